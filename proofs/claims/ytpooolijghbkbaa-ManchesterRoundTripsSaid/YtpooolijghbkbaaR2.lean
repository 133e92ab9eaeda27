/-
  Layer 17: the round trip, plain: the parts of an item.
-/
import Derived.Test.YtpooolijghbkbaaR1
namespace Go.Proofs.Ytpooolijghbkbaa
open Go
open Sw (Rn lg gd nil_or_snoc pt pt_nil pt_snoc lg_append)
set_option linter.unusedVariables false

theorem mul4 (x y D : Int) : 4 * (x - y) * D = 4 * (x * D) - 4 * (y * D) := by rw [Int.mul_assoc, Int.sub_mul, Int.mul_sub]
/-- The distances of edges from the last middle. -/
theorem dist {N D : Int} (h : Bt N D) (k : Int) :
    4 * (bdI N D k - smI N D (k - 1)) * D < 3 * N ∧ (bdI N D k - smI N D (k - 1)) * D < 2 * N ∧
    3 * N ≤ 4 * (smI N D k - smI N D (k - 1)) * D ∧ 4 * (smI N D k - smI N D (k - 1)) * D ≤ 5 * N ∧ (smI N D k - smI N D (k - 1)) * D < 2 * N ∧
    5 * N < 4 * (bdI N D (k + 1) - smI N D (k - 1)) * D ∧ (bdI N D (k + 1) - smI N D (k - 1)) * D < 2 * N ∧
    smI N D (k - 1) + smI N D 0 < smI N D k := by
  obtain ⟨d1, d2, n1, n2, n3⟩ := h
  have a1 := sc_low k N D d1
  have b1 := sc_low (k + 1) N D d1
  have b2 := sc_high (k + 1) N D d1
  have c1 := sc_low (2 * (k - 1) + 1) N (2 * D) (by omega)
  have c2 := sc_high (2 * (k - 1) + 1) N (2 * D) (by omega)
  have e1 := sc_low (2 * k + 1) N (2 * D) (by omega)
  have e2 := sc_high (2 * k + 1) N (2 * D) (by omega)
  have f1 := sc_low (2 * 0 + 1) N (2 * D) (by omega)
  have x1 : (2 * (k - 1) + 1) * N = 2 * (k * N) - N := by rw [show 2 * (k - 1) + 1 = 2 * k - 1 by omega, Int.sub_mul, Int.mul_assoc]; omega
  have x2 : (2 * k + 1) * N = 2 * (k * N) + N := by rw [Int.add_mul, Int.mul_assoc]; omega
  have x3 : (k + 1) * N = k * N + N := by rw [Int.add_mul]; omega
  have x4 : (2 * 0 + 1) * N = N := by omega
  rw [x1] at c1 c2; rw [x2] at e1 e2; rw [x3] at b1 b2; rw [x4] at f1
  have y : ∀ x : Int, x * (2 * D) = 2 * (x * D) := fun x => Int.mul_left_comm _ _ _
  have y1 : ∀ x : Int, (x + 1) * (2 * D) = 2 * (x * D) + 2 * D := fun x => by rw [y, Int.add_mul]; omega
  have y2 : ∀ x : Int, (x + 1) * D = x * D + D := fun x => by rw [Int.add_mul]; omega
  rw [y] at c1 e1 f1; rw [y1] at c2 e2; rw [y2] at b2
  rw [mul4, mul4, mul4, Int.sub_mul, Int.sub_mul, Int.sub_mul]
  have g1 : bdI N D k = sc k N D := rfl
  have g2 : bdI N D (k + 1) = sc (k + 1) N D := rfl
  have g3 : smI N D k = sc (2 * k + 1) N (2 * D) := rfl
  have g4 : smI N D (k - 1) = sc (2 * (k - 1) + 1) N (2 * D) := rfl
  have g5 : smI N D 0 = sc (2 * 0 + 1) N (2 * D) := rfl
  rw [g1, g2, g3, g4, g5]
  refine ⟨by omega, by omega, by omega, by omega, by omega, by omega, by omega, ?_⟩
  refine Int.lt_of_mul_lt_mul_right (a := D) ?_ (by omega)
  rw [Int.add_mul]; omega

/-- A boundary: no effect. -/
theorem ed_early {N D m t v : Int} (h1 : 4 * (t - m) * D < 3 * N) (h2 : (t - m) * D < 2 * N) : edG 1 N D 1 m t v = (1, m, []) := by
  unfold edG; rw [if_neg (by omega), if_pos h1]
/-- A middle. -/
theorem ed_mid {N D m t v : Int} (h1 : 3 * N ≤ 4 * (t - m) * D) (h2 : 4 * (t - m) * D ≤ 5 * N) (h3 : (t - m) * D < 2 * N) : edG 1 N D 1 m t v = (1, t, [⟨2, m + smI N D 0, t, v, 0, [], 0⟩]) := by
  unfold edG; rw [if_neg (by omega), if_neg (by omega)]
  unfold bnE; rw [if_neg (by omega), if_neg (by omega)]
/-- Too late for a middle. -/
theorem ed_code {N D m t v : Int} (h1 : 5 * N < 4 * (t - m) * D) (h3 : (t - m) * D < 2 * N) (hN : 0 ≤ N) : edG 1 N D 1 m t v = (1, t, [⟨2, m + smI N D 0, t, 0, 0, [], 5⟩]) := by
  unfold edG; rw [if_neg (by omega), if_neg (by omega)]
  unfold bnE; rw [if_pos h1, if_pos h1]

/-- A bit of a transmission. -/
theorem bit_fold {N D : Int} (h : Bt N D) (s k p v : Int) (ch : UInt8) (o : List Ev) (hv : v = 0 ∨ v = 1) (hc : hvI ch = (1 - v, v)) (hp : p = 0 ∨ p = 1) :
    (hpL N D k ch).foldl (fS N D) ⟨1, s + smI N D (k - 1), p, s + bdI N D k, o⟩ = ⟨1, s + smI N D k, v, s + bdI N D (k + 1), o ++ [⟨2, s + smI N D (k - 1) + smI N D 0, s + smI N D k, v, 0, [], 0⟩]⟩ := by
  obtain ⟨_, _, w1, w2⟩ := hp_ok h k ch
  obtain ⟨e1, e2, e3, e4, e5, _, _, _⟩ := dist h k
  have first : fS N D ⟨1, s + smI N D (k - 1), p, s + bdI N D k, o⟩ (1 - v, smI N D k - bdI N D k) = ⟨1, s + smI N D (k - 1), 1 - v, s + smI N D k, o⟩ := by
    by_cases hq : 1 - v = p
    · rw [fS_same N D _ _ w1 hq]; subst hq
      simp only [CR.mk.injEq, true_and, and_true]; omega
    · rw [fS_turn N D _ _ w1 hq]
      simp only
      rw [ed_early (by rw [show s + bdI N D k - (s + smI N D (k - 1)) = bdI N D k - smI N D (k - 1) by omega]; exact e1) (by rw [show s + bdI N D k - (s + smI N D (k - 1)) = bdI N D k - smI N D (k - 1) by omega]; exact e2)]
      simp only [CR.mk.injEq, true_and, List.append_nil, and_true]; omega
  simp only [hpL, hc, List.foldl_cons, List.foldl_nil]
  rw [first, fS_turn N D _ _ w2 (by simp only; omega)]
  simp only
  have hd : s + smI N D k - (s + smI N D (k - 1)) = smI N D k - smI N D (k - 1) := by omega
  rw [ed_mid (by rw [hd]; exact e3) (by rw [hd]; exact e4) (by rw [hd]; exact e5)]
  simp only [CR.mk.injEq, true_and, and_true]; omega
/-- A bit without an edge in its middle. -/
theorem brk_fold {N D : Int} (h : Bt N D) (s k p : Int) (o : List Ev) (hp : p = 0 ∨ p = 1) :
    (hpL N D k 120).foldl (fS N D) ⟨1, s + smI N D (k - 1), p, s + bdI N D k, o⟩ = ⟨1, s + smI N D (k - 1), 1, s + bdI N D (k + 1), o⟩ := by
  obtain ⟨_, _, w1, w2⟩ := hp_ok h k 120
  obtain ⟨e1, e2, _⟩ := dist h k
  have hc : hvI 120 = (1, 1) := by decide
  have first : fS N D ⟨1, s + smI N D (k - 1), p, s + bdI N D k, o⟩ (1, smI N D k - bdI N D k) = ⟨1, s + smI N D (k - 1), 1, s + smI N D k, o⟩ := by
    by_cases hq : 1 = p
    · rw [fS_same N D _ _ w1 hq]; subst hq
      simp only [CR.mk.injEq, true_and, and_true]; omega
    · rw [fS_turn N D _ _ w1 hq]
      simp only
      rw [ed_early (by rw [show s + bdI N D k - (s + smI N D (k - 1)) = bdI N D k - smI N D (k - 1) by omega]; exact e1) (by rw [show s + bdI N D k - (s + smI N D (k - 1)) = bdI N D k - smI N D (k - 1) by omega]; exact e2)]
      simp only [CR.mk.injEq, true_and, List.append_nil, and_true]; omega
  simp only [hpL, hc, List.foldl_cons, List.foldl_nil]
  rw [first, fS_same N D _ _ w2 rfl]
  simp only [CR.mk.injEq, true_and, and_true]; omega
/-- A state at which a transmission may begin. -/
def rdy (N D : Int) (c : CR) : Prop := c.p = 0 ∧ (c.y = 0 ∨ c.m + bdI N D 2 ≤ c.t)
theorem start_fold {N D : Int} (h : Bt N D) (c : CR) (hr : rdy N D c) : (hpL N D 0 49).foldl (fS N D) c = ⟨1, c.t + smI N D 0, 1, c.t + bdI N D 1, c.o⟩ := by
  obtain ⟨_, _, w1, w2⟩ := hp_ok h 0 49
  have hc : hvI 49 = (0, 1) := by decide
  have b0 := bd_zero N D
  have first : fS N D c (0, smI N D 0 - bdI N D 0) = ⟨c.y, c.m, 0, c.t + smI N D 0, c.o⟩ := by
    rw [fS_same N D _ _ w1 hr.1.symm, hr.1]
    simp only [CR.mk.injEq, true_and, and_true]; omega
  simp only [hpL, hc, List.foldl_cons, List.foldl_nil]
  rw [first, fS_turn N D _ _ w2 (by simp only; omega)]
  simp only
  have hl : c.y = 0 ∨ 2 * N ≤ (c.t + smI N D 0 - c.m) * D := by
    rcases hr.2 with hy | hm
    · exact .inl hy
    · right
      have s2 := (sm_bd h 0).1
      have hb := sc_high 2 N D h.d1
      have g : bdI N D 2 = sc 2 N D := rfl
      have : (bdI N D 2 + 2) * D ≤ (c.t + smI N D 0 - c.m) * D := Int.mul_le_mul_of_nonneg_right (by omega) (by have := h.d1; omega)
      rw [Int.add_mul] at this hb
      rw [g] at this
      have := h.d1
      omega
  unfold edG
  rw [if_pos hl]
  simp only [if_true, List.append_nil, CR.mk.injEq, true_and, and_true]
  rw [show (0 : Int) + 1 = 1 by omega]; omega

/-- The events of the first bits of a transmission that begins at s. -/
def boL (N D s : Int) (d : List UInt8) : Nat → List Ev
  | 0 => []
  | i + 1 => boL N D s d i ++ [⟨2, s + smI N D i + smI N D 0, s + smI N D ((i : Int) + 1), ((d.getD i 0).toNat : Int) - 48, 0, [], 0⟩]
theorem boL_len (N D s : Int) (d : List UInt8) (n : Nat) : (boL N D s d n).length = n := by
  induction n with
  | zero => rfl
  | succ n ih => simp [boL, ih]
theorem hv_bit {c : UInt8} (h : c.toNat = 48 ∨ c.toNat = 49) : hvI c = (1 - ((c.toNat : Int) - 48), (c.toNat : Int) - 48) := by
  rcases h with h | h
  · have : c = 48 := UInt8.toNat_inj.1 (by simpa using h)
    subst this; rfl
  · have : c = 49 := UInt8.toNat_inj.1 (by simpa using h)
    subst this; rfl
/-- The state behind the start bit and some bits. -/
theorem bits_fold {N D : Int} (h : Bt N D) (c : CR) (hr : rdy N D c) (L d : List UInt8) (hL0 : L.getD 0 0 = 49) (n : Nat) (hL : ∀ i, i < n → L.getD (i + 1) 0 = d.getD i 0 ∧ ((d.getD i 0).toNat = 48 ∨ (d.getD i 0).toNat = 49)) :
    ∃ p, (p = 0 ∨ p = 1) ∧ (bpL N D L (n + 1)).foldl (fS N D) c = ⟨1, c.t + smI N D n, p, c.t + bdI N D ((n : Int) + 1), c.o ++ boL N D c.t d n⟩ := by
  induction n with
  | zero =>
    refine ⟨1, .inr rfl, ?_⟩
    simp only [bpL, List.nil_append, boL, List.append_nil]
    rw [hL0]
    exact start_fold h c hr
  | succ n ih =>
    obtain ⟨p, hp, e⟩ := ih fun i hi => hL i (by omega)
    obtain ⟨l1, l2⟩ := hL n (by omega)
    refine ⟨((d.getD n 0).toNat : Int) - 48, by omega, ?_⟩
    rw [bpL, List.foldl_append, e, l1]
    have := bit_fold h c.t ((n : Int) + 1) p (((d.getD n 0).toNat : Int) - 48) (d.getD n 0) (c.o ++ boL N D c.t d n) (by omega) (hv_bit l2) hp
    rw [show (n : Int) + 1 - 1 = n by omega] at this
    rw [show ((n + 1 : Nat) : Int) = (n : Int) + 1 by omega, this]
    simp only [boL, List.append_assoc]
/-- The number of events of an item, and how they look. -/
def nbI (e : It) : Nat := if e.u = 5 then e.x.toNat else e.d.size
def okEv (e : It) (L : List Ev) : Prop := L.length = (if e.u = 5 then e.x.toNat + 1 else e.d.size) ∧ (∀ i, i < nbI e → ∃ x, L[i]? = some x ∧ x.k = 2 ∧ x.v = ((e.d.data.toList.getD i 0).toNat : Int) - 48 ∧ x.u = 0 ∧ x.f < x.t) ∧ (e.u = 5 → ∃ x, L[e.x.toNat]? = some x ∧ x.k = 2 ∧ x.v = 0 ∧ x.u = 5)
theorem boL_at {N D : Int} (h : Bt N D) (s : Int) (d : List UInt8) (n i : Nat) (hi : i < n) (Q : List Ev) : ∃ x, (boL N D s d n ++ Q)[i]? = some x ∧ x.k = 2 ∧ x.v = ((d.getD i 0).toNat : Int) - 48 ∧ x.u = 0 ∧ x.f < x.t := by
  induction n generalizing Q with
  | zero => omega
  | succ n ih =>
    by_cases hn : i = n
    · subst hn
      refine ⟨⟨2, s + smI N D i + smI N D 0, s + smI N D ((i : Int) + 1), ((d.getD i 0).toNat : Int) - 48, 0, [], 0⟩, ?_, rfl, rfl, rfl, ?_⟩
      · rw [boL, List.append_assoc, List.getElem?_append_right (by rw [boL_len]; omega), boL_len]; simp
      · have := (dist h ((i : Int) + 1)).2.2.2.2.2.2.2
        rw [show (i : Int) + 1 - 1 = i by omega] at this
        show s + smI N D i + smI N D 0 < s + smI N D ((i : Int) + 1)
        omega
    · rw [boL, List.append_assoc]
      exact ih (by omega) _
theorem item_fold {N D : Int} (h : Bt N D) (c : CR) (hr : rdy N D c) {e : It} (ho : OkT e) : ∃ L, okEv e L ∧ ((ipL N D e).foldl (fS N D) c).o = c.o ++ L ∧ rdy N D ((ipL N D e).foldl (fS N D) c) := by
  have b2 : 1 ≤ bdI N D 2 := by
    have d1 := (bd_next h 0).1; have d2 := (bd_next h (0 + 1)).1
    rw [bd_zero] at d1; rw [show (0 : Int) + 1 + 1 = 2 by omega] at d2; omega
  have hdl : e.d.data.toList.length = e.d.size := Array.length_toList
  have hN : 0 ≤ N := by have := h.n1; have := h.d1; omega
  -- the gap
  obtain ⟨c1, hc1, hr1, ho1⟩ : ∃ c1, fS N D c (0, e.g) = c1 ∧ rdy N D c1 ∧ c1.o = c.o := by
    refine ⟨_, rfl, ?_⟩
    by_cases hg : e.g ≤ 0
    · rw [fS_zero N D c 0 hg]; exact ⟨hr, rfl⟩
    · rw [fS_same N D c 0 (by omega) hr.1.symm]
      refine ⟨⟨hr.1, ?_⟩, rfl⟩
      rcases hr.2 with h1 | h1
      · exact .inl h1
      · exact .inr (by simp only; omega)
  have hfold : (ipL N D e).foldl (fS N D) c = fS N D ((bpL N D (txL e.x e.u e.d.data.toList) (txL e.x e.u e.d.data.toList).length).foldl (fS N D) c1) (0, bdI N D 2) := by
    simp only [ipL, List.foldl_cons, List.foldl_append, List.foldl_nil, hc1]
  rw [hfold]
  have hbit : ∀ i, i < e.d.size → (e.d.data.toList.getD i 0).toNat = 48 ∨ (e.d.data.toList.getD i 0).toNat = 49 := by
    intro i hi
    have : e.d.data.toList.getD i 0 ∈ e.d.data.toList := by
      rw [List.getD, List.getElem?_eq_getElem (by omega)]; exact List.getElem_mem _
    exact Sb.okB_mem ho.ok this
  by_cases hu : e.u = 5
  · obtain ⟨x0, x1⟩ := ho.x hu
    have hxn : e.x.toNat < e.d.size := by omega
    have htx : txL e.x e.u e.d.data.toList = 49 :: (e.d.data.toList.take e.x.toNat ++ [120]) := by unfold txL; rw [if_pos hu]
    have hlen : (txL e.x e.u e.d.data.toList).length = e.x.toNat + 1 + 1 := by rw [htx]; simp; omega
    obtain ⟨p, hp, hb⟩ := bits_fold h c1 hr1 (txL e.x e.u e.d.data.toList) e.d.data.toList (by rw [htx]; rfl) e.x.toNat (by
      intro i hi
      refine ⟨?_, hbit i (by omega)⟩
      rw [htx, List.getD_cons_succ, List.getD, List.getD, List.getElem?_append_left (by rw [List.length_take]; omega), List.getElem?_take, if_pos hi])
    rw [hlen, bpL, List.foldl_append, hb]
    have hbr : (txL e.x e.u e.d.data.toList).getD (e.x.toNat + 1) 0 = 120 := by
      have ht : (e.d.data.toList.take e.x.toNat).length = e.x.toNat := by rw [List.length_take]; omega
      rw [htx, List.getD_cons_succ, List.getD, List.getElem?_append_right (by omega), ht]
      simp
    rw [hbr]
    have hk := brk_fold h c1.t ((e.x.toNat : Int) + 1) p (c1.o ++ boL N D c1.t e.d.data.toList e.x.toNat) hp
    rw [show (e.x.toNat : Int) + 1 - 1 = e.x.toNat by omega] at hk
    rw [show ((e.x.toNat + 1 : Nat) : Int) = (e.x.toNat : Int) + 1 by omega, hk]
    have hds := dist h ((e.x.toNat : Int) + 1)
    rw [show (e.x.toNat : Int) + 1 - 1 = e.x.toNat by omega] at hds
    rw [fS_turn N D _ _ b2 (by simp only; omega)]
    simp only
    have hd : ∀ B : Int, c1.t + B - (c1.t + smI N D e.x.toNat) = B - smI N D e.x.toNat := fun B => by omega
    rw [ed_code (by rw [hd]; exact hds.2.2.2.2.2.1) (by rw [hd]; exact hds.2.2.2.2.2.2.1) hN]
    refine ⟨boL N D c1.t e.d.data.toList e.x.toNat ++ [⟨2, c1.t + smI N D e.x.toNat + smI N D 0, c1.t + bdI N D ((e.x.toNat : Int) + 1 + 1), 0, 0, [], 5⟩], ⟨?_, ?_, ?_⟩, ?_, ?_⟩
    · rw [if_pos hu, List.length_append, boL_len]; rfl
    · intro i hi
      unfold nbI at hi; rw [if_pos hu] at hi
      exact boL_at h c1.t _ _ i hi _
    · intro _
      refine ⟨⟨2, c1.t + smI N D e.x.toNat + smI N D 0, c1.t + bdI N D ((e.x.toNat : Int) + 1 + 1), 0, 0, [], 5⟩, ?_, rfl, rfl, rfl⟩
      rw [List.getElem?_append_right (by rw [boL_len]; omega), boL_len]; simp
    · simp only [ho1, List.append_assoc]
    · exact ⟨rfl, .inr (by simp only; omega)⟩
  · have htx : txL e.x e.u e.d.data.toList = 49 :: e.d.data.toList := by unfold txL; rw [if_neg hu]
    have hlen : (txL e.x e.u e.d.data.toList).length = e.d.size + 1 := by rw [htx]; simp
    obtain ⟨p, hp, hb⟩ := bits_fold h c1 hr1 (txL e.x e.u e.d.data.toList) e.d.data.toList (by rw [htx]; rfl) e.d.size (by
      intro i hi
      exact ⟨by rw [htx, List.getD_cons_succ], hbit i hi⟩)
    rw [hlen, hb]
    have hds := dist h ((e.d.size : Int) + 1)
    rw [show (e.d.size : Int) + 1 - 1 = e.d.size by omega] at hds
    have hd : ∀ B : Int, c1.t + B - (c1.t + smI N D e.d.size) = B - smI N D e.d.size := fun B => by omega
    have hs := (sm_bd h e.d.size).2
    have hend : fS N D ⟨1, c1.t + smI N D e.d.size, p, c1.t + bdI N D ((e.d.size : Int) + 1), c1.o ++ boL N D c1.t e.d.data.toList e.d.size⟩ (0, bdI N D 2) = ⟨1, c1.t + smI N D e.d.size, 0, c1.t + bdI N D ((e.d.size : Int) + 1) + bdI N D 2, c1.o ++ boL N D c1.t e.d.data.toList e.d.size⟩ := by
      by_cases hq : (0 : Int) = p
      · rw [fS_same N D _ _ b2 hq]; subst hq; rfl
      · rw [fS_turn N D _ _ b2 hq]
        simp only
        rw [ed_early (by rw [hd]; exact hds.1) (by rw [hd]; exact hds.2.1)]
        simp only [List.append_nil]
    rw [hend]
    refine ⟨boL N D c1.t e.d.data.toList e.d.size, ⟨?_, ?_, fun h5 => absurd h5 hu⟩, by simp only [ho1], ⟨rfl, .inr (by simp only; omega)⟩⟩
    · rw [if_neg hu, boL_len]
    · intro i hi
      unfold nbI at hi; rw [if_neg hu] at hi
      have := boL_at h c1.t e.d.data.toList _ i hi []
      rwa [List.append_nil] at this

theorem fm_congr {α β : Type} {l : List α} {F G : α → List β} (h : ∀ x ∈ l, F x = G x) : l.flatMap F = l.flatMap G := by
  induction l with
  | nil => rfl
  | cons a l ih => rw [List.flatMap_cons, List.flatMap_cons, h a (by simp), ih fun x hx => h x (by simp [hx])]
/-- The events of items, item for item. -/
theorem items_fold {N D : Int} (h : Bt N D) {l : List It} (hl : ∀ j (hj : j < l.length), OkT l[j]) : ∀ n, n ≤ l.length → ∃ F : Nat → List Ev, (∀ j (hj : j < n) (hj' : j < l.length), okEv l[j] (F j)) ∧ ((epL N D l n).foldl (fS N D) CR.zero).o = (List.range n).flatMap F ∧ rdy N D ((epL N D l n).foldl (fS N D) CR.zero) := by
  intro n
  induction n with
  | zero =>
    intro _
    have b2 : 1 ≤ bdI N D 2 := by
      have d1 := (bd_next h 0).1; have d2 := (bd_next h (0 + 1)).1
      rw [bd_zero] at d1; rw [show (0 : Int) + 1 + 1 = 2 by omega] at d2; omega
    refine ⟨fun _ => [], fun j hj => by omega, ?_, ?_⟩
    · simp only [epL, List.foldl_cons, List.foldl_nil]; rw [fS_same N D _ _ b2 rfl]; rfl
    · simp only [epL, List.foldl_cons, List.foldl_nil]; rw [fS_same N D _ _ b2 rfl]; exact ⟨rfl, .inl rfl⟩
  | succ n ih =>
    intro hn
    obtain ⟨F, f1, f2, f3⟩ := ih (by omega)
    have e : l.getD n default = l[n] := by simp [List.getD, List.getElem?_eq_getElem (show n < l.length by omega)]
    obtain ⟨L, g1, g2, g3⟩ := item_fold h _ f3 (hl n (by omega))
    refine ⟨fun j => if j = n then L else F j, ?_, ?_, ?_⟩
    · intro j hj hj'
      by_cases hjn : j = n
      · subst hjn; simp only [if_true]; exact g1
      · simp only [if_neg hjn]; exact f1 j (by omega) hj'
    · rw [epL, e, List.foldl_append, g2, f2, List.range_succ, List.flatMap_append]
      congr 1
      · refine fm_congr fun j hj => ?_
        rw [List.mem_range] at hj
        simp only [if_neg (show ¬ j = n by omega)]
      · simp
    · rw [epL, e, List.foldl_append]; exact g3

end Go.Proofs.Ytpooolijghbkbaa
