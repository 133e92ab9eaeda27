/-
  Events, their order, lists in order: the mathematics of layer 7, without the program.
  Boundaries and samples of a bit time N / D (at least four ticks): the mathematics of layer 15, without the program.
-/
import Derived.Test.YtmbeaagpjpphhaaZ06
import Derived.Sort.Walk0
namespace Go.Proofs.Ytmbeaagpjpphhaa
open Go

/-- An event: kind, from, to, value, aux, data, fault. -/
structure Ev where
  k : Int
  f : Int
  t : Int
  v : Int
  a : Int
  d : List UInt8
  u : Int
deriving DecidableEq

/-- What the document says of an event. -/
def vE (e : Ev) : Bool :=
  decide (1 ≤ e.k ∧ e.k ≤ 8 ∧ 0 ≤ e.f ∧ e.f ≤ e.t ∧ e.t ≤ 1099511627776 ∧ e.d.length ≤ 4096 ∧ 0 ≤ e.u ∧ e.u ≤ 12 ∧
    -9007199254740992 ≤ e.v ∧ e.v ≤ 9007199254740992 ∧ -9007199254740992 ≤ e.a ∧ e.a ≤ 9007199254740992)

/-- a precedes b. -/
def lE (a b : Ev) : Bool :=
  if a.f ≠ b.f then decide (a.f < b.f)
  else if a.t ≠ b.t then decide (a.t < b.t)
  else if a.k ≠ b.k then decide (a.k < b.k)
  else if a.v ≠ b.v then decide (a.v < b.v)
  else if a.a ≠ b.a then decide (a.a < b.a)
  else if a.d ≠ b.d then Op.bytesLess a.d b.d
  else decide (a.u < b.u)

theorem bl_irrefl : ∀ x : List UInt8, Op.bytesLess x x = false
  | [] => rfl
  | a :: x => by rw [Op.bytesLess, bl_irrefl x]; simp
theorem bl_asymm : ∀ x y : List UInt8, Op.bytesLess x y = true → Op.bytesLess y x = false
  | [], [], _ => rfl
  | [], _ :: _, _ => rfl
  | _ :: _, [], h => by simp [Op.bytesLess] at h
  | a :: x, b :: y, h => by
    rw [Op.bytesLess] at h ⊢
    have ih := bl_asymm x y
    simp only [Bool.or_eq_true, decide_eq_true_eq, Bool.and_eq_true, beq_iff_eq] at h
    rcases h with h | ⟨rfl, h⟩
    · have h1 : ¬ b < a := fun h2 => by have := UInt8.lt_iff_toNat_lt.1 h; have := UInt8.lt_iff_toNat_lt.1 h2; omega
      have h2 : b ≠ a := fun e => by subst e; have := UInt8.lt_iff_toNat_lt.1 h; omega
      simp [h1, h2]
    · simp [ih h]
theorem bl_total : ∀ x y : List UInt8, x ≠ y → Op.bytesLess x y = true ∨ Op.bytesLess y x = true
  | [], [], h => absurd rfl h
  | [], _ :: _, _ => .inl rfl
  | _ :: _, [], _ => .inr rfl
  | a :: x, b :: y, h => by
    rw [Op.bytesLess, Op.bytesLess]
    have ih := bl_total x y
    simp only [Bool.or_eq_true, decide_eq_true_eq, Bool.and_eq_true, beq_iff_eq]
    by_cases e : a = b
    · subst e
      have : x ≠ y := fun e => h (by rw [e])
      rcases ih this with h1 | h1
      · exact .inl (.inr ⟨rfl, h1⟩)
      · exact .inr (.inr ⟨rfl, h1⟩)
    · have hne : a.toNat ≠ b.toNat := fun h => e (UInt8.toNat_inj.1 h)
      rcases Nat.lt_or_gt_of_ne hne with h1 | h1
      · exact .inl (.inl (UInt8.lt_iff_toNat_lt.2 h1))
      · exact .inr (.inl (UInt8.lt_iff_toNat_lt.2 h1))
theorem bl_trans : ∀ x y z : List UInt8, Op.bytesLess x y = true → Op.bytesLess y z = true → Op.bytesLess x z = true
  | [], [], _, h, _ => by simp [Op.bytesLess] at h
  | [], _ :: _, [], _, h => by simp [Op.bytesLess] at h
  | [], _ :: _, _ :: _, _, _ => rfl
  | _ :: _, [], _, h, _ => by simp [Op.bytesLess] at h
  | _ :: _, _ :: _, [], _, h => by simp [Op.bytesLess] at h
  | a :: x, b :: y, c :: z, h1, h2 => by
    rw [Op.bytesLess] at h1 h2 ⊢
    have ih := bl_trans x y z
    simp only [Bool.or_eq_true, decide_eq_true_eq, Bool.and_eq_true, beq_iff_eq] at h1 h2 ⊢
    rcases h1 with h1 | ⟨rfl, h1⟩
    · rcases h2 with h2 | ⟨rfl, _⟩
      · exact .inl (UInt8.lt_iff_toNat_lt.2 (Nat.lt_trans (UInt8.lt_iff_toNat_lt.1 h1) (UInt8.lt_iff_toNat_lt.1 h2)))
      · exact .inl h1
    · rcases h2 with h2 | ⟨rfl, h2⟩
      · exact .inl h2
      · exact .inr ⟨rfl, ih h1 h2⟩

/-- The order in words. -/
theorem lE_iff (a b : Ev) : lE a b = true ↔ a.f < b.f ∨ a.f = b.f ∧ (a.t < b.t ∨ a.t = b.t ∧ (a.k < b.k ∨ a.k = b.k ∧ (a.v < b.v ∨ a.v = b.v ∧ (a.a < b.a ∨ a.a = b.a ∧ (Op.bytesLess a.d b.d = true ∨ a.d = b.d ∧ a.u < b.u))))) := by
  unfold lE
  by_cases h1 : a.f = b.f
  · rw [if_neg (by simpa using h1)]
    by_cases h2 : a.t = b.t
    · rw [if_neg (by simpa using h2)]
      by_cases h3 : a.k = b.k
      · rw [if_neg (by simpa using h3)]
        by_cases h4 : a.v = b.v
        · rw [if_neg (by simpa using h4)]
          by_cases h5 : a.a = b.a
          · rw [if_neg (by simpa using h5)]
            by_cases h6 : a.d = b.d
            · rw [if_neg (by simpa using h6)]
              simp [h1, h2, h3, h4, h5, h6, bl_irrefl]
            · rw [if_pos h6]
              simp [h1, h2, h3, h4, h5, h6]
          · rw [if_pos h5]; simp [h1, h2, h3, h4, h5]
        · rw [if_pos h4]; simp [h1, h2, h3, h4]
      · rw [if_pos h3]; simp [h1, h2, h3]
    · rw [if_pos h2]; simp [h1, h2]
  · rw [if_pos h1]; simp [h1]
theorem lE_irrefl (a : Ev) : lE a a = false := by
  cases h : lE a a with
  | false => rfl
  | true => rw [lE_iff, bl_irrefl] at h; simp at h
theorem lE_trans {a b c : Ev} (h1 : lE a b = true) (h2 : lE b c = true) : lE a c = true := by
  rw [lE_iff] at *
  rcases h1 with h1 | ⟨e1, h1⟩
  · rcases h2 with h2 | ⟨e2, h2⟩ <;> exact .inl (by omega)
  rcases h2 with h2 | ⟨e2, h2⟩
  · exact .inl (by omega)
  refine .inr ⟨by omega, ?_⟩
  rcases h1 with h1 | ⟨f1, h1⟩
  · rcases h2 with h2 | ⟨f2, h2⟩ <;> exact .inl (by omega)
  rcases h2 with h2 | ⟨f2, h2⟩
  · exact .inl (by omega)
  refine .inr ⟨by omega, ?_⟩
  rcases h1 with h1 | ⟨g1, h1⟩
  · rcases h2 with h2 | ⟨g2, h2⟩ <;> exact .inl (by omega)
  rcases h2 with h2 | ⟨g2, h2⟩
  · exact .inl (by omega)
  refine .inr ⟨by omega, ?_⟩
  rcases h1 with h1 | ⟨i1, h1⟩
  · rcases h2 with h2 | ⟨i2, h2⟩ <;> exact .inl (by omega)
  rcases h2 with h2 | ⟨i2, h2⟩
  · exact .inl (by omega)
  refine .inr ⟨by omega, ?_⟩
  rcases h1 with h1 | ⟨j1, h1⟩
  · rcases h2 with h2 | ⟨j2, h2⟩ <;> exact .inl (by omega)
  rcases h2 with h2 | ⟨j2, h2⟩
  · exact .inl (by omega)
  refine .inr ⟨by omega, ?_⟩
  rcases h1 with h1 | ⟨k1, h1⟩
  · rcases h2 with h2 | ⟨k2, h2⟩
    · exact .inl (bl_trans _ _ _ h1 h2)
    · exact .inl (by rw [← k2]; exact h1)
  rcases h2 with h2 | ⟨k2, h2⟩
  · exact .inl (by rw [k1]; exact h2)
  exact .inr ⟨k1.trans k2, by omega⟩
theorem lE_asymm {a b : Ev} (h : lE a b = true) : lE b a = false := by
  cases h2 : lE b a with
  | false => rfl
  | true => have := lE_trans h h2; rw [lE_irrefl] at this; cases this
theorem lE_total {a b : Ev} (h : a ≠ b) : lE a b = true ∨ lE b a = true := by
  rw [lE_iff, lE_iff]
  by_cases h1 : a.f = b.f
  · by_cases h2 : a.t = b.t
    · by_cases h3 : a.k = b.k
      · by_cases h4 : a.v = b.v
        · by_cases h5 : a.a = b.a
          · by_cases h6 : a.d = b.d
            · have h7 : a.u ≠ b.u := fun h7 => h (by cases a; cases b; simp_all)
              simp only [h1, h2, h3, h4, h5, h6, true_and, bl_irrefl]
              omega
            · have := bl_total _ _ h6
              simp only [h1, h2, h3, h4, h5, h6, true_and]
              rcases this with h7 | h7
              · exact .inl (.inr (.inr (.inr (.inr (.inr (.inl h7))))))
              · exact .inr (.inr (.inr (.inr (.inr (.inr (.inl h7))))))
          · simp only [h1, h2, h3, h4, true_and]; omega
        · simp only [h1, h2, h3, true_and]; omega
      · simp only [h1, h2, true_and]; omega
    · simp only [h1, true_and]; omega
  · omega
theorem lE_same {a b : Ev} (h1 : lE a b = false) (h2 : lE b a = false) : a = b := by
  by_cases h : a = b
  · exact h
  · rcases lE_total h with h3 | h3
    · rw [h1] at h3; cases h3
    · rw [h2] at h3; cases h3

/-- In order: no later one precedes an earlier one. -/
def oE (l : List Ev) : Prop := l.Pairwise fun a b => lE b a = false
theorem le_trans' {a b c : Ev} (h1 : lE b a = false) (h2 : lE c b = false) : lE c a = false := by
  cases h : lE c a with
  | false => rfl
  | true =>
    by_cases e : a = b
    · subst e; rw [h] at h2; cases h2
    · rcases lE_total e with h3 | h3
      · have := lE_trans h h3; rw [h2] at this; cases this
      · rw [h1] at h3; cases h3
/-- Two lists in order with the same events are the same. -/
theorem oE_unique {l m : List Ev} (h1 : oE l) (h2 : oE m) (h : l.Perm m) : l = m := by
  induction l generalizing m with
  | nil => exact (List.nil_perm.1 h).symm
  | cons a l ih =>
    cases m with
    | nil => exact absurd (List.perm_nil.1 h) (by simp)
    | cons b m =>
      have hab : a = b := by
        have ha : a ∈ b :: m := h.subset List.mem_cons_self
        have hb : b ∈ a :: l := h.symm.subset List.mem_cons_self
        rcases List.mem_cons.1 ha with e | ha
        · exact e
        rcases List.mem_cons.1 hb with e | hb
        · exact e.symm
        exact lE_same ((List.pairwise_cons.1 h2).1 _ ha) ((List.pairwise_cons.1 h1).1 _ hb)
      subst hab
      rw [ih (List.pairwise_cons.1 h1).2 (List.pairwise_cons.1 h2).2 h.cons_inv]

/-- The specification's insert, and its sort. -/
def insE (e : Ev) : List Ev → List Ev
  | [] => [e]
  | x :: r => if lE e x then e :: x :: r else x :: insE e r
theorem insE_perm (e : Ev) (l : List Ev) : (insE e l).Perm (e :: l) := by
  induction l with
  | nil => exact List.Perm.refl _
  | cons x r ih =>
    unfold insE
    split
    · exact List.Perm.refl _
    · exact (List.Perm.cons x ih).trans (List.Perm.swap e x r)
theorem insE_mem {e y : Ev} {l : List Ev} (h : y ∈ insE e l) : y = e ∨ y ∈ l := List.mem_cons.1 ((insE_perm e l).subset h)
theorem insE_ord (e : Ev) (l : List Ev) (h : oE l) : oE (insE e l) := by
  induction l with
  | nil => exact List.pairwise_singleton _ _
  | cons x r ih =>
    have hx := List.pairwise_cons.1 h
    unfold insE
    split
    · rename_i h1
      refine List.pairwise_cons.2 ⟨fun y hy => ?_, h⟩
      rcases List.mem_cons.1 hy with rfl | hy
      · exact lE_asymm h1
      · exact le_trans' (lE_asymm h1) (hx.1 y hy)
    · rename_i h1
      refine List.pairwise_cons.2 ⟨fun y hy => ?_, ih hx.2⟩
      rcases insE_mem hy with rfl | hy
      · simpa using h1
      · exact hx.1 y hy
/-- The sorted list. -/
def soE (l : List Ev) : List Ev := l.foldl (fun o e => insE e o) []
theorem soE_snoc (l : List Ev) (e : Ev) : soE (l ++ [e]) = insE e (soE l) := by unfold soE; rw [List.foldl_append]; rfl
theorem soE_all (l : List Ev) : (soE l).Perm l ∧ oE (soE l) := by
  have key : ∀ (r o : List Ev), oE o → (r.foldl (fun o e => insE e o) o).Perm (o ++ r) ∧ oE (r.foldl (fun o e => insE e o) o) := by
    intro r
    induction r with
    | nil => intro o ho; exact ⟨by simp, ho⟩
    | cons e r ih =>
      intro o ho
      obtain ⟨h1, h2⟩ := ih (insE e o) (insE_ord e o ho)
      refine ⟨h1.trans ?_, h2⟩
      refine ((insE_perm e o).append_right r).trans ?_
      exact (List.perm_middle (a := e) (l₁ := o) (l₂ := r)).symm
  obtain ⟨h1, h2⟩ := key l [] List.Pairwise.nil
  rw [List.nil_append] at h1
  exact ⟨h1, h2⟩
/-- Whatever list in order has the same events, is the sorted list. -/
theorem soE_of {l m : List Ev} (hp : m.Perm l) (ho : oE m) : m = soE l := oE_unique ho (soE_all l).2 (hp.trans (soE_all l).1.symm)

/-- In order: neighbours are. -/
theorem oE_iff (l : List Ev) : oE l ↔ ∀ i (h : i + 1 < l.length), lE l[i + 1] l[i] = false := by
  constructor
  · intro h i hi
    exact List.pairwise_iff_getElem.1 h i (i + 1) (by omega) hi (by omega)
  · intro h
    refine List.pairwise_iff_getElem.2 fun i j hi hj hij => ?_
    have key : ∀ d, ∀ (hd : i + 1 + d < l.length), lE l[i + 1 + d] l[i] = false := by
      intro d
      induction d with
      | zero => intro hd; exact h i hd
      | succ d ih => intro hd; exact le_trans' (ih (by omega)) (h (i + 1 + d) hd)
    have := key (j - i - 1) (by omega)
    have e : i + 1 + (j - i - 1) = j := by omega
    simp only [e] at this
    exact this
/-- How often a list contains an event. -/
theorem count_so (l : List Ev) (e : Ev) : (soE l).count e = l.count e := (soE_all l).1.count_eq e

end Go.Proofs.Ytmbeaagpjpphhaa

namespace Go.Proofs.Ytmbeaagpjpphhaa
open Go
set_option linter.unusedVariables false

/-- floor(n * N / D). -/
def sc (n N D : Int) : Int := n * N / D
def bdI (N D k : Int) : Int := sc k N D
def smI (N D k : Int) : Int := sc (2 * k + 1) N (2 * D)
theorem sc_parts (n N D : Int) (hD : 1 ≤ D) : n / D * N + n % D * N / D = sc n N D := by
  unfold sc
  have h := Int.mul_ediv_add_emod n D
  have e : n * N = n % D * N + n / D * N * D := by
    have : n * N = (D * (n / D) + n % D) * N := by rw [h]
    rw [this, Int.add_mul]
    rw [Int.mul_comm D (n / D), Int.mul_assoc (n / D) D N, Int.mul_comm D N, ← Int.mul_assoc]
    omega
  rw [e, Int.add_mul_ediv_right _ _ (by omega)]
  omega
theorem sc_le {n N D X : Int} (hD : 1 ≤ D) (h : n * N < (X + 1) * D) : sc n N D ≤ X := by
  have := Int.ediv_lt_of_lt_mul (show 0 < D by omega) h
  unfold sc; omega
theorem sc_ge {n N D X : Int} (hD : 1 ≤ D) (h : X * D ≤ n * N) : X ≤ sc n N D := Int.le_ediv_of_mul_le (by omega) h
theorem sc_low (n N D : Int) (hD : 1 ≤ D) : sc n N D * D ≤ n * N := Int.ediv_mul_le _ (by omega)
theorem sc_high (n N D : Int) (hD : 1 ≤ D) : n * N < (sc n N D + 1) * D := by
  have := Int.lt_ediv_add_one_mul_self (n * N) (show 0 < D by omega)
  exact this
theorem sc_nn {n N D : Int} (hD : 1 ≤ D) (hn : 0 ≤ n) (hN : 0 ≤ N) : 0 ≤ sc n N D := sc_ge hD (by rw [Int.zero_mul]; exact Int.mul_nonneg hn hN)

/-- A bit time that the sampler accepts. -/
structure Bt (N D : Int) : Prop where
  d1 : 1 ≤ D
  d2 : D ≤ 1073741824
  n1 : 4 * D ≤ N
  n2 : N ≤ 1073741824
  n3 : N ≤ 1048576 * D

theorem bd_zero (N D : Int) : bdI N D 0 = 0 := by simp [bdI, sc]
theorem bd_next {N D : Int} (h : Bt N D) (k : Int) : bdI N D k + 4 ≤ bdI N D (k + 1) ∧ bdI N D (k + 1) ≤ bdI N D k + 1048577 := by
  obtain ⟨d1, d2, n1, n2, n3⟩ := h
  unfold bdI
  have a := sc_low k N D d1
  have b := sc_high k N D d1
  constructor
  · refine sc_ge d1 ?_
    rw [Int.add_mul, Int.add_mul]; omega
  · refine sc_le d1 ?_
    rw [Int.add_mul] at b
    rw [Int.add_mul, Int.add_mul, Int.add_mul]; omega
theorem sm_next {N D : Int} (h : Bt N D) (k : Int) : smI N D k + 4 ≤ smI N D (k + 1) ∧ smI N D (k + 1) ≤ smI N D k + 1048577 := by
  obtain ⟨d1, d2, n1, n2, n3⟩ := h
  unfold smI
  have a := sc_low (2 * k + 1) N (2 * D) (by omega)
  have b := sc_high (2 * k + 1) N (2 * D) (by omega)
  rw [show 2 * (k + 1) + 1 = (2 * k + 1) + 2 by omega]
  generalize 2 * k + 1 = m at *
  constructor
  · refine sc_ge (by omega) ?_
    rw [Int.add_mul, Int.add_mul]; omega
  · refine sc_le (by omega) ?_
    rw [Int.add_mul] at b
    rw [Int.add_mul, Int.add_mul, Int.add_mul]; omega
theorem sm_bd {N D : Int} (h : Bt N D) (k : Int) : bdI N D k + 2 ≤ smI N D k ∧ smI N D k + 2 ≤ bdI N D (k + 1) + 1 := by
  obtain ⟨d1, d2, n1, n2, n3⟩ := h
  unfold bdI smI
  have a := sc_low k N D d1
  have b := sc_high (k + 1) N D d1
  have e1 : (2 * k + 1) * N = 2 * (k * N) + N := by rw [Int.add_mul, Int.mul_assoc]; omega
  have e3 : (k + 1) * N = k * N + N := by rw [Int.add_mul]; omega
  rw [e3] at b
  constructor
  · refine sc_ge (by omega) ?_
    rw [e1]
    rw [show (sc k N D + 2) * (2 * D) = 2 * (sc k N D * D) + 4 * D by rw [Int.add_mul, Int.mul_left_comm]; omega]
    omega
  · have : sc (2 * k + 1) N (2 * D) ≤ sc (k + 1) N D - 1 := by
      refine sc_le (by omega) ?_
      rw [e1]
      generalize sc (k + 1) N D = X at *
      rw [show (X - 1 + 1) * (2 * D) = 2 * (X * D) by rw [Int.sub_add_cancel, Int.mul_left_comm]]
      rw [Int.add_mul] at b
      omega
    omega
theorem sm_zero {N D : Int} (h : Bt N D) : 2 ≤ smI N D 0 := by
  have := (sm_bd h 0).1
  rw [bd_zero] at this; omega
/-- How many samples lie before a tick. -/
def cnt (N D d : Int) : Int := if smI N D (sc d D N) < d then sc d D N + 1 else sc d D N
theorem whole_bd {N D : Int} (h : Bt N D) (d : Int) : bdI N D (sc d D N) ≤ d ∧ d ≤ bdI N D (sc d D N + 1) := by
  obtain ⟨d1, d2, n1, n2, n3⟩ := h
  have a := sc_low d D N (by omega)
  have b := sc_high d D N (by omega)
  unfold bdI
  constructor
  · refine sc_le d1 ?_
    rw [Int.add_mul]; omega
  · exact sc_ge d1 (by omega)
theorem whole_nn {N D d : Int} (h : Bt N D) (hd : 0 ≤ d) : 0 ≤ sc d D N := sc_nn (by have := h.d1; have := h.n1; omega) hd (by have := h.d1; omega)
theorem whole_le {N D d : Int} (h : Bt N D) (hd : 0 ≤ d) : 4 * sc d D N ≤ d := by
  have a := sc_low d D N (by have := h.d1; have := h.n1; omega)
  have k0 := whole_nn h hd
  generalize sc d D N = k at *
  have d1 := h.d1
  have : k * (4 * D) ≤ k * N := Int.mul_le_mul_of_nonneg_left h.n1 k0
  have : (4 * k) * D ≤ d * D := by rw [Int.mul_assoc]; rw [Int.mul_left_comm] at this; omega
  exact Int.le_of_mul_le_mul_right this (by omega)
theorem cnt_nn {N D d : Int} (h : Bt N D) (hd : 0 ≤ d) : 0 ≤ cnt N D d := by
  have := whole_nn h hd
  unfold cnt; split <;> omega
theorem cnt_low {N D : Int} (h : Bt N D) (d : Int) : smI N D (cnt N D d - 1) < d := by
  have a := whole_bd h d
  unfold cnt
  split
  · rw [Int.add_sub_cancel]; assumption
  · have b := (sm_bd h (sc d D N - 1)).2
    rw [Int.sub_add_cancel] at b
    omega
theorem cnt_high {N D : Int} (h : Bt N D) (d : Int) : d ≤ smI N D (cnt N D d) := by
  have a := whole_bd h d
  unfold cnt
  split
  · have b := (sm_bd h (sc d D N + 1)).1
    omega
  · omega
theorem sm_add {N D : Int} (h : Bt N D) (k : Int) : ∀ j : Nat, smI N D k + 4 * j ≤ smI N D (k + j)
  | 0 => by simp
  | j + 1 => by
    have := sm_add h k j
    have b := (sm_next h (k + j)).1
    rw [show k + ((j + 1 : Nat) : Int) = k + j + 1 by omega]
    omega
theorem sm_mono {N D : Int} (h : Bt N D) {k m : Int} (hk : k ≤ m) : smI N D k + 4 * (m - k) ≤ smI N D m := by
  have := sm_add h k (m - k).toNat
  rw [show k + ((m - k).toNat : Int) = m by omega] at this
  omega
/-- A sample lies before a tick just where its number is less than the count. -/
theorem cnt_iff {N D : Int} (h : Bt N D) (d k : Int) : smI N D k < d ↔ k < cnt N D d := by
  have a := cnt_low h d
  have b := cnt_high h d
  constructor
  · intro hk
    by_cases hc : k < cnt N D d
    · exact hc
    · have := sm_mono h (show cnt N D d ≤ k by omega); omega
  · intro hk
    have := sm_mono h (show k ≤ cnt N D d - 1 by omega); omega
theorem cnt_zero {N D : Int} (h : Bt N D) : cnt N D 0 = 0 := by
  have a := sm_zero h
  have b := cnt_iff h 0 0
  have c := cnt_nn h (d := 0) (by omega)
  omega
theorem cnt_grow {N D : Int} (h : Bt N D) {d e : Int} (hd : d ≤ e) : cnt N D d ≤ cnt N D e ∧ cnt N D e - cnt N D d ≤ e - d := by
  have a := cnt_low h d; have b := cnt_high h d
  have c := cnt_low h e; have f := cnt_high h e
  have m : cnt N D d ≤ cnt N D e := by
    by_cases hc : cnt N D d ≤ cnt N D e
    · exact hc
    · have := sm_mono h (show cnt N D e ≤ cnt N D d - 1 by omega); omega
  refine ⟨m, ?_⟩
  by_cases he : cnt N D d = cnt N D e
  · omega
  · have := sm_mono h (show cnt N D d ≤ cnt N D e - 1 by omega)
    omega
theorem cnt_le {N D d : Int} (h : Bt N D) (hd : 0 ≤ d) : cnt N D d ≤ d := by
  have := (cnt_grow h hd).2
  rw [cnt_zero h] at this; omega
/-- A change at a distance from the anchor is irregular. -/
def nearI (N D d : Int) : Int := min (d - bdI N D (sc d D N)) (bdI N D (sc d D N + 1) - d)
def irrB (N D d : Int) : Bool := decide (N < 4 * nearI N D d * D)

end Go.Proofs.Ytmbeaagpjpphhaa
