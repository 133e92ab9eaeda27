/-
  Turning the channels over by the edges, plain.
-/
import Derived.Test.YtillcmddbjhepaaM4
import Derived.Test.YtillcmddbjhepaaM3
namespace Go.Proofs.Ytillcmddbjhepaa
open Go
set_option linter.unusedVariables false
set_option linter.unusedSimpArgs false

theorem bt_bit (x k : Nat) : bt (x : Int) k = if x.testBit k then 1 else 0 := by
  rw [bt_nat, Nat.testBit_eq_decide_div_mod_eq]
  have : x / 2 ^ k % 2 < 2 := Nat.mod_lt _ (by omega)
  by_cases h : x / 2 ^ k % 2 = 1
  · simp [h]
  · have : x / 2 ^ k % 2 = 0 := by omega
    simp [this]
theorem bt_eq_iff (x y k : Nat) : bt (x : Int) k = bt (y : Int) k ↔ x.testBit k = y.testBit k := by
  rw [bt_bit, bt_bit]
  cases x.testBit k <;> cases y.testBit k <;> simp
/-- One edge, at the tick k. -/
def tg (k : Int) (x : Nat) (e : Ed) : Nat := if e.1 ≤ k then x ^^^ 2 ^ e.2.1.toNat else x
def okE (k : Int) : Nat → List Ed → Prop
  | _, [] => True
  | x, e :: l => (e.1 ≤ k → ¬ bt (x : Int) e.2.1.toNat = e.2.2) ∧ okE k (tg k x e) l
def fin' (k : Int) (x : Nat) (l : List Ed) : Nat := l.foldl (tg k) x
theorem okE_append (k : Int) (x : Nat) (a b : List Ed) (ha : okE k x a) (hb : okE k (fin' k x a) b) : okE k x (a ++ b) := by
  induction a generalizing x with
  | nil => exact hb
  | cons e l ih => exact ⟨ha.1, ih _ ha.2 hb⟩
theorem fin_append (k : Int) (x : Nat) (a b : List Ed) : fin' k x (a ++ b) = fin' k (fin' k x a) b := by
  unfold fin'; rw [List.foldl_append]
theorem okE_late {k : Int} (x : Nat) (l : List Ed) (h : ∀ e ∈ l, ¬ e.1 ≤ k) : okE k x l ∧ fin' k x l = x := by
  induction l with
  | nil => exact ⟨trivial, rfl⟩
  | cons e l ih =>
    have h1 := h e (List.mem_cons_self ..)
    obtain ⟨i1, i2⟩ := ih (fun y hy => h y (List.mem_cons_of_mem _ hy))
    have e1 : tg k x e = x := by unfold tg; rw [if_neg h1]
    refine ⟨⟨fun c => absurd c h1, by rw [e1]; exact i1⟩, ?_⟩
    show fin' k (tg k x e) l = x
    rw [e1]; exact i2
/-- The channels from i on. -/
theorem cg_ok {k t : Int} (ht : t ≤ k) (a b : Nat) (f i : Nat) (y : Nat) (hy : ∀ j, y.testBit j = if j < i then b.testBit j else a.testBit j) :
    okE k y (cg a b t i f) ∧ ∀ j, (fin' k y (cg a b t i f)).testBit j = if j < i + f then b.testBit j else a.testBit j := by
  induction f generalizing i y with
  | zero => exact ⟨trivial, fun j => by simpa [cg, fin'] using hy j⟩
  | succ f ih =>
    rw [cg_succ]
    by_cases h : bt (a : Int) i = bt (b : Int) i
    · rw [if_pos h, List.nil_append]
      have h2 := (bt_eq_iff _ _ _).1 h
      have := ih (i + 1) y (fun j => by
        rw [hy j]
        by_cases hj : j < i
        · rw [if_pos hj, if_pos (by omega)]
        · by_cases hj2 : j = i
          · subst hj2; rw [if_neg (by omega), if_pos (by omega), h2]
          · rw [if_neg hj, if_neg (by omega)])
      rw [show i + 1 + f = i + (f + 1) by omega] at this
      exact this
    · rw [if_neg h]
      have h2 : ¬ a.testBit i = b.testBit i := fun e => h ((bt_eq_iff _ _ _).2 e)
      have hyi : y.testBit i = a.testBit i := by rw [hy i, if_neg (by omega)]
      have e1 : tg k y (t, ((i : Nat) : Int), bt (b : Int) i) = y ^^^ 2 ^ i := by unfold tg; rw [if_pos ht]; simp
      have := ih (i + 1) (y ^^^ 2 ^ i) (fun j => by
        rw [Nat.testBit_xor, Nat.testBit_two_pow, hy j]
        by_cases hj : j < i
        · rw [if_pos hj, if_pos (by omega), decide_eq_false (by omega)]; simp
        · by_cases hj2 : j = i
          · subst hj2
            rw [if_neg (by omega), if_pos (by omega), decide_eq_true rfl]
            revert h2
            cases a.testBit j <;> cases b.testBit j <;> simp
          · rw [if_neg hj, if_neg (by omega), decide_eq_false (by omega)]; simp)
      rw [show i + 1 + f = i + (f + 1) by omega] at this
      refine ⟨⟨fun _ => ?_, ?_⟩, ?_⟩
      · show ¬ bt (y : Int) ((i : Nat) : Int).toNat = bt (b : Int) i
        rw [Int.toNat_natCast, bt_eq_iff, hyi]; exact h2
      · rw [e1]; exact this.1
      · show ∀ j, (fin' k (tg k y (t, ((i : Nat) : Int), bt (b : Int) i)) (cg a b t (i + 1) f)).testBit j = _
        rw [e1]; exact this.2
theorem cg_all {k t : Int} (ht : t ≤ k) {n : Nat} (a b : Nat) (ha : a < 2 ^ n) (hb : b < 2 ^ n) : okE k a (cg a b t 0 n) ∧ fin' k a (cg a b t 0 n) = b := by
  obtain ⟨h1, h2⟩ := cg_ok ht a b n 0 a (fun j => by simp)
  refine ⟨h1, Nat.eq_of_testBit_eq fun j => ?_⟩
  rw [h2 j, Nat.zero_add]
  by_cases hj : j < n
  · rw [if_pos hj]
  · rw [if_neg hj, Nat.testBit_lt_two_pow (Nat.lt_of_lt_of_le ha (Nat.pow_le_pow_right (by omega) (by omega))), Nat.testBit_lt_two_pow (Nat.lt_of_lt_of_le hb (Nat.pow_le_pow_right (by omega) (by omega)))]
theorem cg_mem {a b t : Int} {i f : Nat} {e : Ed} (h : e ∈ cg a b t i f) : e.1 = t ∧ ∃ c : Nat, e.2.1 = c ∧ i ≤ c ∧ c < i + f := by
  induction f generalizing i with
  | zero => simp [cg] at h
  | succ f ih =>
    rw [cg_succ] at h
    rcases List.mem_append.1 h with h | h
    · split at h
      · simp at h
      · rw [List.mem_singleton] at h
        subst h
        exact ⟨rfl, i, rfl, by omega, by omega⟩
    · obtain ⟨h1, c, h2, h3, h4⟩ := ih h
      exact ⟨h1, c, h2, by omega, by omega⟩
/-- The order of edges. -/
def lt2 (a b : Ed) : Prop := a.1 < b.1 ∨ (a.1 = b.1 ∧ a.2.1 < b.2.1)
theorem cg_sorted (a b t : Int) (i f : Nat) : (cg a b t i f).Pairwise lt2 := by
  induction f generalizing i with
  | zero => exact List.Pairwise.nil
  | succ f ih =>
    rw [cg_succ, List.pairwise_append]
    refine ⟨by split <;> simp, ih (i + 1), fun x hx y hy => ?_⟩
    obtain ⟨y1, c, y2, y3, y4⟩ := cg_mem hy
    split at hx
    · simp at hx
    · rw [List.mem_singleton] at hx
      subst hx
      refine Or.inr ⟨y1.symm, ?_⟩
      show ((i : Nat) : Int) < y.2.1
      omega
theorem ef_mem {n : Nat} {a t : Int} {l : List Rn} (hl : ps l) {e : Ed} (h : e ∈ ef n a t l) : t ≤ e.1 ∧ ∃ c : Nat, e.2.1 = c ∧ c < n := by
  induction l generalizing a t with
  | nil => simp [ef] at h
  | cons b l ih =>
    rw [ef_cons] at h
    have hb : 1 ≤ b.2 := hl b (List.mem_cons_self ..)
    rcases List.mem_append.1 h with h | h
    · obtain ⟨h1, c, h2, h3, h4⟩ := cg_mem h
      exact ⟨by omega, c, h2, by omega⟩
    · obtain ⟨h1, h2⟩ := ih (fun x hx => hl x (List.mem_cons_of_mem _ hx)) h
      exact ⟨by omega, h2⟩
theorem ef_sorted {n : Nat} {a t : Int} {l : List Rn} (hl : ps l) : (ef n a t l).Pairwise lt2 := by
  induction l generalizing a t with
  | nil => exact List.Pairwise.nil
  | cons b l ih =>
    have hb : 1 ≤ b.2 := hl b (List.mem_cons_self ..)
    have hl' : ps l := fun x hx => hl x (List.mem_cons_of_mem _ hx)
    rw [ef_cons, List.pairwise_append]
    refine ⟨cg_sorted _ _ _ _ _, ih hl', fun x hx y hy => ?_⟩
    have h1 := (cg_mem hx).1
    have h2 := (ef_mem hl' hy).1
    exact Or.inl (by omega)
theorem ef_ok {n : Nat} {k : Int} (a : Nat) (t : Int) (l : List Rn) (hl : ps l) (ha : a < 2 ^ n) (hv : ∀ r ∈ l, ∃ c : Nat, r.1 = c ∧ c < 2 ^ n) (hk : k < t + lg l) :
    okE k a (ef n a t l) ∧ ((fin' k a (ef n a t l) : Nat) : Int) = if k < t then (a : Int) else (atv l (k - t)).1 := by
  induction l generalizing a t with
  | nil =>
    simp only [lg] at hk
    exact ⟨trivial, by rw [if_pos (by omega)]; rfl⟩
  | cons b l ih =>
    have hb : 1 ≤ b.2 := hl b (List.mem_cons_self ..)
    have hl' : ps l := fun x hx => hl x (List.mem_cons_of_mem _ hx)
    obtain ⟨c, hc, hc2⟩ := hv b (List.mem_cons_self ..)
    have hlg : lg (b :: l) = b.2 + lg l := by simp [lg]
    by_cases ht : t ≤ k
    · have hg := cg_all ht a c ha hc2
      have hi := ih c (t + b.2) hl' hc2 (fun r hr => hv r (List.mem_cons_of_mem _ hr)) (by omega)
      rw [ef_cons, hc]
      refine ⟨okE_append _ _ _ _ hg.1 (by rw [hg.2]; exact hi.1), ?_⟩
      rw [fin_append, hg.2, hi.2, atv_cons, if_neg (show ¬ k < t by omega)]
      by_cases h2 : k < t + b.2
      · rw [if_pos h2, if_pos (by omega)]; exact hc.symm
      · rw [if_neg h2, if_neg (by omega), show k - (t + b.2) = k - t - b.2 by omega]
    · have := okE_late (k := k) a (ef n a t (b :: l)) (fun e he => by have := (ef_mem hl he).1; omega)
      exact ⟨this.1, by rw [this.2, if_pos (by omega)]⟩
theorem edg_ok {n : Nat} {k : Int} (R : List Rn) (hl : ps R) (hv : ∀ r ∈ R, ∃ c : Nat, r.1 = c ∧ c < 2 ^ n) (h0 : 0 ≤ k) (hk : k < lg R) :
    ∃ x : Nat, (atv R 0).1 = x ∧ x < 2 ^ n ∧ okE k x (edg n R) ∧ ((fin' k x (edg n R) : Nat) : Int) = (atv R k).1 := by
  cases R with
  | nil => simp [lg] at hk; omega
  | cons a l =>
    have hb : 1 ≤ a.2 := hl a (List.mem_cons_self ..)
    have hl' : ps l := fun x hx => hl x (List.mem_cons_of_mem _ hx)
    obtain ⟨c, hc, hc2⟩ := hv a (List.mem_cons_self ..)
    have hlg : lg (a :: l) = a.2 + lg l := by simp [lg]
    have hi := ef_ok c a.2 l hl' hc2 (fun r hr => hv r (List.mem_cons_of_mem _ hr)) (by omega : k < a.2 + lg l)
    refine ⟨c, by rw [atv_cons, if_pos (by omega)]; exact hc, hc2, ?_, ?_⟩
    · show okE k c (ef n a.1 a.2 l)
      rw [hc]; exact hi.1
    · show ((fin' k c (ef n a.1 a.2 l) : Nat) : Int) = _
      rw [hc, hi.2, atv_cons]
      by_cases h2 : k < a.2
      · rw [if_pos h2, if_pos h2]; exact hc.symm
      · rw [if_neg h2, if_neg h2]
theorem edg_sorted {n : Nat} {R : List Rn} (hl : ps R) : (edg n R).Pairwise lt2 := by
  cases R with
  | nil => exact List.Pairwise.nil
  | cons a l => exact ef_sorted (fun x hx => hl x (List.mem_cons_of_mem _ hx))
theorem edg_mem {n : Nat} {R : List Rn} (hl : ps R) {e : Ed} (h : e ∈ edg n R) : ∃ c : Nat, e.2.1 = c ∧ c < n := by
  cases R with
  | nil => simp [edg] at h
  | cons a l => exact (ef_mem (fun x hx => hl x (List.mem_cons_of_mem _ hx)) h).2
theorem xor_nat (x c : Nat) (hx : x < 2 ^ 16) (hc : c < 16) : bits .xor .i64 (x : Int) ((2 ^ c : Nat) : Int) = ((x ^^^ 2 ^ c : Nat) : Int) := by
  have hp : 2 ^ c < 2 ^ 16 := Nat.pow_lt_pow_right (by omega) hc
  have hxor : x ^^^ 2 ^ c < 2 ^ 16 := Nat.xor_lt_two_pow hx hp
  show IntKind.i64.wrap ((BitVec.ofInt 64 x ^^^ BitVec.ofInt 64 ((2 ^ c : Nat) : Int)).toNat : Int) = _
  generalize 2 ^ c = P at *
  have e1 : (BitVec.ofInt 64 (x : Int)).toNat = x := by rw [BitVec.toNat_ofInt]; omega
  have e2 : (BitVec.ofInt 64 (P : Int)).toNat = P := by rw [BitVec.toNat_ofInt]; omega
  rw [BitVec.toNat_xor, e1, e2]
  exact IntWalk.i64_in _ (by omega)

end Go.Proofs.Ytillcmddbjhepaa
