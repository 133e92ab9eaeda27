/-
  Bits of levels, plain.
-/
import Derived.Test.YtcodoakfomddfaaM1
namespace Go.Proofs.Ytcodoakfomddfaa
open Go
set_option linter.unusedVariables false
set_option linter.unusedSimpArgs false

/-- The bit k of a level. -/
def bt (x : Int) (k : Nat) : Int := x / 2 ^ k % 2
theorem bt_01 (x : Int) (k : Nat) : bt x k = 0 ∨ bt x k = 1 := by unfold bt; omega
theorem bt_range (x : Int) (k : Nat) : 0 ≤ bt x k ∧ bt x k ≤ 1 := by have := bt_01 x k; omega
theorem and_one (x : Nat) (hx : x < 9223372036854775808) : bits .and .i64 (x : Int) 1 = ((x % 2 : Nat) : Int) := by
  show IntKind.i64.wrap ((BitVec.ofInt 64 x &&& BitVec.ofInt 64 1).toNat : Int) = _
  have e1 : (BitVec.ofInt 64 (x : Int)).toNat = x := by rw [BitVec.toNat_ofInt]; omega
  have e2 : (BitVec.ofInt 64 (1 : Int)).toNat = 1 := by decide
  rw [BitVec.toNat_and, e1, e2, Nat.and_one_is_mod, IntKind.wrap_i64]
  omega
theorem bt_nat (x k : Nat) : bt (x : Int) k = ((x / 2 ^ k % 2 : Nat) : Int) := by
  unfold bt; simp
/-- 'x >> k & 1' as the model has it. -/
theorem shr_and (x : Int) (k : Nat) (h0 : 0 ≤ x) (h1 : x ≤ 9223372036854775807) : bits .and .i64 (x.fdiv (2 ^ k)) 1 = bt x k := by
  obtain ⟨n, rfl⟩ : ∃ n : Nat, x = n := ⟨x.toNat, by omega⟩
  have e : (n : Int).fdiv (2 ^ k) = ((n / 2 ^ k : Nat) : Int) := by
    rw [Int.fdiv_eq_ediv_of_nonneg _ (Int.pow_nonneg (by omega))]; simp
  have h2 : n / 2 ^ k ≤ n := Nat.div_le_self _ _
  rw [e, and_one _ (by omega), bt_nat]
theorem shr_and2 (x : Int) (k : Nat) (h0 : 0 ≤ x) (h1 : x ≤ 9223372036854775807) : bits .and .i64 (x / 2 ^ k) 1 = bt x k := by
  rw [← shr_and x k h0 h1, Int.fdiv_eq_ediv_of_nonneg _ (Int.pow_nonneg (by omega))]

/-! A channel of runs. -/
def bts (R : List Rn) (k : Nat) : List Rn := R.map fun r => (bt r.1 k, r.2)
theorem bts_lg (R : List Rn) (k : Nat) : lg (bts R k) = lg R := by
  induction R with
  | nil => rfl
  | cons r R ih => unfold bts at ih ⊢; simp only [List.map_cons, lg, ih]
theorem bts_ps {R : List Rn} (h : ps R) (k : Nat) : ps (bts R k) := by
  intro y hy
  obtain ⟨r, hr, rfl⟩ := List.mem_map.1 hy
  exact h r hr
theorem bts_lv (R : List Rn) (k : Nat) : lv 1 (bts R k) := by
  intro y hy
  obtain ⟨r, hr, rfl⟩ := List.mem_map.1 hy
  exact bt_range r.1 k
theorem bts_len (R : List Rn) (k : Nat) : (bts R k).length = R.length := by simp [bts]
theorem bts_take (R : List Rn) (k j : Nat) (hj : j < R.length) : bts (R.take (j + 1)) k = bts (R.take j) k ++ [(bt R[j].1 k, R[j].2)] := by
  unfold bts
  rw [List.take_succ_eq_append_getElem hj, List.map_append]; rfl
theorem bts_at (R : List Rn) (k : Nat) (t : Int) : atv (bts R k) t = if (atv R t).2 = true then (bt (atv R t).1 k, true) else (-1, false) := by
  induction R generalizing t with
  | nil => rfl
  | cons r R ih =>
    have e : bts (r :: R) k = (bt r.1 k, r.2) :: bts R k := rfl
    rw [e, atv_cons]
    have e2 := atv_cons r R t
    by_cases h : t < r.2
    · rw [if_pos h] at e2; rw [e2, if_pos h]; rfl
    · rw [if_neg h] at e2; rw [e2, if_neg h, ih]
def chn (R : List Rn) (k : Nat) : List Rn := jn (bts R k)
theorem chn_take (R : List Rn) (k j : Nat) (hj : j < R.length) : chn (R.take (j + 1)) k = pt (chn (R.take j) k) (bt R[j].1 k, R[j].2) := by
  unfold chn; rw [bts_take R k j hj, jn_snoc]
theorem chn_len (R : List Rn) (k : Nat) : (chn R k).length ≤ R.length := by
  have := jn_len (bts R k)
  rw [bts_len] at this
  exact this
theorem chn_lg (R : List Rn) (k : Nat) : lg (chn R k) = lg R := by unfold chn; rw [jn_lg, bts_lg]
theorem chn_ps {R : List Rn} (h : ps R) (k : Nat) : ps (chn R k) := jn_ps (bts_ps h k)
theorem chn_vr {m : Int} {R : List Rn} (h : vr m 0 R = true) (k : Nat) : vr 1 0 (chn R k) = true := by
  obtain ⟨h1, h2, h3⟩ := (vr_iff m R 0 (by omega)).1 h
  exact (vr_iff 1 _ 0 (by omega)).2 ⟨jn_lv (bts_lv R k), chn_ps h2 k, by rw [chn_lg]; exact h3⟩
theorem chn_at {R : List Rn} (h : ps R) (k : Nat) {t : Int} (h0 : 0 ≤ t) (h1 : t < lg R) : atv (chn R k) t = (bt (atv R t).1 k, true) := by
  unfold chn
  rw [atv_jn t (bts_ps h k) h0, bts_at, if_pos (atv_in h0 h h1).1]

end Go.Proofs.Ytcodoakfomddfaa
