/-
  Plain facts for stage 1: the laws of the field of ratios, where the results can be represented.
-/
import Derived.Test.YtlbepbddhnmmjaaDoorM4
namespace Go.Proofs.YtlbepbddhnmmjaaDoor

theorem pos_of {n d : Int} (h : validB n d = true) : 0 < d := by have := valid_bd h; omega
theorem mul_ne {x y : Int} (hx : 0 < x) (hy : 0 < y) : x * y ≠ 0 := by have := Int.mul_pos hx hy; omega
theorem mk_to {n d a b : Int} (hv : validB a b = true) (hd : d ≠ 0) (h : n * b = a * d) : mkE n d = 0 ∧ mkN n d = a ∧ mkD n d = b := by
  obtain ⟨h1, h2, h3⟩ := mk_cross hd (pos_of hv) h
  obtain ⟨e1, e2, e3⟩ := mk_valid hv
  exact ⟨h1.trans e1, h2.trans e2, h3.trans e3⟩

theorem f_zero {a1 a2 : Int} (hv : validB a1 a2 = true) : mkE (a1 * 1 + 0 * a2) (a2 * 1) = 0 ∧ mkN (a1 * 1 + 0 * a2) (a2 * 1) = a1 ∧ mkD (a1 * 1 + 0 * a2) (a2 * 1) = a2 := by
  rw [Int.mul_one, Int.mul_one, Int.zero_mul, Int.add_zero]; exact mk_valid hv
theorem f_one {a1 a2 : Int} (hv : validB a1 a2 = true) : mkE (a1 * 1) (a2 * 1) = 0 ∧ mkN (a1 * 1) (a2 * 1) = a1 ∧ mkD (a1 * 1) (a2 * 1) = a2 := by
  rw [Int.mul_one, Int.mul_one]; exact mk_valid hv

/-- Sub undoes Add. -/
theorem f_sub {a1 a2 b1 b2 s t : Int} (ha : validB a1 a2 = true) (hb : validB b1 b2 = true) (hs : validB s t = true) (h : s * (a2 * b2) = (a1 * b2 + b1 * a2) * t) :
    mkE (s * b2 - b1 * t) (t * b2) = 0 ∧ mkN (s * b2 - b1 * t) (t * b2) = a1 ∧ mkD (s * b2 - b1 * t) (t * b2) = a2 := by
  refine mk_to ha (mul_ne (pos_of hs) (pos_of hb)) ?_
  grind
/-- Div undoes Mul. -/
theorem f_div {a1 a2 b1 b2 s t : Int} (ha : validB a1 a2 = true) (hs : validB s t = true) (h0 : b1 ≠ 0) (h : s * (a2 * b2) = (a1 * b1) * t) :
    mkE (s * b2) (t * b1) = 0 ∧ mkN (s * b2) (t * b1) = a1 ∧ mkD (s * b2) (t * b1) = a2 := by
  have ht := pos_of hs
  refine mk_to ha (fun e => by rcases Int.mul_eq_zero.1 e with e | e <;> omega) ?_
  grind
/-- Products distribute over sums. -/
theorem f_spread {a1 a2 b1 b2 c1 c2 s t x u y v : Int} (ha : validB a1 a2 = true) (hb : validB b1 b2 = true) (hc : validB c1 c2 = true) (hs : validB s t = true) (hx : validB x u = true) (hy : validB y v = true)
    (h1 : s * (b2 * c2) = (b1 * c2 + c1 * b2) * t) (h2 : x * (a2 * b2) = (a1 * b1) * u) (h3 : y * (a2 * c2) = (a1 * c1) * v) :
    mkE (a1 * s) (a2 * t) = mkE (x * v + y * u) (u * v) ∧ mkN (a1 * s) (a2 * t) = mkN (x * v + y * u) (u * v) ∧ mkD (a1 * s) (a2 * t) = mkD (x * v + y * u) (u * v) := by
  have pa := pos_of ha; have pb := pos_of hb; have pc := pos_of hc; have pt := pos_of hs; have pu := pos_of hx; have pv := pos_of hy
  refine mk_cross (mul_ne pa pt) (Int.mul_pos pu pv) ?_
  have hz : a2 * (b2 * c2) ≠ 0 := mul_ne pa (Int.mul_pos pb pc)
  apply Int.eq_of_mul_eq_mul_left hz
  grind

/-! The floor. -/
theorem fl_lo (n d : Int) (hd : 0 < d) : n / d * d ≤ n ∧ n - n / d * d < d := by
  have h := Int.emod_add_mul_ediv n d
  have h1 := Int.emod_nonneg n (b := d) (by omega)
  have h2 := Int.emod_lt_of_pos n hd
  have e : n / d * d = d * (n / d) := Int.mul_comm _ _
  omega
theorem fl_bd {n d m : Int} (hd : 1 ≤ d) (h1 : -m ≤ n) (h2 : n ≤ m) (hm : 0 ≤ m) : -m ≤ n / d ∧ n / d ≤ m := by
  constructor
  · refine Int.le_ediv_of_mul_le (by omega) ?_
    have := Int.mul_le_mul_of_nonpos_left (a := -m) (b := d) (c := 1) (by omega) hd
    omega
  · exact Int.le_trans (Int.ediv_le_ediv (by omega) h2) (Int.ediv_le_self d hm)

end Go.Proofs.YtlbepbddhnmmjaaDoor
