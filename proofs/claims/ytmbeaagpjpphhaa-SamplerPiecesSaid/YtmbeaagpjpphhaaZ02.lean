/-
  Plain facts for stage 1 (ratios): the greatest common divisor by Euclid's steps, the magnitude of a number. No program here.
-/
import Derived.WalkKit
import Derived.Deep.Draws
namespace Go.Proofs.Ytmbeaagpjpphhaa
namespace Sr

theorem gcd_step (a b : Nat) : Nat.gcd b (a % b) = Nat.gcd a b := by
  rw [Nat.gcd_comm a b, Nat.gcd_rec b a, Nat.gcd_comm]

theorem emod_cast (a b : Nat) : ((a : Int) % (b : Int)) = ((a % b : Nat) : Int) := by omega

/-- Is n/d a valid ratio? -/
def validB (n d : Int) : Bool := decide (1 ≤ d ∧ d ≤ 1073741824 ∧ -1073741824 ≤ n ∧ n ≤ 1073741824 ∧ Nat.gcd n.natAbs d.natAbs = 1)
/-- The numbers of n/d in lowest terms, without a sign. -/
def lowN (n d : Int) : Nat := n.natAbs / Nat.gcd n.natAbs d.natAbs
def lowD (n d : Int) : Nat := d.natAbs / Nat.gcd n.natAbs d.natAbs
/-- What 'Make' answers: the error, the numerator, the denominator. -/
def mkE (n d : Int) : Int := if d = 0 then 1 else if 1073741824 < lowN n d ∨ 1073741824 < lowD n d then 3 else 0
def mkN (n d : Int) : Int := if mkE n d = 0 then (if (decide (n < 0)) = (decide (d < 0)) then (lowN n d : Int) else -(lowN n d : Int)) else 0
def mkD (n d : Int) : Int := if mkE n d = 0 then (lowD n d : Int) else 0

theorem lowN_le (n d : Int) : lowN n d ≤ n.natAbs := Nat.div_le_self _ _
theorem lowD_le (n d : Int) : lowD n d ≤ d.natAbs := Nat.div_le_self _ _
theorem mk_zero (n : Int) : mkE n 0 = 1 ∧ mkN n 0 = 0 ∧ mkD n 0 = 0 := by simp [mkE, mkN, mkD]
theorem mk_over {n d : Int} (h0 : d ≠ 0) (h : 1073741824 < lowN n d ∨ 1073741824 < lowD n d) : mkE n d = 3 ∧ mkN n d = 0 ∧ mkD n d = 0 := by
  have e : mkE n d = 3 := by rw [mkE, if_neg h0, if_pos h]
  refine ⟨e, ?_, ?_⟩
  · rw [mkN, e]; rfl
  · rw [mkD, e]; rfl
theorem mk_same {n d : Int} (h0 : d ≠ 0) (h1 : lowN n d ≤ 1073741824) (h2 : lowD n d ≤ 1073741824) (hs : (decide (n < 0)) = (decide (d < 0))) : mkE n d = 0 ∧ mkN n d = lowN n d ∧ mkD n d = lowD n d := by
  have e : mkE n d = 0 := by rw [mkE, if_neg h0, if_neg (by omega)]
  exact ⟨e, by rw [mkN, if_pos e, if_pos hs], by rw [mkD, if_pos e]⟩
theorem mk_diff {n d : Int} (h0 : d ≠ 0) (h1 : lowN n d ≤ 1073741824) (h2 : lowD n d ≤ 1073741824) (hs : ¬ (decide (n < 0)) = (decide (d < 0))) : mkE n d = 0 ∧ mkN n d = -(lowN n d : Int) ∧ mkD n d = lowD n d := by
  have e : mkE n d = 0 := by rw [mkE, if_neg h0, if_neg (by omega)]
  exact ⟨e, by rw [mkN, if_pos e, if_neg hs], by rw [mkD, if_pos e]⟩

/-- What an operation answers whose arguments are valid, or not. -/
def arE (v : Bool) (n d : Int) : Int := match v with | true => mkE n d | false => 1
def arN (v : Bool) (n d : Int) : Int := match v with | true => mkN n d | false => 0
def arD (v : Bool) (n d : Int) : Int := match v with | true => mkD n d | false => 0

theorem valid_bd {n d : Int} (h : validB n d = true) : 1 ≤ d ∧ d ≤ 1073741824 ∧ -1073741824 ≤ n ∧ n ≤ 1073741824 := by
  have := of_decide_eq_true h; omega
theorem valid_gcd {n d : Int} (h : validB n d = true) : Nat.gcd n.natAbs d.natAbs = 1 := (of_decide_eq_true h).2.2.2.2
theorem mul_bd {x y : Int} (h1 : -1073741824 ≤ x) (h2 : x ≤ 1073741824) (h3 : -1073741824 ≤ y) (h4 : y ≤ 1073741824) : -1152921504606846976 ≤ x * y ∧ x * y ≤ 1152921504606846976 := by
  have h : (x * y).natAbs ≤ 1073741824 * 1073741824 := by rw [Int.natAbs_mul]; exact Nat.mul_le_mul (by omega) (by omega)
  omega

/-- An answer where the argument is valid; 0 where it is not. -/
def okI (v : Bool) (x : Int) : Int := match v with | true => x | false => 0
/-- What 'Scale' answers. -/
def scE (v : Bool) (k : Int) : Int := match v with | true => (if k < -4294967296 ∨ 4294967296 < k then 3 else 0) | false => 1
def scV (v : Bool) (n d k : Int) : Int := match v with | true => (if k < -4294967296 ∨ 4294967296 < k then 0 else n * k / d) | false => 0
/-- How two numbers compare. -/
def cmpI (x y : Int) : Int := if x < y then -1 else if x > y then 1 else 0

theorem cmp_self (v : Bool) (x : Int) : okI v (cmpI x x) = 0 := by
  have h : cmpI x x = 0 := by unfold cmpI; rw [if_neg (by omega), if_neg (by omega)]
  cases v
  · rfl
  · exact h
theorem scale_bd {x k : Int} (h1 : -1073741824 ≤ x) (h2 : x ≤ 1073741824) (h3 : -4294967296 ≤ k) (h4 : k ≤ 4294967296) : -9223372036854775807 ≤ x * k ∧ x * k ≤ 9223372036854775807 := by
  have h : (x * k).natAbs ≤ 1073741824 * 4294967296 := by rw [Int.natAbs_mul]; exact Nat.mul_le_mul (by omega) (by omega)
  omega

theorem fl_ge {a b : Int} (ha : a < 0) (hb : 1 ≤ b) : a ≤ a / b := Int.le_ediv_of_mul_le (by omega) (by
  have h := Int.mul_le_mul_of_nonpos_left (a := a) (b := b) (c := 1) (by omega) hb
  omega)
theorem fl_neg {a b : Int} (ha : a < 0) (hb : 1 ≤ b) (h : a.tmod b < 0) : a.tdiv b - 1 = a / b := by
  rw [Int.tdiv_eq_ediv, if_neg, Int.sign_eq_one_of_pos (by omega)]
  · omega
  · rintro (hc | hc)
    · omega
    · rw [Int.tmod_eq_emod, if_pos (Or.inr hc)] at h
      have := Int.emod_nonneg a (b := b) (by omega)
      omega
theorem fl_exact {a b : Int} (ha : a < 0) (hb : 1 ≤ b) (h : 0 ≤ a.tmod b) : a.tdiv b = a / b := by
  by_cases hd : b ∣ a
  · rw [Int.tdiv_eq_ediv, if_pos (Or.inr hd)]; omega
  · rw [Int.tmod_eq_emod, if_neg (by rintro (hc | hc); omega; exact hd hc)] at h
    have := Int.emod_lt_of_pos a (b := b) (by omega)
    omega

/-! Small facts on a world's heap: it only grows. -/
theorem le_alloc {B : Nat} {w : World} (h : B ≤ w.heap.size) (o : Obj) : B ≤ (w.alloc o).heap.size := by rw [World.size_alloc]; omega
theorem le_setCell {B : Nat} {w : World} (h : B ≤ w.heap.size) (a : Addr) (v : Value) : B ≤ (w.setCell a v).heap.size := by rw [World.size_setCell]; exact h
theorem le_drew {B : Nat} {w : World} (h : B ≤ w.heap.size) : B ≤ w.drew.heap.size := h
theorem le_drewN {B : Nat} {w : World} (h : B ≤ w.heap.size) (n : Nat) : B ≤ (w.drewN n).heap.size := h

end Sr
end Go.Proofs.Ytmbeaagpjpphhaa
