/-
  Edges, plain.
-/
import Derived.Test.YtillcmddbjhepaaM2
namespace Go.Proofs.Ytillcmddbjhepaa
open Go
set_option linter.unusedVariables false
set_option linter.unusedSimpArgs false

abbrev Ed := Int × Int × Int
/-- The changes of the channels from i on, f of them, between the levels a and b at the tick t. -/
def cg (a b t : Int) : Nat → Nat → List Ed
  | _, 0 => []
  | i, f + 1 => (if bt a i = bt b i then [] else [(t, ((i : Nat) : Int), bt b i)]) ++ cg a b t (i + 1) f
theorem cg_succ (a b t : Int) (i f : Nat) : cg a b t i (f + 1) = (if bt a i = bt b i then [] else [(t, ((i : Nat) : Int), bt b i)]) ++ cg a b t (i + 1) f := rfl
theorem cg_len (a b t : Int) (i f : Nat) : (cg a b t i f).length ≤ f := by
  induction f generalizing i with
  | zero => simp [cg]
  | succ f ih =>
    rw [cg_succ, List.length_append]
    have := ih (i + 1)
    split <;> simp <;> omega
/-- The changes from a run of level a that ends at t on. -/
def ef (n : Nat) : Int → Int → List Rn → List Ed
  | _, _, [] => []
  | a, t, b :: l => cg a b.1 t 0 n ++ ef n b.1 (t + b.2) l
theorem ef_cons (n : Nat) (a t : Int) (b : Rn) (l : List Rn) : ef n a t (b :: l) = cg a b.1 t 0 n ++ ef n b.1 (t + b.2) l := rfl
def edg (n : Nat) : List Rn → List Ed
  | [] => []
  | a :: l => ef n a.1 a.2 l
theorem ef_len (n : Nat) (a t : Int) (l : List Rn) : (ef n a t l).length ≤ n * l.length := by
  induction l generalizing a t with
  | nil => simp [ef]
  | cons b l ih =>
    rw [ef_cons, List.length_append, List.length_cons, Nat.mul_add, Nat.mul_one]
    have := ih b.1 (t + b.2)
    have := cg_len a b.1 t 0 n
    omega
theorem edg_len (n : Nat) (R : List Rn) : (edg n R).length ≤ n * R.length := by
  cases R with
  | nil => simp [edg]
  | cons a l =>
    have := ef_len n a.1 a.2 l
    rw [List.length_cons, Nat.mul_add]
    show (ef n a.1 a.2 l).length ≤ _
    omega
/-- What is left to be put out before the run j. -/
def rs (n : Nat) (R : List Rn) (j : Nat) : List Ed := if j = 0 then edg n R else ef n (R.getD (j - 1) (0, 0)).1 (lg (R.take j)) (R.drop j)
theorem rs_zero (n : Nat) (R : List Rn) : rs n R 0 = edg n R := rfl
theorem rs_one {n : Nat} {R : List Rn} (h : 0 < R.length) : rs n R 1 = edg n R := by
  cases R with
  | nil => simp at h
  | cons a l =>
    unfold rs
    rw [if_neg (by omega)]
    simp [edg, lg]
theorem rs_step {n : Nat} {R : List Rn} {i : Nat} (h : i + 1 < R.length) : rs n R (i + 1) = cg R[i].1 R[i + 1].1 (lg (R.take (i + 1))) 0 n ++ rs n R (i + 2) := by
  have e : ∀ j, rs n R (j + 1) = ef n (R.getD j (0, 0)).1 (lg (R.take (j + 1))) (R.drop (j + 1)) := fun j => if_neg (by omega)
  rw [e i, e (i + 1), List.drop_eq_getElem_cons h, ef_cons, lg_take R (i + 1) h]
  simp [show i < R.length by omega, h]
theorem rs_end {n : Nat} {R : List Rn} {j : Nat} (h : R.length ≤ j) (hj : 0 < j) : rs n R j = [] := by
  unfold rs
  rw [if_neg (by omega), List.drop_eq_nil_of_le h]; rfl
def edC (N : List ByteArray) (R : List Rn) : List Ed := if ckC N R = 0 then edg N.length R else []
theorem edC_yes {N : List ByteArray} {R : List Rn} (h : ckC N R = 0) : edC N R = edg N.length R := by unfold edC; rw [if_pos h]
theorem edC_no {N : List ByteArray} {R : List Rn} (h : ¬ ckC N R = 0) : edC N R = [] := by unfold edC; rw [if_neg h]

end Go.Proofs.Ytillcmddbjhepaa
