/-
  Stored captures, plain mathematics: reading the head and the blocks.
-/
import Derived.Test.YtillcmddbjhepaaGreatDoorZ08
import Derived.Test.YtillcmddbjhepaaGreatDoorZ09
import Derived.Test.YtillcmddbjhepaaGreatDoorZ15
namespace Go.Proofs.YtillcmddbjhepaaGreatDoor
set_option linter.unusedSimpArgs false
open Go
set_option linter.unusedVariables false

/-- One more in front, or behind what is there already, unless there is an error. -/
def cL {α : Type} (s : α) (r : List α × Nat × Nat) : List α × Nat × Nat := if r.2.2 = 0 then (s :: r.1, r.2.1, 0) else ([], 0, r.2.2)
def aL {α : Type} (acc : List α) (r : List α × Nat × Nat) : List α × Nat × Nat := if r.2.2 = 0 then (acc ++ r.1, r.2.1, 0) else ([], 0, r.2.2)
theorem aL_nil {α : Type} (r : List α × Nat × Nat) (h : r.2.2 ≠ 0 → r = ([], 0, r.2.2)) : aL [] r = r := by
  unfold aL
  by_cases h0 : r.2.2 = 0
  · rw [if_pos h0, List.nil_append, ← h0]
  · rw [if_neg h0]; exact (h h0).symm
theorem aL_cons {α : Type} (acc : List α) (s : α) (r : List α × Nat × Nat) : aL acc (cL s r) = aL (acc ++ [s]) r := by
  unfold aL cL
  by_cases h0 : r.2.2 = 0
  · rw [if_pos h0, if_pos rfl, if_pos h0]; simp
  · rw [if_neg h0, if_neg h0, if_neg h0]

/-- Names: k of them. -/
def tNm (l : List UInt8) : Nat → Nat → List ByteArray × Nat × Nat
  | 0, a => ([], a, 0)
  | k + 1, a => if Sb.tcE l a 16 = 0 then cL ⟨(Sb.ttS l a 16).toArray⟩ (tNm l k (Sb.tcN l a 16 + Sb.tcV l a 16)) else ([], 0, Sb.tcE l a 16)
theorem tNm_ok {l : List UInt8} {k a : Nat} (h : Sb.tcE l a 16 = 0) : tNm l (k + 1) a = cL ⟨(Sb.ttS l a 16).toArray⟩ (tNm l k (Sb.tcN l a 16 + Sb.tcV l a 16)) := by rw [tNm, if_pos h]
theorem tNm_no {l : List UInt8} {k a : Nat} (h : ¬ Sb.tcE l a 16 = 0) : tNm l (k + 1) a = ([], 0, Sb.tcE l a 16) := by rw [tNm, if_neg h]
theorem cL_bad {α : Type} (s : α) (r : List α × Nat × Nat) : (cL s r).2.2 ≠ 0 → cL s r = ([], 0, (cL s r).2.2) := by
  unfold cL
  by_cases h0 : r.2.2 = 0
  · rw [if_pos h0]; intro h; exact absurd rfl h
  · rw [if_neg h0]; intro _; rfl
theorem tNm_bad (l : List UInt8) (k a : Nat) : (tNm l k a).2.2 ≠ 0 → tNm l k a = ([], 0, (tNm l k a).2.2) := by
  rcases k with _ | k
  · intro h; exact absurd rfl h
  · rw [tNm]
    by_cases h0 : Sb.tcE l a 16 = 0
    · rw [if_pos h0]; exact cL_bad _ _
    · rw [if_neg h0]; intro _; rfl
theorem cL_inv {α : Type} {s : α} {r : List α × Nat × Nat} {x : List α} {y : Nat} (h : cL s r = (x, y, 0)) : ∃ t, r = (t, y, 0) ∧ x = s :: t := by
  unfold cL at h
  by_cases h0 : r.2.2 = 0
  · rw [if_pos h0] at h
    injection h with h1 h2
    injection h2 with h2 h3
    exact ⟨r.1, by rw [← h2, ← h0], h1.symm⟩
  · rw [if_neg h0] at h
    injection h with h1 h2
    injection h2 with h2 h3
    exact absurd h3 h0
theorem tNm_len {l : List UInt8} : ∀ {k a : Nat} {N : List ByteArray} {b : Nat}, tNm l k a = (N, b, 0) → N.length = k ∧ (∀ s ∈ N, s.size ≤ 16) ∧ (a ≤ l.length → b ≤ l.length)
  | 0, a, N, b, h => by
    rw [tNm] at h
    injection h with h1 h2; injection h2 with h2 h3
    subst h1 h2
    exact ⟨rfl, by simp, id⟩
  | k + 1, a, N, b, h => by
    by_cases h0 : Sb.tcE l a 16 = 0
    · rw [tNm_ok h0] at h
      obtain ⟨t, h1, rfl⟩ := cL_inv h
      obtain ⟨e1, e2, e3⟩ := tNm_len h1
      have hb := Sb.tc_bounds l a 16
      refine ⟨by rw [List.length_cons, e1], fun s hs => ?_, fun _ => e3 hb.1⟩
      rcases List.mem_cons.1 hs with rfl | hs
      · have : Sb.tcV l a 16 ≤ 16 := by
          unfold Sb.tcV; rw [if_pos h0]
          have h1 := Sb.tc_1 (l := l) (at_ := a) (most := 16)
          by_cases hu : Sb.tuE l a = 0
          · by_cases hm : ((16 : Int) < 0 ∨ (16 : Int) < Sb.tuV l a)
            · have := (h1 hu hm).1; omega
            · omega
          · have := (Sb.tc_0 (l := l) (at_ := a) (most := 16) hu).1; omega
        show (Sb.ttS l a 16).toArray.size ≤ 16
        unfold Sb.ttS
        simp only [List.size_toArray, List.length_take]
        omega
      · exact e2 s hs
    · rw [tNm_no h0] at h
      injection h with h1 h2; injection h2 with h2 h3
      exact absurd h3 h0
def rNm (l : List UInt8) (a : Nat) : List ByteArray × Nat × Nat := if (rN l a 16).2.2 = 0 then tNm l (rN l a 16).1 (rN l a 16).2.1 else ([], 0, (rN l a 16).2.2)

end Go.Proofs.YtillcmddbjhepaaGreatDoor
