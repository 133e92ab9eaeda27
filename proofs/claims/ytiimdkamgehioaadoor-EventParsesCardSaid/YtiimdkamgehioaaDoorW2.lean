/-
  The walks of the loops over runes: wordLength, gapLength, quotedLength, magnitude.
-/
import Derived.Test.YtiimdkamgehioaaDoorW1
import Derived.Test.YtiimdkamgehioaaDoorRN
namespace Go.Proofs.YtiimdkamgehioaaDoor
open Go.RowKit
set_option linter.unusedVariables false
set_option linter.unusedSimpArgs false

theorem wl_in {s : ByteArray} {pos : Nat} (h : pos < s.size) (hi : isIn s[pos].toNat = true) (hw : wl s.data.toList = pos + wl (s.data.toList.drop pos)) : wl s.data.toList = pos + 1 + wl (s.data.toList.drop (pos + 1)) := by
  rw [drop_at s pos h] at hw
  simp only [wl, hi, if_true] at hw
  omega
theorem wl_out {s : ByteArray} {pos : Nat} (h : pos < s.size) (hi : isIn s[pos].toNat = false) (hw : wl s.data.toList = pos + wl (s.data.toList.drop pos)) : wl s.data.toList = pos := by
  rw [drop_at s pos h] at hw
  simp only [wl, hi] at hw
  simpa using hw
theorem wl_end {s : ByteArray} {pos : Nat} (h : ¬ pos < s.size) (hp : pos ≤ s.size) (hw : wl s.data.toList = pos + wl (s.data.toList.drop pos)) : wl s.data.toList = s.size := by
  rw [drop_end s pos h] at hw
  simp only [wl] at hw
  omega

theorem isIn_of {c : Nat} (h : isLt c = true ∨ isDg c = true ∨ c = 95) : isIn c = true := by unfold isIn; simp only [Bool.or_eq_true, decide_eq_true_eq]; rcases h with h | h | h <;> simp [h]
theorem isIn_no {c : Nat} (h1 : isLt c = false) (h2 : isDg c = false) (h3 : c ≠ 95) : isIn c = false := by unfold isIn; rw [h1, h2, decide_eq_false h3]; rfl

end Go.Proofs.YtiimdkamgehioaaDoor
