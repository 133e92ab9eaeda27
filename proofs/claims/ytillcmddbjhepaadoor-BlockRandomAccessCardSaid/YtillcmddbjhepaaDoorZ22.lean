/-
  The specification's Checksum.
-/
import Derived.Test.YtillcmddbjhepaaDoorZ21
import Derived.Test.YtillcmddbjhepaaDoorZ10
import Derived.Test.YtillcmddbjhepaaDoorZ19
import Derived.Deep.RegionHeld3
namespace Go.Proofs.YtillcmddbjhepaaDoor
open Go Go.RowKit Go.Joins
set_option linter.unusedVariables false
set_option linter.unusedSimpArgs false

def ckJ (b : List UInt8) (a : Nat) (s : Nat) : Prop := if a = 0 then s = 0 else ckr s (b.drop a) = ck b
theorem ckJ_step {b : List UInt8} {a s : Nat} (h : ckJ b a s) (hc : a = 0 ∨ a < b.length) : ckJ b (a + 4096) (ckp s ((b.drop a).take 4096)) := by
  unfold ckJ at *
  rw [if_neg (by omega)]
  by_cases h0 : a = 0
  · subst h0
    rw [if_pos rfl] at h
    subst h
    rw [Nat.zero_add]; rfl
  · rw [if_neg h0] at h
    rw [← h, ckr_more s _ (by rw [List.length_drop]; omega), List.drop_drop]
theorem ckJ_end {b : List UInt8} {a s : Nat} (h : ckJ b a s) (h0 : ¬ a = 0) (hc : ¬ a < b.length) : s = ck b := by
  unfold ckJ at h
  rw [if_neg h0, List.drop_of_length_le (by omega), ckr_nil] at h
  exact h

end Go.Proofs.YtillcmddbjhepaaDoor
