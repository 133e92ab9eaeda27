/-
  The walk of AcceptsLevel as one.
-/
import Derived.Test.YtmbeaagpjpphhaaZ13
import Derived.Test.YtmbeaagpjpphhaaZ14
import Derived.Test.YtmbeaagpjpphhaaZ15
import Derived.Test.YtmbeaagpjpphhaaZ16
namespace Go.Proofs.Ytmbeaagpjpphhaa
open Go Go.RowKit Go.Joins
set_option linter.unusedVariables false
set_option linter.unusedSimpArgs false

set_option maxHeartbeats 1000000 in
theorem acceptsLevel_any (at' k f t v a : Int) (s : ByteArray) (u : Int) (w : World) (hs : s.size ≤ 140737488351232) :
    Calls Try.prog 75 #[.int .i64 at', .int .i64 1, .agg (evA k f t v a s u)] w fun e w' => e = .returned (.bool (decide (AcL at' at' k f t v a s.size u))) ∧ Below w.heap.size w w' := by
  have HV : Hid (∀ W, Calls Try.prog 104 #[.agg (evA k f t v a s u)] W fun e w' => e = .returned (.bool (decide (VeP k f t v a s.size u))) ∧ Below W.heap.size W w') := Lib.hid fun W => (valid_xy k f t v a s u W hs).mono fun e w' ⟨h1, h2⟩ => ⟨h1, by rw [h2]; exact ba _ _⟩
  rw [acL_bool]
  have q1 : IntKind.i64.wrap 2 = 2 := rfl
  cases hP : decide (VeP k f t v a s.size u)
  · rw [hP] at HV; simpa using accL_0 at' k f t v a s u w HV
  rw [hP] at HV
  cases hk : (k != 1)
  case true => simpa [show (k == 1) = false by simpa using hk] using accL_1 at' k f t v a s u w HV hk
  have hk' : (k == 1) = true := by simpa using hk
  cases hu : (u != 0)
  case true => simpa [hk', show (u == 0) = false by simpa using hu] using accL_2 at' k f t v a s u w HV hk hu
  have hu' : (u == 0) = true := by simpa using hu
  cases hft : (f == t)
  case true => simpa [hk', hu', show f = t by simpa using hft] using accL_3 at' k f t v a s u w HV hk hu hft
  have hft' : ¬ f = t := by simpa using hft
  cases hv0 : (decide (v < 0))
  case true => simpa [hk', hu', hft', show (v == 0) = false by simp at hv0 ⊢; omega, show (v == 1) = false by simp at hv0 ⊢; omega] using accL_4 at' k f t v a s u w HV hk hu hft hv0
  have hv0' : ¬ v < 0 := by simpa using hv0
  cases hv2 : (decide (IntKind.i64.wrap 2 ≤ v))
  case true => rw [q1] at hv2; simpa [hk', hu', hft', show (v == 0) = false by simp at hv2 ⊢; omega, show (v == 1) = false by simp at hv2 ⊢; omega] using accL_5 at' k f t v a s u w HV hk hu hft hv0 (by rw [q1]; exact hv2)
  have hv2' : ¬ 2 ≤ v := by rw [q1] at hv2; simpa using hv2
  simpa [hk', hu', hft', show (v == 0 || v == 1) = true by rcases (show v = 0 ∨ v = 1 by omega) with h | h <;> simp [h]] using accL_6 at' k f t v a s u w HV hk hu hft hv0 hv2

end Go.Proofs.Ytmbeaagpjpphhaa
