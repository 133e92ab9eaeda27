/-
  The walk of the chapter's examples ('lives').
-/
import Derived.Test.YtmogmmnldggdhaaW7
import Derived.Test.YtmogmmnldggdhaaW8
namespace Go.Proofs.Ytmogmmnldggdhaa
open Go.RowKit
set_option linter.unusedVariables false

theorem ex_int (w : World) : Calls Try.prog 10 #[.string ⟨#[48, 49, 49]⟩, .bool true] w fun e w' => e = .returned (.tuple #[.int .i64 3, .int .i64 0]) ∧ Below w.heap.size w w' := by
  have h := int_any ⟨#[48, 49, 49]⟩ true w (by decide)
  rw [show inVal (⟨#[48, 49, 49]⟩ : ByteArray).data.toList true = .tuple #[.int .i64 3, .int .i64 0] from rfl] at h
  exact h
theorem ex_from (w : World) : Calls Try.prog 12 #[.int .i64 5, .int .i64 8, .bool false] w fun e w' => e = .returned (.string ⟨#[49, 48, 49, 48, 48, 48, 48, 48]⟩) ∧ Below w.heap.size w w' := by
  have h := fromInt_any 5 8 false w (by omega) (by omega)
  rw [show (fiT 5 8 false).toArray = #[49, 48, 49, 48, 48, 48, 48, 48] by decide] at h
  exact h
theorem ex_run (w : World) : Calls Try.prog 26 #[.string ⟨#[48, 48, 49, 49, 48]⟩, .int .i64 2] w fun e w' => e = .returned (.int .i64 2) ∧ Below w.heap.size w w' := by
  have h := run_any ⟨#[48, 48, 49, 49, 48]⟩ 2 w (by decide)
  rw [show ruV (⟨#[48, 48, 49, 49, 48]⟩ : ByteArray).data.toList 2 = 2 by decide] at h
  exact h
theorem ex_good (w : World) : Calls Try.prog 14 #[.string ⟨#[48, 49]⟩] w fun e w' => e = .returned (.bool true) ∧ w = w' := by
  have h := valid_any ⟨#[48, 49]⟩ w (by decide)
  rw [show okB (⟨#[48, 49]⟩ : ByteArray).data.toList = true by decide] at h
  exact h
theorem ex_bad (w : World) : Calls Try.prog 14 #[.string ⟨#[50]⟩] w fun e w' => e = .returned (.bool false) ∧ w = w' := by
  have h := valid_any ⟨#[50]⟩ w (by decide)
  rw [show okB (⟨#[50]⟩ : ByteArray).data.toList = false by decide] at h
  exact h

set_option maxRecDepth 20000 in
set_option maxHeartbeats 1000000 in
theorem lives_any (w : World) : Calls Try.prog 9 #[] w fun e w' => e = .returned (.bool true) ∧ Below w.heap.size w w' := by
  go_enter Try.func9, Try.ntmps9
  go_wp2_with (first
    | (go_at_call 10; go_must (refine (ex_int _).mono ?_; rintro e w1 ⟨rfl, b1⟩))
    | (go_at_call 12; go_must (refine (ex_from _).mono ?_; rintro e w2 ⟨rfl, b2⟩))
    | (go_at_call 26; go_must (refine (ex_run _).mono ?_; rintro e w3 ⟨rfl, b3⟩))
    | (go_at_call_of 14 (Value.string ⟨#[48, 49]⟩); go_must (refine (ex_good _).mono ?_; rintro e w4 ⟨rfl, rfl⟩))
    | (go_at_call_of 14 (Value.string ⟨#[50]⟩); go_must (refine (ex_bad _).mono ?_; rintro e w5 ⟨rfl, rfl⟩)))
  go_returns
  exact ⟨rfl, (b1.trans (b2.mono b1.size)).trans (b3.mono (b1.trans (b2.mono b1.size)).size)⟩

end Go.Proofs.Ytmogmmnldggdhaa
