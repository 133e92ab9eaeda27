/-
  The walk of the statement LexUnquotes.
-/
import Derived.Test.YtnmmbpmgdicglaaW17
import Derived.Test.YtnmmbpmgdicglaaW19
namespace Go.Proofs.Ytnmmbpmgdicglaa
open Go.RowKit
set_option linter.unusedVariables false
set_option linter.unusedSimpArgs false

set_option maxRecDepth 20000 in
set_option maxHeartbeats 2000000 in
theorem law_unquotes (s : ByteArray) (w : World) (hs : s.size ≤ 140737488351232) :
    Calls Try.prog 6 #[.string s] w fun e w' => e = .returned (.bool true) ∧ Below w.heap.size w w' := by
  have C1 := fun w => unquote_any s w hs
  have C2 := fun w => runquote_any s w hs
  unfold unV at C1 C2
  generalize unq s.data.toList = O at *
  cases O with
  | none =>
    have H1 := Lib.hid C1; have H2 := Lib.hid C2
    clear C1 C2
    go_enter Try.func6, Try.ntmps6
    go_wp2_with (first
      | (go_at_call 17; go_must (refine (H1.out _).mono ?_; rintro e w1 ⟨rfl, b1⟩))
      | (go_at_call 19; go_must (refine (H2.out _).mono ?_; rintro e w2 ⟨rfl, b2⟩; have s3 := b1.trans (b2.mono b1.size)))
      | (go_at_call 11; go_must (refine (awake_any _).mono ?_; rintro e w5 ⟨rfl, b5⟩; have s5 := s3.trans (b5.mono s3.size))))
    go_returns
    exact ⟨rfl, s5⟩
  | some o =>
    generalize o.toArray = Z at *
    have H1 := Lib.hid C1; have H2 := Lib.hid C2
    clear C1 C2
    go_enter Try.func6, Try.ntmps6
    go_wp2_with (first
      | (go_at_call 17; go_must (refine (H1.out _).mono ?_; rintro e w1 ⟨rfl, b1⟩))
      | (go_at_call 19; go_must (refine (H2.out _).mono ?_; rintro e w2 ⟨rfl, b2⟩; have s3 := b1.trans (b2.mono b1.size)))
      | (go_at_call 11; go_must (refine (awake_any _).mono ?_; rintro e w5 ⟨rfl, b5⟩; have s5 := s3.trans (b5.mono s3.size))))
    go_returns
    exact ⟨rfl, s5⟩

end Go.Proofs.Ytnmmbpmgdicglaa
