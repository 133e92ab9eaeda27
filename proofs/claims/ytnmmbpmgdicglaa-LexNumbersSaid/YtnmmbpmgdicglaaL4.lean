/-
  The walk of the statement LexNumbers.
-/
import Derived.Test.YtnmmbpmgdicglaaW17
import Derived.Test.YtnmmbpmgdicglaaW13
import Derived.Test.YtnmmbpmgdicglaaW14
namespace Go.Proofs.Ytnmmbpmgdicglaa
open Go.RowKit
set_option linter.unusedVariables false
set_option linter.unusedSimpArgs false

set_option maxRecDepth 20000 in
set_option maxHeartbeats 2000000 in
theorem law_numbers (s : ByteArray) (w : World) (hs : s.size ≤ 140737488351232) :
    Calls Try.prog 4 #[.string s] w fun e w' => e = .returned (.bool true) ∧ Below w.heap.size w w' := by
  have C1 := fun w => number_any s w hs
  have C2 := fun w => rnumber_any s w hs
  unfold nuV at C1 C2
  have C3 := fun w => name_any s w hs
  have C4 := fun w => rname_any s w hs
  generalize numV s.data.toList = a at *
  generalize numE s.data.toList = b at *
  generalize nm s.data.toList = c at *
  have H1 := Lib.hid C1; have H2 := Lib.hid C2; have H3 := Lib.hid C3; have H4 := Lib.hid C4
  clear C1 C2 C3 C4
  cases c
  all_goals
    go_enter Try.func4, Try.ntmps4
    go_wp2_with (first
      | (go_at_call 12; go_must (refine (H1.out _).mono ?_; rintro e w1 ⟨rfl, b1⟩))
      | (go_at_call 13; go_must (refine (H2.out _).mono ?_; rintro e w2 ⟨rfl, rfl⟩))
      | (go_at_call 14; go_must (refine (H3.out _).mono ?_; rintro e w3 ⟨rfl, b3⟩; have s3 := b1.trans (b3.mono b1.size)))
      | (go_at_call 15; go_must (refine (H4.out _).mono ?_; rintro e w4 ⟨rfl, rfl⟩))
      | (go_at_call 11; go_must (refine (awake_any _).mono ?_; rintro e w5 ⟨rfl, b5⟩; have s5 := s3.trans (b5.mono s3.size))))
    go_returns
    exact ⟨rfl, s5⟩

end Go.Proofs.Ytnmmbpmgdicglaa
