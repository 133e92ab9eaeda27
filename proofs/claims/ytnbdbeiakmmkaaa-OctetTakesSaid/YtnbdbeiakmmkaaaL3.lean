/-
  The walks of the statements OctetTakes and OctetShortest.
-/
import Derived.Test.YtnbdbeiakmmkaaaW4
namespace Go.Proofs.Ytnbdbeiakmmkaaa
open Go.RowKit
set_option linter.unusedVariables false

set_option maxRecDepth 20000 in
set_option maxHeartbeats 2000000 in
theorem law_takes (s : ByteArray) (at_ : Int) (w : World) (hs : s.size ≤ 140737488351232) :
    Calls Try.prog 5 #[.string s, .int .i64 at_] w fun e w' => e = .returned (.bool true) ∧ Below w.heap.size w w' := by
  have C1 := fun w => taku_any s at_ w (by omega)
  have C2 := fun w => rtaku_any s at_ w (by omega)
  have C3 := fun w => taki_any s at_ w (by omega)
  have C4 := fun w => rtaki_any s at_ w (by omega)
  unfold tuVal at C1 C2
  unfold tiVal at C3 C4
  generalize tuV s.data.toList at_ = V at C1 C2 C3 C4
  generalize tuN s.data.toList at_ = N at C1 C2 C3 C4
  generalize tuE s.data.toList at_ = E at C1 C2 C3 C4
  generalize zz V = Z at C3 C4
  have H1 := Lib.hid C1; have H2 := Lib.hid C2; have H3 := Lib.hid C3; have H4 := Lib.hid C4
  clear C1 C2 C3 C4 hs
  go_enter Try.func5, Try.ntmps5
  go_wp2_with (first
    | (go_at_call 13; go_must (refine (H1.out _).mono ?_; rintro e w1 ⟨rfl, rfl⟩))
    | (go_at_call 19; go_must (refine (H2.out _).mono ?_; rintro e w1 ⟨rfl, rfl⟩))
    | (go_at_call 14; go_must (refine (H3.out _).mono ?_; rintro e w1 ⟨rfl, rfl⟩))
    | (go_at_call 20; go_must (refine (H4.out _).mono ?_; rintro e w1 ⟨rfl, rfl⟩))
    | (go_at_call 9; go_must (refine (awake_any _).mono ?_; rintro e w1 ⟨rfl, hb⟩)))
  go_returns
  exact ⟨rfl, hb⟩

end Go.Proofs.Ytnbdbeiakmmkaaa
