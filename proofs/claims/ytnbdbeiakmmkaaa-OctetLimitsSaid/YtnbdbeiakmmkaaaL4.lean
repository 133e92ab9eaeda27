/-
  The walk of the statement OctetLimits.
-/
import Derived.Test.YtnbdbeiakmmkaaaW4
namespace Go.Proofs.Ytnbdbeiakmmkaaa
open Go.RowKit
set_option linter.unusedVariables false

set_option maxRecDepth 20000 in
set_option maxHeartbeats 2000000 in
theorem law_limits (s : ByteArray) (at_ most : Int) (w : World) (hs : s.size ≤ 140737488351232) (hm0 : -9223372036854775808 ≤ most) (hm1 : most ≤ 9223372036854775807) :
    Calls Try.prog 6 #[.string s, .int .i64 at_, .int .i64 most] w fun e w' => e = .returned (.bool true) ∧ Below w.heap.size w w' := by
  have C1 := fun w => takt_any s at_ most w hs hm0 hm1
  have C2 := fun w => rtakt_any s at_ most w hs hm0 hm1
  have C3 := fun w => takc_any s at_ most w (by omega) hm0 hm1
  have C4 := fun w => rtakc_any s at_ most w (by omega) hm0 hm1
  unfold ttVal at C1 C2
  unfold tcVal at C3 C4
  generalize (⟨(ttS s.data.toList at_ most).toArray⟩ : ByteArray) = T at C1 C2
  generalize tcN s.data.toList at_ most + tcV s.data.toList at_ most = M at C1 C2
  generalize tcV s.data.toList at_ most = V at C3 C4
  generalize tcN s.data.toList at_ most = N at C3 C4
  generalize tcE s.data.toList at_ most = E at C1 C2 C3 C4
  have H1 := Lib.hid C1; have H2 := Lib.hid C2; have H3 := Lib.hid C3; have H4 := Lib.hid C4
  clear C1 C2 C3 C4 hs hm0 hm1
  go_enter Try.func6, Try.ntmps6
  go_wp2_with (first
    | (go_at_call 15; go_must (refine (H1.out _).mono ?_; rintro e w1 ⟨rfl, hb1⟩))
    | (go_at_call 21; go_must (refine (H2.out _).mono ?_; rintro e w2 ⟨rfl, rfl⟩))
    | (go_at_call 22; go_must (refine (H3.out _).mono ?_; rintro e w3 ⟨rfl, rfl⟩))
    | (go_at_call 23; go_must (refine (H4.out _).mono ?_; rintro e w4 ⟨rfl, rfl⟩))
    | (go_at_call 9; go_must (refine (awake_any _).mono ?_; rintro e w5 ⟨rfl, hb5⟩)))
  go_returns
  exact ⟨rfl, hb1.trans (hb5.mono hb1.size)⟩

end Go.Proofs.Ytnbdbeiakmmkaaa
