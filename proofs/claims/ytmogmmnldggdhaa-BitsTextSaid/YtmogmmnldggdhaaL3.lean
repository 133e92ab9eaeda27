/-
  The walk of the statement BitsText.
-/
import Derived.Test.YtmogmmnldggdhaaW9
namespace Go.Proofs.Ytmogmmnldggdhaa
open Go.RowKit
set_option linter.unusedVariables false

set_option maxRecDepth 20000 in
set_option maxHeartbeats 2000000 in
theorem law_text (s : ByteArray) (at_ : Int) (w : World) (hs : s.size ≤ 140737488351232) :
    Calls Try.prog 5 #[.string s, .int .i64 at_] w fun e w' => e = .returned (.bool true) ∧ Below w.heap.size w w' := by
  have hs' : (s.size : Int) ≤ 140737488351232 := by omega
  by_cases hbig : 70000 < s.size
  · go_enter Try.func5, Try.ntmps5
    go_wp2_with (first
      | (go_at_call 9; go_must (refine (lives_any _).mono ?_; rintro e w0 ⟨rfl, b0⟩)))
    go_returns
    exact ⟨rfl, by (repeat' (first | with_reducible exact Below.refl _ _ | with_reducible exact Nat.le_refl _ | with_reducible assumption | with_reducible refine below_drewN ?_ _ | with_reducible refine Below.drew ?_ | with_reducible refine Below.trans ?_ (Below.mono (by assumption) ?_) | with_reducible refine Below.alloc ?_ ?_ _ | with_reducible refine le_alloc ?_ _ | with_reducible refine le_drewN ?_ _ | with_reducible refine le_drew ?_ | with_reducible refine Nat.le_trans ?_ (Below.size (by assumption))))⟩
  · have C1 := fun w => invert_any s w hs
    have C2 := fun w => rinvert_any s w hs
    have C3 := fun w => reverse_any s w hs
    have C4 := fun w => rreverse_any s w hs
    have C5 := fun w => ones_any s w hs
    have C6 := fun w => rones_any s w hs
    have C7 := fun w => run_any s at_ w hs
    have C8 := fun w => rrun_any s at_ w hs
    generalize (⟨(ivT s.data.toList).toArray⟩ : ByteArray) = V at C1 C2
    generalize (⟨(reT s.data.toList).toArray⟩ : ByteArray) = T at C3 C4
    generalize onV s.data.toList = N at C5 C6
    generalize ruV s.data.toList at_ = M at C7 C8
    have H1 := Lib.hid C1; have H2 := Lib.hid C2; have H3 := Lib.hid C3; have H4 := Lib.hid C4; have H5 := Lib.hid C5; have H6 := Lib.hid C6; have H7 := Lib.hid C7; have H8 := Lib.hid C8
    clear C1 C2 C3 C4 C5 C6 C7 C8 hs
    go_enter Try.func5, Try.ntmps5
    go_wp2_with (first
      | (go_at_call 9; go_must (refine (lives_any _).mono ?_; rintro e w0 ⟨rfl, b0⟩))
      | (go_at_call 20; go_must (refine (H1.out _).mono ?_; rintro e w1 ⟨rfl, b1⟩))
      | (go_at_call 21; go_must (refine (H2.out _).mono ?_; rintro e w2 ⟨rfl, b2⟩))
      | (go_at_call 22; go_must (refine (H3.out _).mono ?_; rintro e w3 ⟨rfl, b3⟩))
      | (go_at_call 23; go_must (refine (H4.out _).mono ?_; rintro e w4 ⟨rfl, b4⟩))
      | (go_at_call 24; go_must (refine (H5.out _).mono ?_; rintro e w5 ⟨rfl, rfl⟩))
      | (go_at_call 25; go_must (refine (H6.out _).mono ?_; rintro e w6 ⟨rfl, rfl⟩))
      | (go_at_call 26; go_must (refine (H7.out _).mono ?_; rintro e w7 ⟨rfl, b7⟩))
      | (go_at_call 27; go_must (refine (H8.out _).mono ?_; rintro e w8 ⟨rfl, b8⟩)))
    go_returns
    exact ⟨rfl, by (repeat' (first | with_reducible exact Below.refl _ _ | with_reducible exact Nat.le_refl _ | with_reducible assumption | with_reducible refine below_drewN ?_ _ | with_reducible refine Below.drew ?_ | with_reducible refine Below.trans ?_ (Below.mono (by assumption) ?_) | with_reducible refine Below.alloc ?_ ?_ _ | with_reducible refine le_alloc ?_ _ | with_reducible refine le_drewN ?_ _ | with_reducible refine le_drew ?_ | with_reducible refine Nat.le_trans ?_ (Below.size (by assumption))))⟩

end Go.Proofs.Ytmogmmnldggdhaa
