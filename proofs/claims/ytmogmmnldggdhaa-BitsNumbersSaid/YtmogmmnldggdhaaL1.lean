/-
  The walk of the statement BitsNumbers.
-/
import Derived.Test.YtmogmmnldggdhaaW9
namespace Go.Proofs.Ytmogmmnldggdhaa
open Go.RowKit
set_option linter.unusedVariables false

set_option maxRecDepth 20000 in
set_option maxHeartbeats 2000000 in
theorem law_numbers (n W : Int) (msb : Bool) (s : ByteArray) (w : World) (hn0 : -9223372036854775808 ≤ n) (hn1 : n ≤ 9223372036854775807) (hs : s.size ≤ 140737488351232) :
    Calls Try.prog 3 #[.int .i64 n, .int .i64 W, .bool msb, .string s] w fun e w' => e = .returned (.bool true) ∧ Below w.heap.size w w' := by
  have hs' : (s.size : Int) ≤ 140737488351232 := by omega
  by_cases hbig : 70000 < s.size
  · go_enter Try.func3, Try.ntmps3
    go_wp2_with (first
      | (go_at_call 9; go_must (refine (lives_any _).mono ?_; rintro e w0 ⟨rfl, b0⟩)))
    go_returns
    exact ⟨rfl, by (repeat' (first | with_reducible exact Below.refl _ _ | with_reducible exact Nat.le_refl _ | with_reducible assumption | with_reducible refine below_drewN ?_ _ | with_reducible refine Below.drew ?_ | with_reducible refine Below.trans ?_ (Below.mono (by assumption) ?_) | with_reducible refine Below.alloc ?_ ?_ _ | with_reducible refine le_alloc ?_ _ | with_reducible refine le_drewN ?_ _ | with_reducible refine le_drew ?_ | with_reducible refine Nat.le_trans ?_ (Below.size (by assumption))))⟩
  · have C1 := fun w => int_any s msb w hs
    have C2 := fun w => rint_any s msb w hs
    have C3 := fun w => fromInt_any n W msb w hn0 hn1
    have C4 := fun w => rfromInt_any n W msb w hn0 hn1
    have C5 := fun w => valid_any s w hs
    have C6 := fun w => rvalid_any s w hs
    unfold inVal at C1 C2
    generalize inV s.data.toList msb = V at C1 C2
    generalize inE s.data.toList = E at C1 C2
    generalize (⟨(fiT n W msb).toArray⟩ : ByteArray) = T at C3 C4
    generalize okB s.data.toList = O at C5 C6
    have H1 := Lib.hid C1; have H2 := Lib.hid C2; have H3 := Lib.hid C3; have H4 := Lib.hid C4; have H5 := Lib.hid C5; have H6 := Lib.hid C6
    clear C1 C2 C3 C4 C5 C6 hn0 hn1 hs
    go_enter Try.func3, Try.ntmps3
    go_wp2_with (first
      | (go_at_call 9; go_must (refine (lives_any _).mono ?_; rintro e w0 ⟨rfl, b0⟩))
      | (go_at_call 10; go_must (refine (H1.out _).mono ?_; rintro e w1 ⟨rfl, b1⟩))
      | (go_at_call 11; go_must (refine (H2.out _).mono ?_; rintro e w2 ⟨rfl, b2⟩))
      | (go_at_call 12; go_must (refine (H3.out _).mono ?_; rintro e w3 ⟨rfl, b3⟩))
      | (go_at_call 13; go_must (refine (H4.out _).mono ?_; rintro e w4 ⟨rfl, b4⟩))
      | (go_at_call 14; go_must (refine (H5.out _).mono ?_; rintro e w5 ⟨rfl, rfl⟩))
      | (go_at_call 15; go_must (refine (H6.out _).mono ?_; rintro e w6 ⟨rfl, rfl⟩)))
    go_returns
    exact ⟨rfl, by (repeat' (first | with_reducible exact Below.refl _ _ | with_reducible exact Nat.le_refl _ | with_reducible assumption | with_reducible refine below_drewN ?_ _ | with_reducible refine Below.drew ?_ | with_reducible refine Below.trans ?_ (Below.mono (by assumption) ?_) | with_reducible refine Below.alloc ?_ ?_ _ | with_reducible refine le_alloc ?_ _ | with_reducible refine le_drewN ?_ _ | with_reducible refine le_drew ?_ | with_reducible refine Nat.le_trans ?_ (Below.size (by assumption))))⟩

end Go.Proofs.Ytmogmmnldggdhaa
