/-
  The walk of the statement CheckSums.
-/
import Derived.Test.YtljbhbpddokelaaDoorW13
namespace Go.Proofs.YtljbhbpddokelaaDoor
open Go.RowKit
set_option linter.unusedVariables false
set_option linter.unusedSimpArgs false

set_option maxRecDepth 20000 in
set_option maxHeartbeats 2000000 in
theorem law_sums (s : ByteArray) (w : World) (hE : Env w) (hs : s.size ≤ 140737488351232) :
    Calls Tryd.prog 6 #[.string s] w fun e w' => e = .returned (.bool true) ∧ Below w.heap.size w w' := by
  have hs' : (s.size : Int) ≤ 140737488351232 := by omega
  have C1 := fun w => sum_any s w hs
  have C2 := fun w => rsum_any s w hs
  have C3 := fun w => xor_any s w hs
  have C4 := fun w => rxor_any s w hs
  have C5 := fun w => carry_any s w hs
  have C6 := fun w => rcarry_any s w hs
  generalize sN s.data.toList % 256 = M at *
  generalize xN s.data.toList = N at *
  generalize 255 - cN (sN s.data.toList) = K at *
  have H1 := Lib.hid C1; have H2 := Lib.hid C2; have H3 := Lib.hid C3; have H4 := Lib.hid C4; have H5 := Lib.hid C5; have H6 := Lib.hid C6
  clear C1 C2 C3 C4 C5 C6 hs
  by_cases hbig : 1000 < s.size
  · clear H1 H2 H3 H4 H5 H6
    go_enter Tryd.func6, Tryd.ntmps6
    go_wp2_with (first
      | (go_at_call 17; go_must (refine (awake_any _ (by repeat' (first | with_reducible assumption | with_reducible refine Env.below ?_ (by assumption) | refine Env.below ?_ (ba _ _)))).mono ?_; rintro e w0 ⟨rfl, b0⟩)))
    go_returns
    exact ⟨rfl, by (repeat' (first | with_reducible exact Below.refl _ _ | with_reducible exact Nat.le_refl _ | with_reducible assumption | with_reducible refine Go.below_drewN ?_ _ | with_reducible refine Below.drew ?_ | with_reducible refine Below.trans ?_ (Below.mono (by assumption) ?_) | with_reducible refine Below.alloc ?_ ?_ _ | with_reducible refine le_alloc ?_ _ | with_reducible refine le_drewN ?_ _ | with_reducible refine le_drew ?_ | with_reducible refine Nat.le_trans ?_ (Below.size (by assumption))))⟩
  · go_enter Tryd.func6, Tryd.ntmps6
    go_wp2_with (first
      | (go_at_call 17; go_must (refine (awake_any _ (by repeat' (first | with_reducible assumption | with_reducible refine Env.below ?_ (by assumption) | refine Env.below ?_ (ba _ _)))).mono ?_; rintro e w0 ⟨rfl, b0⟩))
      | (go_at_call 22; go_must (refine (H1.out _).mono ?_; rintro e w1 ⟨rfl, rfl⟩))
      | (go_at_call 23; go_must (refine (H2.out _).mono ?_; rintro e w1 ⟨rfl, rfl⟩))
      | (go_at_call 24; go_must (refine (H3.out _).mono ?_; rintro e w1 ⟨rfl, rfl⟩))
      | (go_at_call 25; go_must (refine (H4.out _).mono ?_; rintro e w1 ⟨rfl, rfl⟩))
      | (go_at_call 26; go_must (refine (H5.out _).mono ?_; rintro e w1 ⟨rfl, rfl⟩))
      | (go_at_call 27; go_must (refine (H6.out _).mono ?_; rintro e w1 ⟨rfl, rfl⟩)))
    go_returns
    exact ⟨rfl, by (repeat' (first | with_reducible exact Below.refl _ _ | with_reducible exact Nat.le_refl _ | with_reducible assumption | with_reducible refine Go.below_drewN ?_ _ | with_reducible refine Below.drew ?_ | with_reducible refine Below.trans ?_ (Below.mono (by assumption) ?_) | with_reducible refine Below.alloc ?_ ?_ _ | with_reducible refine le_alloc ?_ _ | with_reducible refine le_drewN ?_ _ | with_reducible refine le_drew ?_ | with_reducible refine Nat.le_trans ?_ (Below.size (by assumption))))⟩

end Go.Proofs.YtljbhbpddokelaaDoor
