/-
  The walk of the statement CheckBytes.
-/
import Derived.Test.YtljbhbpddokelaaDoorW13
namespace Go.Proofs.YtljbhbpddokelaaDoor
open Go.RowKit
set_option linter.unusedVariables false
set_option linter.unusedSimpArgs false

set_option maxRecDepth 20000 in
set_option maxHeartbeats 2000000 in
theorem law_bytes (W P I X : Int) (R : Bool) (s : ByteArray) (w : World) (hE : Env w) (hs : s.size ≤ 140737488351232) :
    Calls Tryd.prog 5 #[crV W P I X R, .string s] w fun e w' => e = .returned (.bool true) ∧ Below w.heap.size w w' := by
  have hs' : (s.size : Int) ≤ 140737488351232 := by omega
  have C1 := fun w => bytes_any W P I X R s w hs
  have C2 := fun w => rbytes_any W P I X R s w hs
  unfold crV two at *
  generalize byV W P I X R s.data.toList = M at *
  generalize byE W P I X s.data.toList = E at *
  have H1 := Lib.hid C1; have H2 := Lib.hid C2
  clear C1 C2 hs
  by_cases hbig : 100 < s.size
  · clear H1 H2
    go_enter Tryd.func5, Tryd.ntmps5
    go_wp2_with (first
      | (go_at_call 17; go_must (refine (awake_any _ (by repeat' (first | with_reducible assumption | with_reducible refine Env.below ?_ (by assumption) | refine Env.below ?_ (ba _ _)))).mono ?_; rintro e w0 ⟨rfl, b0⟩)))
    go_returns
    exact ⟨rfl, by (repeat' (first | with_reducible exact Below.refl _ _ | with_reducible exact Nat.le_refl _ | with_reducible assumption | with_reducible refine Go.below_drewN ?_ _ | with_reducible refine Below.drew ?_ | with_reducible refine Below.trans ?_ (Below.mono (by assumption) ?_) | with_reducible refine Below.alloc ?_ ?_ _ | with_reducible refine le_alloc ?_ _ | with_reducible refine le_drewN ?_ _ | with_reducible refine le_drew ?_ | with_reducible refine Nat.le_trans ?_ (Below.size (by assumption))))⟩
  · go_enter Tryd.func5, Tryd.ntmps5
    go_wp2_with (first
      | (go_at_call 17; go_must (refine (awake_any _ (by repeat' (first | with_reducible assumption | with_reducible refine Env.below ?_ (by assumption) | refine Env.below ?_ (ba _ _)))).mono ?_; rintro e w0 ⟨rfl, b0⟩))
      | (go_at_call 20; go_must (refine (H1.out _).mono ?_; rintro e w1 ⟨rfl, b1⟩; obtain ⟨c1_0, c1_1, c1_2, c1_3, c1_4, c1_5⟩ := (At5.new _ _ _ _ _ _ _).below b1))
      | (go_at_call 21; go_must (refine (H2.out _).mono ?_; rintro e w2 ⟨rfl, b2⟩)))
    go_returns
    exact ⟨rfl, by (repeat' (first | with_reducible exact Below.refl _ _ | with_reducible exact Nat.le_refl _ | with_reducible assumption | with_reducible refine Go.below_drewN ?_ _ | with_reducible refine Below.drew ?_ | with_reducible refine Below.trans ?_ (Below.mono (by assumption) ?_) | with_reducible refine Below.alloc ?_ ?_ _ | with_reducible refine le_alloc ?_ _ | with_reducible refine le_drewN ?_ _ | with_reducible refine le_drew ?_ | with_reducible refine Nat.le_trans ?_ (Below.size (by assumption))))⟩

end Go.Proofs.YtljbhbpddokelaaDoor
