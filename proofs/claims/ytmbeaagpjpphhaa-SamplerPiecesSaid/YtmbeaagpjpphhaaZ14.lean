/-
  The walk of AcceptsLevel, second part: a fault.
-/
import Derived.Test.YtmbeaagpjpphhaaZ12
import Derived.Test.YtmbeaagpjpphhaaZ09
import Derived.Test.YtmbeaagpjpphhaaZ11
import Derived.Deep.RegionHeld3
import Derived.Deep.RegionWith
import Derived.Deep.Cut
namespace Go.Proofs.Ytmbeaagpjpphhaa
open Go Go.RowKit Go.Joins
set_option linter.unusedVariables false
set_option linter.unusedSimpArgs false

set_option maxRecDepth 20000 in
set_option maxHeartbeats 4000000 in
theorem accL_2 (at' k f t v a : Int) (s : ByteArray) (u : Int) (w : World) (HV : Hid (∀ W, Calls Try.prog 104 #[.agg (evA k f t v a s u)] W fun e w' => e = .returned (.bool true) ∧ Below W.heap.size W w')) (hk : (k != 1) = false) (hu : (u != 0) = true) :
    Calls Try.prog 75 #[.int .i64 at', .int .i64 1, .agg (evA k f t v a s u)] w fun e w' => e = .returned (.bool false) ∧ Below w.heap.size w w' := by
  obtain ⟨W, q, eW, eq, lq, r0, B0⟩ := box7 w (evA k f t v a s u)
  obtain ⟨⟨c0, c1, c2, c3, c4, c5, c6⟩, c7⟩ := row7 r0
  have HS : Hid (W.cell? ⟨q, 0, none⟩ = some (.int .i64 k) ∧ W.cell? ⟨q, 1, none⟩ = some (.int .i64 f) ∧ W.cell? ⟨q, 2, none⟩ = some (.int .i64 t) ∧ W.cell? ⟨q, 3, none⟩ = some (.int .i64 v) ∧ W.cell? ⟨q, 4, none⟩ = some (.int .i64 a) ∧ W.cell? ⟨q, 5, none⟩ = some (.string s) ∧ W.cell? ⟨q, 6, none⟩ = some (.int .i64 u) ∧ q < W.heap.size ∧ Below w.heap.size w W) := Lib.hid ⟨c0, c1, c2, c3, c4, c5, c6, lq, B0⟩
  clear c0 c1 c2 c3 c4 c5 c6 c7 B0
  go_enter Try.func75, Try.ntmps75
  go_upto_region 1 with (fail)
  rw [← eW, ← eq]
  clear eW eq
  obtain ⟨c0, c1, c2, c3, c4, c5, c6, _, _⟩ := HS.out
  first | fail | (go_region_with (first | (go_at_call 104; refine (HV.out _).mono ?_; rintro e5 w5 ⟨rfl, b5⟩; have hS9 := held_ev (held_ev HS.out (Below.refl _ _).drew) b5; obtain ⟨d0, d1, d2, d3, d4, d5, d6, dl, dB⟩ := hS9))) | fail
  all_goals
    clear HS r0 HV
    go_wp2
    go_returns
    exact ⟨rfl, dB⟩

end Go.Proofs.Ytmbeaagpjpphhaa
