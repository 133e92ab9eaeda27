/-
  EventLines: the line of any event, or the error, is that of the specification.
-/
import Derived.Test.YtddphdohjceonaaDoorL6
import Derived.Test.YtddphdohjceonaaDoorA20
namespace Go.Proofs.YtddphdohjceonaaDoor
open Go Go.RowKit Go.Joins
set_option linter.unusedVariables false
set_option linter.unusedSimpArgs false

theorem ln_cases (e : Ev) : ∃ L c, lnV e = .tuple #[.string L, .int .i64 c] := by
  unfold lnV
  split
  · exact ⟨_, _, rfl⟩
  · exact ⟨_, _, rfl⟩

set_option maxRecDepth 20000 in
set_option maxHeartbeats 8000000 in
theorem law_lines (k f t v a : Int) (s : ByteArray) (u : Int) (w : World) (hE : Env w) (hs : s.size ≤ 140737488351232) :
    Calls Tryd.prog 5 #[.agg (evA k f t v a s u)] w fun e w' => e = .returned (.bool true) ∧ Below w.heap.size w w' := by
  have HA := Lib.hid (fun W h => awake_any W (hE.below h))
  have z1 : (s.size : Int) ≤ 140737488351232 := by omega
  obtain ⟨W, b, eW, rfl, HS⟩ := new_rt w k f t v a s u
  have hs0 := Lib.hid HS
  have hB0 := Lib.hid (below_rt HS)
  obtain ⟨a0, a1, a2, a3, a4, a5, a6, _, _⟩ := HS
  by_cases h5 : 300 < s.size
  · have i1 : (300 : Int) < s.size := by omega
    have d1 := decide_eq_true i1
    clear h5 hE
    go_enter Tryd.func5, Tryd.ntmps5
    go_wp2_with (go_at_call 10; go_must (rw [← eW]; refine (HA.out _ hB0.out).mono ?_; rintro e1 w1 ⟨rfl, b1⟩))
    go_returns
    exact ⟨rfl, hB0.out.trans (b1.mono hB0.out.size)⟩
  · have i1 : ¬ (300 : Int) < s.size := by omega
    have d1 := decide_eq_false i1
    have CL := fun W (h : Below w.heap.size w W) => line_xy k f t v a s u W (by omega) (hE.below h)
    have CM := fun W => refLine_xy k f t v a s u W (by omega)
    obtain ⟨L, c, hl⟩ := ln_cases ⟨k, f, t, v, a, s.data.toList, u⟩
    rw [hl] at CL CM
    have HCL := Lib.hid CL; have HCM := Lib.hid CM
    clear h5 hE CL CM hl
    go_enter Tryd.func5, Tryd.ntmps5
    go_wp2_with (first
      | (go_at_call 23; go_must (rw [← eW]; refine (HCL.out _ hB0.out).mono ?_; rintro e1 w1 ⟨rfl, b1⟩; have h1 := held_rt hs0.out b1; have H1 := Lib.hid h1; have K1 := Lib.hid (below_rt h1); obtain ⟨g0, g1, g2, g3, g4, g5, g6, _, _⟩ := h1; clear b1))
      | (go_at_call 24; go_must (refine (HCM.out _).mono ?_; rintro e2 w2 ⟨rfl, b2⟩; have K2 := Lib.hid (K1.out.trans (b2.mono K1.out.size)); clear b2))
      | (go_at_call 10; go_must (refine (HA.out _ K2.out).mono ?_; rintro e7 w7 ⟨rfl, b7⟩; have K7 := Lib.hid (K2.out.trans (b7.mono K2.out.size)); clear b7))
      | fail)
    go_returns
    exact ⟨rfl, K7.out⟩

end Go.Proofs.YtddphdohjceonaaDoor
