/-
  Layer 15: the law of levels that are divided.
-/
import Derived.Test.YtmbeaagpjpphhaaZ25
import Derived.Test.YtmbeaagpjpphhaaZ24
import Derived.Test.YtmbeaagpjpphhaaZ09
import Derived.Deep.RegionHeld3
namespace Go.Proofs.Ytmbeaagpjpphhaa
open Go Go.RowKit Go.Joins
set_option linter.unusedVariables false
set_option linter.unusedSimpArgs false

set_option maxRecDepth 20000 in
set_option maxHeartbeats 8000000 in
/-- Nothing is asked: too many numbers, or levels that do not follow one another. -/
theorem pieces15_not (N D : Int) (l : List Ev) (cs : List Int) (V VC : Value) (w : World) (hTC : Sw.InArg w VC cs) (ctl : ∃ A n c, V = .slice A n c) (q : Bool) (hh : 400 < cs.length ∨ q = false)
    (SH0 : ∀ W, Below w.heap.size w W → Calls Try.prog 20 #[rat N D, V] W fun e w' => ∃ B, e = .returned (.bool B) ∧ (B = true → l.length ≤ 400) ∧ Below W.heap.size W w')
    (CC0 : ∀ W, Below w.heap.size w W → Calls Try.prog 33 #[V] W fun e w' => e = .returned (.bool q) ∧ Below W.heap.size W w') :
    Calls Try.prog 7 #[rat N D, V, VC] w fun e w' => e = .returned (.bool true) ∧ Below w.heap.size w w' := by
  have CL := Lib.hid lives15_any
  have SH := Lib.hid SH0; have CC := Lib.hid CC0
  obtain ⟨A, n, c, rfl⟩ := ctl
  obtain ⟨AC, cC, rfl, _⟩ := hTC
  obtain ⟨W, b, eW, eb, lb, r0, B0⟩ := one_clock w N D
  have HB0 := Lib.hid B0; have H0 := Lib.hid r0
  clear r0 B0 SH0 CC0
  by_cases h1 : 400 < cs.length
  · have d1 : decide ((400 : Int) < cs.length) = true := decide_eq_true (by omega)
    have d1' : decide (400 < cs.length) = true := decide_eq_true h1
    clear hh
    go_enter Try.func7, Try.ntmps7
    go_wp2_with (first
      | (rw [← eW, ← eb]; clear eW eb; go_at_call 16; go_must (refine (CL.out _).mono ?_; rintro e1 w1 ⟨rfl, b1⟩; have B1 := Lib.hid (HB0.out.trans (b1.mono HB0.out.size)); have R1 := Lib.hid (H0.out.keep b1); obtain ⟨c0, c1⟩ := row2 R1.out; have lb1 := R1.out.lt))
      | (go_at_call 20; go_must (refine (SH.out _ B1.out).mono ?_; rintro e2 w2 ⟨B, rfl, hB, b2⟩; have HLB := Lib.hid hB; clear hB; have B2 := Lib.hid (B1.out.trans (b2.mono B1.out.size))))
      | fail)
    all_goals
      go_returns
      exact ⟨rfl, B2.out⟩
  · have d1 : decide ((400 : Int) < cs.length) = false := decide_eq_false (by omega)
    have d1' : decide (400 < cs.length) = false := decide_eq_false h1
    obtain rfl : q = false := by rcases hh with h | h; exact absurd h h1; exact h
    clear hh
    go_enter Try.func7, Try.ntmps7
    go_wp2_with (first
      | (rw [← eW, ← eb]; clear eW eb; go_at_call 16; go_must (refine (CL.out _).mono ?_; rintro e1 w1 ⟨rfl, b1⟩; have B1 := Lib.hid (HB0.out.trans (b1.mono HB0.out.size)); have R1 := Lib.hid (H0.out.keep b1); obtain ⟨c0, c1⟩ := row2 R1.out; have lb1 := R1.out.lt))
      | (go_at_call 20; go_must (refine (SH.out _ B1.out).mono ?_; rintro e2 w2 ⟨B, rfl, hB, b2⟩; have HLB := Lib.hid hB; clear hB; have B2 := Lib.hid (B1.out.trans (b2.mono B1.out.size)); have BB := B2))
      | (go_at_call 33; go_must (refine (CC.out _ B2.out).mono ?_; rintro e3 w3 ⟨rfl, b3⟩; have BB := Lib.hid (B2.out.trans (b3.mono B2.out.size))))
      | fail)
    all_goals
      go_returns
      exact ⟨rfl, BB.out⟩

end Go.Proofs.Ytmbeaagpjpphhaa
