/-
  The walk of lives: the chapter's example.
-/
import Derived.Test.YtillcmddbjhepaaW22
namespace Go.Proofs.Ytillcmddbjhepaa
open Go Go.RowKit Go.Joins
set_option linter.unusedVariables false
set_option linter.unusedSimpArgs false

theorem ex_atc (vN vR : Value) (w : World) (hN : NmArg w vN exN) (hR : RnArg w vR exR) : Calls Try.prog 8 #[.agg #[vN, vR], .int .i64 2] w fun e w' => e = .returned (.tuple #[.int .i64 3, .bool true]) ∧ Below w.heap.size w w' := by
  have := at_any exN exR vN vR 2 w hN ex_sz hR (by decide) (by decide)
  rw [ex_at] at this
  exact this
theorem ex_lgc (vN vR : Value) (w : World) (hN : NmArg w vN exN) (hR : RnArg w vR exR) : Calls Try.prog 7 #[.agg #[vN, vR]] w fun e w' => e = .returned (.int .i64 5) ∧ Below w.heap.size w w' := by
  have := longC_any exN exR vN vR w hN ex_sz hR (by decide)
  rw [ex_lgC] at this
  exact this

set_option maxRecDepth 100000 in
set_option maxHeartbeats 8000000 in
theorem lives_any (w : World) : Calls Try.prog 4 #[] w fun e w' => e = .returned (.bool true) ∧ Below w.heap.size w w' := by
  have CB := Lib.hid (ex_build w)
  have CA := Lib.hid ex_atc
  have CL := Lib.hid ex_lgc
  go_enter Try.func4, Try.ntmps4
  go_wp2_with (first
    | (go_at_call 10; go_must (refine CB.out.mono ?_; rintro e1 w1 ⟨g1, c1, g2, c2, rfl, f1, f2, f3, l1, l2, n1, r1, b1⟩; have R1 := Lib.hid (fun w' (hb : Below w1.heap.size w1 w') => n1.keep hb); have R2 := Lib.hid (fun w' (hb : Below w1.heap.size w1 w') => r1.keep hb); have B1 := Lib.hid b1; have HF := Lib.hid (fun w' (hb : Below w1.heap.size w1 w') => And.intro ((hb.cell (p := ⟨g1, 1, none⟩) l1).trans f1) (And.intro ((hb.cell (p := ⟨g2, 2, none⟩) l2).trans f2) ((hb.cell (p := ⟨g2, 3, none⟩) l2).trans f3))); obtain ⟨f1, f2, f3⟩ := HF.out _ (ba w1 (.cells #[.slice (some ⟨g1, 0, none⟩) 2 c1, .slice (some ⟨g2, 0, none⟩) 3 c2] 25)); have BX := Lib.hid (ba w1 (.cells #[.slice (some ⟨g1, 0, none⟩) 2 c1, .slice (some ⟨g2, 0, none⟩) 3 c2] 25)); have PX := Lib.hid (RowAt.new w1 25 #[.slice (some ⟨g1, 0, none⟩) 2 c1, .slice (some ⟨g2, 0, none⟩) 3 c2]); clear n1 r1 b1 l1 l2))
    | (go_at_call 8; go_must (refine (CA.out _ _ _ (R1.out _ BX.out) (R2.out _ BX.out)).mono ?_; rintro e2 w2 ⟨rfl, b2⟩; have B2 := Lib.hid (BX.out.trans (b2.mono BX.out.size)); have PY := PX.out.keep b2; have y0 := PY.cell 0; have y1 := PY.cell 1; have z0 := PY.frozen 0; have z1 := PY.frozen 1; clear PY b2))
    | (go_at_call 7; go_must (refine (CL.out _ _ _ (R1.out _ B2.out) (R2.out _ B2.out)).mono ?_; rintro e3 w3 ⟨rfl, b3⟩; have B3 := Lib.hid (B1.out.trans ((B2.out.trans (b3.mono B2.out.size)).mono B1.out.size)); clear b3)))
  go_returns
  exact ⟨rfl, B3.out⟩


def fewB (N : List ByteArray) (R : List Rn) : Bool := decide (N.length ≤ 100) && decide (R.length ≤ 2000)
set_option maxRecDepth 100000 in
set_option maxHeartbeats 4000000 in
theorem few_any (N : List ByteArray) (R : List Rn) (vN vR : Value) (w : World) (hN : NmArg w vN N) (hR : RnArg w vR R) : Calls Try.prog 5 #[.agg #[vN, vR]] w fun e w' => e = .returned (.bool (fewB N R)) ∧ Below w.heap.size w w' := by
  obtain ⟨A1, c1, rfl, q1⟩ := hN.form
  obtain ⟨A2, c2, rfl, q2⟩ := hR
  have bb := Lib.hid (ba w (.cells #[.slice A1 N.length c1, .slice A2 R.length c2] 25))
  clear hN q1 q2
  by_cases h1 : N.length ≤ 100
  · by_cases h2 : R.length ≤ 2000
    · have e : fewB N R = true := by unfold fewB; simp [h1, h2]
      rw [e]
      have h1' : (N.length : Int) ≤ 100 := by omega
      have h2' : (R.length : Int) ≤ 2000 := by omega
      generalize N.length = n at *
      generalize R.length = r at *
      go_enter Try.func5, Try.ntmps5
      go_wp2
      go_returns
      exact ⟨by simp [*], bb.out⟩
    · have e : fewB N R = false := by unfold fewB; simp [h1, h2]
      rw [e]
      have h1' : (N.length : Int) ≤ 100 := by omega
      have h2' : ¬ (R.length : Int) ≤ 2000 := by omega
      generalize N.length = n at *
      generalize R.length = r at *
      go_enter Try.func5, Try.ntmps5
      go_wp2
      go_returns
      exact ⟨by simp [*], bb.out⟩
  · have e : fewB N R = false := by unfold fewB; simp [h1]
    rw [e]
    have h1' : ¬ (N.length : Int) ≤ 100 := by omega
    generalize N.length = n at *
    generalize R.length = r at *
    go_enter Try.func5, Try.ntmps5
    go_wp2
    go_returns
    exact ⟨by simp [*], bb.out⟩

end Go.Proofs.Ytillcmddbjhepaa
