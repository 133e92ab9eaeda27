/-
  The walk of the statement GlitchCounts.
-/
import Derived.Test.YtemmljngglnccaaT6
namespace Go.Proofs.Ytemmljngglnccaa
open Go Go.RowKit Go.Joins
set_option linter.unusedVariables false
set_option linter.unusedSimpArgs false

set_option maxRecDepth 100000 in
set_option maxHeartbeats 8000000 in
theorem law_counts (l : List Rn) (v : Value) (k : Int) (w : World) (hT : RnArg w v l) : Calls Try.prog 3 #[v, .int .i64 k] w fun e w' => e = .returned (.bool true) ∧ Below w.heap.size w w' := by
  have HA := Lib.hid (awake_any w)
  have KC := Lib.hid (countG_any l k v w hT)
  have KD := Lib.hid (fun w' (hb : Below w.heap.size w w') => refCount_any l k v w' (hT.keep hb))
  obtain ⟨A, c, rfl⟩ := hT.form
  clear hT
  generalize cn k ((cl l).drop 1) = N at *
  by_cases h40 : 40 < l.length
  · have d0 : (40 : Int) < (l.length : Int) := by omega
    clear h40
    go_enter Try.func3, Try.ntmps3
    go_wp2_with (first
      | (go_at_call 11; go_must (refine HA.out.mono ?_; rintro ez wz ⟨rfl, bz⟩; have BZ := Lib.hid bz; clear bz)))
    go_returns
    exact ⟨rfl, BZ.out⟩
  · have d0 : ¬ (40 : Int) < (l.length : Int) := by omega
    clear h40
    go_enter Try.func3, Try.ntmps3
    go_wp2_with (first
      | (go_at_call 12; go_must (refine KC.out.mono ?_; rintro e1 w1 ⟨rfl, b1⟩; have B1 := Lib.hid b1; clear b1))
      | (go_at_call 13; go_must (refine (KD.out _ B1.out).mono ?_; rintro e2 w2 ⟨rfl, b2⟩; have B2 := Lib.hid (B1.out.trans (b2.mono B1.out.size)); clear b2))
      | (go_at_call 11; go_must (refine (awake_any _).mono ?_; rintro ez wz ⟨rfl, bz⟩; have BZ := Lib.hid (B2.out.trans (bz.mono B2.out.size)); clear bz)))
    go_returns
    exact ⟨rfl, BZ.out⟩
end Go.Proofs.Ytemmljngglnccaa
