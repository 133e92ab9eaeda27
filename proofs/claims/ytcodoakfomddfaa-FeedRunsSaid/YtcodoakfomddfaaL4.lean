/-
  The walk of the statement FeedRuns.
-/
import Derived.Test.YtcodoakfomddfaaT24
import Derived.Test.YtcodoakfomddfaaT3
namespace Go.Proofs.Ytcodoakfomddfaa
open Go Go.RowKit Go.Joins
set_option linter.unusedVariables false
set_option linter.unusedSimpArgs false

set_option maxRecDepth 100000 in
set_option maxHeartbeats 8000000 in
theorem law_runs (l : List Ev) (V : Value) (w : World) (hT : EvArg w V l) (hn : l.length ≤ 2199023255550) : Calls Try.prog 6 #[V] w fun e w' => e = .returned (.bool true) ∧ Below w.heap.size w w' := by
  have KC := Lib.hid (runs_any l V w hT hn)
  have KD := Lib.hid (fun w' (hb : Below w.heap.size w w') => refRuns_any l V w' (hT.keep hb) hn)
  have hm : (ruL l).length ≤ 1099511627776 := by
    unfold ruL
    split
    · rename_i h; rw [List.length_map]; omega
    · simp
  have HS := Lib.hid (fun V V' W h1 h2 => sameRn_any (ruL l) V V' W h1 h2 hm)
  clear hm hn
  obtain ⟨A, c, rfl⟩ := hT.form
  clear hT
  generalize ruL l = M at *
  generalize ruE l = E at *
  have hee : (E == E) = true := by simp
  go_enter Try.func6, Try.ntmps6
  go_wp2_with (first
    | (go_at_call 17; go_must (refine KC.out.mono ?_; rintro e1 w1 ⟨v1, rfl, r1, b1⟩; obtain ⟨UA, UN, UC, rfl, hUN⟩ := KRow.form r1; clear hUN; have R0 := Lib.hid (r1.arg rnC_size); have B1 := Lib.hid b1; clear r1 b1))
    | (go_at_call 18; go_must (refine (KD.out _ B1.out).mono ?_; rintro e2 w2 ⟨v2, rfl, r2, b2⟩; obtain ⟨VA, VN, VC, rfl, hVN⟩ := KRow.form r2; clear hVN; have R1 := Lib.hid (R0.out.keep b2); have R2 := Lib.hid (r2.arg rnC_size); have B2 := Lib.hid (B1.out.trans (b2.mono B1.out.size)); clear r2 b2))
    | (go_at_call 19; go_must (refine (HS.out _ _ _ R1.out R2.out).mono ?_; rintro e3 w3 ⟨rfl, b3⟩; have B3 := Lib.hid (B2.out.trans (b3.mono B2.out.size)); clear b3))
    | (go_at_call 12; go_must (refine (awake_any _).mono ?_; rintro ez wz ⟨rfl, bz⟩; have BZ := Lib.hid (B3.out.trans (bz.mono B3.out.size)); clear bz)))
  go_returns
  exact ⟨rfl, BZ.out⟩
end Go.Proofs.Ytcodoakfomddfaa
