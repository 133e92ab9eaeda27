/-
  The walk of the statement WaveMakes.
-/
import Derived.Test.YtpingfcmgffboaaW10
import Derived.Deep.RegionHeld3
namespace Go.Proofs.Ytpingfcmgffboaa
open Go Go.RowKit Go.Joins
set_option linter.unusedVariables false
set_option linter.unusedSimpArgs false

set_option maxRecDepth 100000 in
set_option maxHeartbeats 8000000 in
theorem law_makes (x : Int) (q : List Int) (v : Value) (n : Int) (w : World) (hT : InArg w v q) : Calls Try.prog 10 #[.int .i64 x, v, .int .i64 n] w fun e w' => e = .returned (.bool true) ∧ Below w.heap.size w w' := by
  have HT := Lib.hid (fun w' (hb : Below w.heap.size w w') => hT.keep hb)
  have CC := fun w' h => from_any x q v n w' h
  have CD := fun w' h => refFrom_any x q v n w' h
  have hcl : (feR x q n).1.length ≤ 1099511627776 := Nat.le_trans (feR_len x q n) (by omega)
  generalize feR x q n = p at *
  obtain ⟨C, z⟩ := p
  have KC := Lib.hid (show ∀ w', InArg w' v q → Calls Try.prog 14 #[.int .i64 x, v, .int .i64 n] w' fun e w'' => ∃ u : Value, e = .returned (.tuple #[u, .int .i64 z]) ∧ RnRow w'' w'.heap.size u C ∧ Below w'.heap.size w' w'' from CC)
  have KD := Lib.hid (show ∀ w', InArg w' v q → Calls Try.prog 31 #[.int .i64 x, v, .int .i64 n] w' fun e w'' => ∃ u : Value, e = .returned (.tuple #[u, .int .i64 z]) ∧ RnRow w'' w'.heap.size u C ∧ Below w'.heap.size w' w'' from CD)
  obtain ⟨A, c, rfl, hA⟩ := hT
  clear CC CD hA
  go_enter Try.func10, Try.ntmps10
  go_wp2_with (first
    | (go_at_call 14; go_must (refine (KC.out _ (HT.out _ (Below.refl _ _))).mono ?_; rintro e1 w1 ⟨v1, rfl, r1, b1⟩; have R1 := Lib.hid (fun w' (hb : Below w1.heap.size w1 w') => (KRow.arg rnC_size r1).keep hb); have B1 := Lib.hid b1; clear b1 r1))
    | (go_at_call 31; go_must (refine (KD.out _ (HT.out _ B1.out)).mono ?_; rintro e2 w2 ⟨v2, rfl, r2, b2⟩; have R2 := Lib.hid (R1.out _ b2); have R3 := Lib.hid (KRow.arg rnC_size r2); have B2 := Lib.hid (B1.out.trans (b2.mono B1.out.size)); clear b2; clear r2))
    | (go_at_call 17; go_must (refine (same_any C _ _ _ R2.out R3.out hcl).mono ?_; rintro e3 w3 ⟨rfl, b3⟩; have B3 := Lib.hid (B2.out.trans (b3.mono B2.out.size)); clear b3))
    | (go_at_call 12; go_must (refine (awake_any _).mono ?_; rintro ez wz ⟨rfl, bz⟩; have BZ := Lib.hid (B3.out.trans (bz.mono B3.out.size)); clear bz)))
  go_returns
  exact ⟨rfl, BZ.out⟩

end Go.Proofs.Ytpingfcmgffboaa
