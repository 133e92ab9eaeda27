/-
  The walk of the statement WaveCleans.
-/
import Derived.Test.YtpingfcmgffboaaW10
import Derived.Deep.RegionHeld3
namespace Go.Proofs.Ytpingfcmgffboaa
open Go Go.RowKit Go.Joins
set_option linter.unusedVariables false
set_option linter.unusedSimpArgs false

set_option maxRecDepth 100000 in
set_option maxHeartbeats 8000000 in
theorem law_cleans (l : List Rn) (v : Value) (w : World) (hT : RnArg w v l) : Calls Try.prog 5 #[v] w fun e w' => e = .returned (.bool true) ∧ Below w.heap.size w w' := by
  have HT := Lib.hid (fun w' (hb : Below w.heap.size w w') => hT.keep hb)
  have CC := fun w' h => clean_any l v w' h
  have CD := fun w' h => refClean_any l v w' h
  have CI := fun w' h => invert_any l v w' h
  have CJ := fun w' h => refInvert_any l v w' h
  have hcl : (cl l).length ≤ 1099511627776 := Nat.le_trans ((vl_iff _).1 (cl_vl l)).1 (by omega)
  have hil : (ivV l).length ≤ 1099511627776 := Nat.le_trans ((vl_iff _).1 (ivV_vl l)).1 (by omega)
  generalize cl l = C at *
  generalize ivV l = I at *
  have KC := Lib.hid CC; have KD := Lib.hid CD; have KI := Lib.hid CI; have KJ := Lib.hid CJ
  have KS := Lib.hid (fun J V V' W h1 h2 hl => same_any J V V' W h1 h2 hl)
  obtain ⟨A, c, rfl, hA⟩ := hT
  clear CC CD CI CJ hA
  go_enter Try.func5, Try.ntmps5
  go_wp2_with (first
    | (go_at_call 18; go_must (refine (KC.out _ (HT.out _ (Below.refl _ _))).mono ?_; rintro e1 w1 ⟨v1, rfl, r1, b1⟩; have R1 := Lib.hid (fun w' (hb : Below w1.heap.size w1 w') => (KRow.arg rnC_size r1).keep hb); have B1 := Lib.hid b1; clear b1 r1))
    | (go_at_call 24; go_must (refine (KD.out _ (HT.out _ B1.out)).mono ?_; rintro e2 w2 ⟨v2, rfl, r2, b2⟩; have R2 := Lib.hid (R1.out _ b2); have R3 := Lib.hid (KRow.arg rnC_size r2); have B2 := Lib.hid (B1.out.trans (b2.mono B1.out.size)); clear b2; clear r2))
    | (go_at_call 25; go_must (refine (KI.out _ (HT.out _ B3.out)).mono ?_; rintro e4 w4 ⟨v4, rfl, r4, b4⟩; have R4 := Lib.hid (fun w' (hb : Below w4.heap.size w4 w') => (KRow.arg rnC_size r4).keep hb); have B4 := Lib.hid (B3.out.trans (b4.mono B3.out.size)); clear b4; clear r4))
    | (go_at_call 26; go_must (refine (KJ.out _ (HT.out _ B4.out)).mono ?_; rintro e5 w5 ⟨v5, rfl, r5, b5⟩; have R5 := Lib.hid (R4.out _ b5); have R6 := Lib.hid (KRow.arg rnC_size r5); have B5 := Lib.hid (B4.out.trans (b5.mono B4.out.size)); clear b5; clear r5))
    | (go_at_call 17; first
        | ((with_reducible refine (KS.out I _ _ _ R5.out R6.out hil).mono ?_); rintro e6 w6 ⟨rfl, b6⟩; have B6 := Lib.hid (B5.out.trans (b6.mono B5.out.size)); clear b6)
        | ((with_reducible refine (KS.out C _ _ _ R2.out R3.out hcl).mono ?_); rintro e3 w3 ⟨rfl, b3⟩; have B3 := Lib.hid (B2.out.trans (b3.mono B2.out.size)); clear b3))
    | (go_at_call 12; go_must (refine (awake_any _).mono ?_; rintro ez wz ⟨rfl, bz⟩; have BZ := Lib.hid (B6.out.trans (bz.mono B6.out.size)); clear bz)))
  go_returns
  exact ⟨rfl, BZ.out⟩

end Go.Proofs.Ytpingfcmgffboaa
