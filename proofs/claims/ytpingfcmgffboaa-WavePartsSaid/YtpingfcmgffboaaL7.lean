/-
  The walk of the statement WaveParts.
-/
import Derived.Test.YtpingfcmgffboaaW10
import Derived.Deep.RegionHeld3
namespace Go.Proofs.Ytpingfcmgffboaa
open Go Go.RowKit Go.Joins
set_option linter.unusedVariables false
set_option linter.unusedSimpArgs false

set_option maxRecDepth 100000 in
set_option maxHeartbeats 8000000 in
theorem law_parts (l : List Rn) (v : Value) (k : Int) (w : World) (hT : RnArg w v l) : Calls Try.prog 9 #[v, .int .i64 k] w fun e w' => e = .returned (.bool true) ∧ Below w.heap.size w w' := by
  have HT := Lib.hid (fun w' (hb : Below w.heap.size w w') => hT.keep hb)
  have CV := Lib.hid (valid_any l v w hT)
  cases hv : vl l with
  | false =>
    rw [hv] at CV
    obtain ⟨A, c, rfl, hA⟩ := hT
    clear hv hA
    go_enter Try.func9, Try.ntmps9
    go_wp2_with (first
      | (go_at_call 11; go_must (refine CV.out.mono ?_; rintro e1 w1 ⟨rfl, b1⟩; have B1 := Lib.hid b1; clear b1))
      | (go_at_call 12; go_must (refine (awake_any _).mono ?_; rintro ez wz ⟨rfl, bz⟩)))
    go_returns
    exact ⟨rfl, B1.out.trans (bz.mono B1.out.size)⟩
  | true =>
  rw [hv] at CV
  by_cases h0 : 262144 ≤ l.length
  · have h0' : (262144 : Int) ≤ l.length := by omega
    have d0 : decide ((262144 : Int) ≤ l.length) = true := decide_eq_true h0'
    obtain ⟨A, c, rfl, hA⟩ := hT
    clear hv hA
    go_enter Try.func9, Try.ntmps9
    go_wp2_with (first
      | (go_at_call 11; go_must (refine CV.out.mono ?_; rintro e1 w1 ⟨rfl, b1⟩; have B1 := Lib.hid b1; clear b1))
      | (go_at_call 12; go_must (refine (awake_any _).mono ?_; rintro ez wz ⟨rfl, bz⟩)))
    go_returns
    exact ⟨rfl, B1.out.trans (bz.mono B1.out.size)⟩
  have h0' : ¬ (262144 : Int) ≤ l.length := by omega
  have d0 : decide ((262144 : Int) ≤ l.length) = false := decide_eq_false h0'
  have CS := fun w' h => slice_any l v 0 k w' h
  have CT := fun w' h => slice_any l v k (lgV l) w' h
  have CL := fun w' h => long_any l v w' h
  have CC := fun w' h => clean_any l v w' h
  have CJ := fun V U w' h1 h2 => join_any (slV l 0 k) (slV l k (lgV l)) V U w' h1 h2
  rw [parts k hv (by omega)] at CJ
  have hcl : (cl l).length ≤ 1099511627776 := Nat.le_trans (Nat.le_trans (cl_len l) ((vl_iff l).1 hv).1) (by omega)
  generalize slV l 0 k = P at *
  generalize slV l k (lgV l) = Q at *
  generalize cl l = C at *
  generalize lgV l = G at *
  have KJ := Lib.hid (show ∀ V U w', RnArg w' V P → RnArg w' U Q → Calls Try.prog 29 #[V, U] w' fun e w'' => ∃ u : Value, e = .returned (.tuple #[u, .int .i64 0]) ∧ RnRow w'' w'.heap.size u C ∧ Below w'.heap.size w' w'' from CJ)
  have KS := Lib.hid CS; have KT := Lib.hid CT; have KL := Lib.hid CL; have KC := Lib.hid CC
  obtain ⟨A, c, rfl, hA⟩ := hT
  clear CS CT CL CC CJ hA hv h0
  go_enter Try.func9, Try.ntmps9
  go_wp2_with (first
    | (go_at_call 11; go_must (refine (CV.out).mono ?_; rintro e1 w1 ⟨rfl, b1⟩; have B1 := Lib.hid b1; clear b1))
    | (go_at_call_of 27 (Value.int .i64 0); (with_reducible refine (KS.out _ (HT.out _ B1.out)).mono ?_); rintro e2 w2 ⟨v2, rfl, r2, b2⟩; have R2 := Lib.hid (fun w' (hb : Below w2.heap.size w2 w') => (KRow.arg rnC_size r2).keep hb); have B2 := Lib.hid (B1.out.trans (b2.mono B1.out.size)); clear b2; clear r2)
    | (go_at_call 16; go_must (refine (KL.out _ (HT.out _ B2.out)).mono ?_; rintro e3 w3 ⟨rfl, b3⟩; have R3 := Lib.hid (fun w' (hb : Below w3.heap.size w3 w') => (R2.out _ b3).keep hb); have B3 := Lib.hid (B2.out.trans (b3.mono B2.out.size)); clear b3))
    | (go_at_call 27; go_must (refine (KT.out _ (HT.out _ B3.out)).mono ?_; rintro e4 w4 ⟨v4, rfl, r4, b4⟩; have R4 := Lib.hid (KRow.arg rnC_size r4); have R5 := Lib.hid (R3.out _ b4); have B4 := Lib.hid (B3.out.trans (b4.mono B3.out.size)); clear b4; clear r4))
    | (go_at_call 29; go_must (refine (KJ.out _ _ _ R5.out R4.out).mono ?_; rintro e5 w5 ⟨v5, rfl, r5, b5⟩; have R6 := Lib.hid (fun w' (hb : Below w5.heap.size w5 w') => (KRow.arg rnC_size r5).keep hb); have B5 := Lib.hid (B4.out.trans (b5.mono B4.out.size)); clear b5; clear r5))
    | (go_at_call 18; go_must (refine (KC.out _ (HT.out _ B5.out)).mono ?_; rintro e6 w6 ⟨v6, rfl, r6, b6⟩; have R7 := Lib.hid (R6.out _ b6); have R8 := Lib.hid (KRow.arg rnC_size r6); have B6 := Lib.hid (B5.out.trans (b6.mono B5.out.size)); clear b6; clear r6))
    | (go_at_call 17; go_must (refine (same_any C _ _ _ R7.out R8.out hcl).mono ?_; rintro e7 w7 ⟨rfl, b7⟩; have B7 := Lib.hid (B6.out.trans (b7.mono B6.out.size)); clear b7))
    | (go_at_call 12; go_must (refine (awake_any _).mono ?_; rintro ez wz ⟨rfl, bz⟩; have BZ := Lib.hid (B7.out.trans (bz.mono B7.out.size)); clear bz)))
  go_returns
  exact ⟨rfl, BZ.out⟩

end Go.Proofs.Ytpingfcmgffboaa
