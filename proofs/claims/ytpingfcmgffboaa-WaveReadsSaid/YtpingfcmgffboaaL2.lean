/-
  The walk of the statement WaveReads.
-/
import Derived.Test.YtpingfcmgffboaaW10
import Derived.Deep.RegionHeld3
namespace Go.Proofs.Ytpingfcmgffboaa
open Go Go.RowKit Go.Joins
set_option linter.unusedVariables false
set_option linter.unusedSimpArgs false

set_option maxRecDepth 100000 in
set_option maxHeartbeats 8000000 in
theorem law_reads (l : List Rn) (v : Value) (k : Int) (w : World) (hT : RnArg w v l) (hk : k ≤ 9223372036854775807) : Calls Try.prog 4 #[v, .int .i64 k] w fun e w' => e = .returned (.bool true) ∧ Below w.heap.size w w' := by
  have HT := Lib.hid (fun w' (hb : Below w.heap.size w w') => hT.keep hb)
  have CA := fun w' h => at_any l v k w' h hk
  have CB := fun w' h => refAt_any l v k w' h hk
  have CV := fun w' h => valid_any l v w' h
  have CW := fun w' h => refValid_any l v w' h
  have CL := fun w' h => long_any l v w' h
  have CM := fun w' h => refLong_any l v w' h
  have CE := fun w' h => edges_any l v w' h
  have CF := fun w' h => refEdges_any l v w' h
  have hel : (es (cl l)).length ≤ 1099511627776 := by
    have h1 := es_len (cl l)
    have h2 := ((vl_iff _).1 (cl_vl l)).1
    omega
  generalize es (cl l) = E at *
  generalize lgV l = G at *
  generalize vl l = vb at *
  generalize atV l k = p at *
  obtain ⟨a, b⟩ := p
  have KA := Lib.hid (show ∀ w', RnArg w' v l → Calls Try.prog 13 #[v, .int .i64 k] w' fun e w'' => e = .returned (.tuple #[.int .i64 a, .bool b]) ∧ Below w'.heap.size w' w'' from CA)
  have KB := Lib.hid (show ∀ w', RnArg w' v l → Calls Try.prog 19 #[v, .int .i64 k] w' fun e w'' => e = .returned (.tuple #[.int .i64 a, .bool b]) ∧ w' = w'' from CB)
  have KV := Lib.hid CV; have KW := Lib.hid CW; have KL := Lib.hid CL; have KM := Lib.hid CM; have KE := Lib.hid CE; have KF := Lib.hid CF
  obtain ⟨A, c, rfl, hA⟩ := hT
  clear CA CB CV CW CL CM CE CF hA
  go_enter Try.func4, Try.ntmps4
  go_wp2_with (first
    | (go_at_call 13; go_must (refine (KA.out _ (HT.out _ (Below.refl _ _))).mono ?_; rintro e1 w1 ⟨rfl, b1⟩; have B1 := Lib.hid b1; clear b1))
    | (go_at_call 19; go_must (refine (KB.out _ (HT.out _ B1.out)).mono ?_; rintro e2 w2 ⟨rfl, rfl⟩; skip))
    | (go_at_call 11; go_must (refine (KV.out _ (HT.out _ B1.out)).mono ?_; rintro e3 w3 ⟨rfl, b3⟩; have B3 := Lib.hid (B1.out.trans (b3.mono B1.out.size)); clear b3))
    | (go_at_call 20; go_must (refine (KW.out _ (HT.out _ B3.out)).mono ?_; rintro e4 w4 ⟨rfl, rfl⟩; skip))
    | (go_at_call 16; go_must (refine (KL.out _ (HT.out _ B3.out)).mono ?_; rintro e5 w5 ⟨rfl, b5⟩; have B5 := Lib.hid (B3.out.trans (b5.mono B3.out.size)); clear b5))
    | (go_at_call 21; go_must (refine (KM.out _ (HT.out _ B5.out)).mono ?_; rintro e6 w6 ⟨rfl, rfl⟩; skip))
    | (go_at_call 15; go_must (refine (KE.out _ (HT.out _ B5.out)).mono ?_; rintro e7 w7 ⟨v7, rfl, r7, b7⟩; have R7 := Lib.hid (fun w' (hb : Below w7.heap.size w7 w') => (KRow.arg inC_size r7).keep hb); have B7 := Lib.hid (B5.out.trans (b7.mono B5.out.size)); clear b7; clear r7))
    | (go_at_call 23; go_must (refine (KF.out _ (HT.out _ B7.out)).mono ?_; rintro e8 w8 ⟨v8, rfl, r8, b8⟩; have R8 := Lib.hid (R7.out _ b8); have R9 := Lib.hid (KRow.arg inC_size r8); have B8 := Lib.hid (B7.out.trans (b8.mono B7.out.size)); clear b8; clear r8))
    | (go_at_call 22; go_must (refine (ints_any E _ _ _ R8.out R9.out hel).mono ?_; rintro e9 w9 ⟨rfl, b9⟩; have B9 := Lib.hid (B8.out.trans (b9.mono B8.out.size)); clear b9))
    | (go_at_call 12; go_must (refine (awake_any _).mono ?_; rintro ez wz ⟨rfl, bz⟩; have BZ := Lib.hid (B9.out.trans (bz.mono B9.out.size)); clear bz)))
  go_returns
  exact ⟨rfl, BZ.out⟩

end Go.Proofs.Ytpingfcmgffboaa
