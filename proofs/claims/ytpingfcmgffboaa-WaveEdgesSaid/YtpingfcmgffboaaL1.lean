/-
  The walk of the statement WaveEdges.
-/
import Derived.Test.YtpingfcmgffboaaW10
import Derived.Deep.RegionHeld3
namespace Go.Proofs.Ytpingfcmgffboaa
open Go Go.RowKit Go.Joins
set_option linter.unusedVariables false
set_option linter.unusedSimpArgs false

set_option maxRecDepth 100000 in
set_option maxHeartbeats 8000000 in
theorem law_edges (l : List Rn) (v : Value) (w : World) (hT : RnArg w v l) : Calls Try.prog 3 #[v] w fun e w' => e = .returned (.bool true) ∧ Below w.heap.size w w' := by
  have HT := Lib.hid (fun w' (hb : Below w.heap.size w w') => hT.keep hb)
  have CV := Lib.hid (valid_any l v w hT)
  cases hv : vl l with
  | false =>
    rw [hv] at CV
    obtain ⟨A, c, rfl, hA⟩ := hT
    clear hv hA
    go_enter Try.func3, Try.ntmps3
    go_wp2_with (first
      | (go_at_call 11; go_must (refine CV.out.mono ?_; rintro e1 w1 ⟨rfl, b1⟩; have B1 := Lib.hid b1; clear b1))
      | (go_at_call 12; go_must (refine (awake_any _).mono ?_; rintro ez wz ⟨rfl, bz⟩)))
    go_returns
    exact ⟨rfl, B1.out.trans (bz.mono B1.out.size)⟩
  | true =>
  rw [hv] at CV
  by_cases h0 : l = []
  · subst h0
    obtain ⟨A, c, rfl, hA⟩ := hT
    clear hv hA
    simp only [List.length_nil] at *
    go_enter Try.func3, Try.ntmps3
    go_wp2_with (first
      | (go_at_call 11; go_must (refine CV.out.mono ?_; rintro e1 w1 ⟨rfl, b1⟩; have B1 := Lib.hid b1; clear b1))
      | (go_at_call 12; go_must (refine (awake_any _).mono ?_; rintro ez wz ⟨rfl, bz⟩)))
    go_returns
    exact ⟨rfl, B1.out.trans (bz.mono B1.out.size)⟩
  have hag := again hv h0
  have hlen : 0 < l.length := by
    rcases Nat.eq_zero_or_pos l.length with h | h
    · exact absurd (List.eq_nil_of_length_eq_zero h) h0
    · exact h
  have CA := fun w' h => at_any l v 0 w' h (by omega)
  have CE := fun w' h => edges_any l v w' h
  have CL := fun w' h => long_any l v w' h
  have CC := fun w' h => clean_any l v w' h
  have CF := fun q V n w' (h : InArg w' V q) => from_any (atV l 0).1 q V n w' h
  have hcl : (cl l).length ≤ 1099511627776 := Nat.le_trans (Nat.le_trans (cl_len l) ((vl_iff l).1 hv).1) (by omega)
  have hne : (l.length == 0) = false := by simp; omega
  obtain ⟨h1, h2⟩ := hag
  have CF2 := fun V w' (h : InArg w' V (es (cl l))) => CF (es (cl l)) V (lgV l) w' h
  rw [h2] at CF2
  generalize es (cl l) = E at *
  generalize cl l = C at *
  generalize lgV l = G at *
  generalize atV l 0 = p at *
  obtain ⟨a, b⟩ := p
  simp only at h1
  subst h1
  have KA := Lib.hid (show ∀ w', RnArg w' v l → Calls Try.prog 13 #[v, .int .i64 0] w' fun e w'' => e = .returned (.tuple #[.int .i64 a, .bool true]) ∧ Below w'.heap.size w' w'' from CA)
  have KF := Lib.hid (show ∀ V w', InArg w' V E → Calls Try.prog 14 #[.int .i64 a, V, .int .i64 G] w' fun e w'' => ∃ u : Value, e = .returned (.tuple #[u, .int .i64 0]) ∧ RnRow w'' w'.heap.size u C ∧ Below w'.heap.size w' w'' from CF2)
  have KE := Lib.hid CE; have KL := Lib.hid CL; have KC := Lib.hid CC
  obtain ⟨A, c, rfl, hA⟩ := hT
  have hne2 : ¬ l = [] := h0
  clear CA CF CF2 CE CL CC hA h2 hv
  go_enter Try.func3, Try.ntmps3
  go_wp2_with (first
    | (go_at_call 11; go_must (refine (CV.out).mono ?_; rintro e1 w1 ⟨rfl, b1⟩; have B1 := Lib.hid b1; clear b1))
    | (go_at_call 13; go_must (refine (KA.out _ (HT.out _ B1.out)).mono ?_; rintro e2 w2 ⟨rfl, b2⟩; have B2 := Lib.hid (B1.out.trans (b2.mono B1.out.size)); clear b2))
    | (go_at_call 15; go_must (refine (KE.out _ (HT.out _ B2.out)).mono ?_; rintro e3 w3 ⟨v3, rfl, r3, b3⟩; have R3 := Lib.hid (fun w' (hb : Below w3.heap.size w3 w') => (KRow.arg inC_size r3).keep hb); have B3 := Lib.hid (B2.out.trans (b3.mono B2.out.size)); clear b3; clear r3))
    | (go_at_call 16; go_must (refine (KL.out _ (HT.out _ B3.out)).mono ?_; rintro e4 w4 ⟨rfl, b4⟩; have R4 := Lib.hid (R3.out _ b4); have B4 := Lib.hid (B3.out.trans (b4.mono B3.out.size)); clear b4))
    | (go_at_call 14; go_must (refine (KF.out _ _ R4.out).mono ?_; rintro e5 w5 ⟨v5, rfl, r5, b5⟩; have R5 := Lib.hid (fun w' (hb : Below w5.heap.size w5 w') => (KRow.arg rnC_size r5).keep hb); have B5 := Lib.hid (B4.out.trans (b5.mono B4.out.size)); clear b5; clear r5))
    | (go_at_call 18; go_must (refine (KC.out _ (HT.out _ B5.out)).mono ?_; rintro e6 w6 ⟨v6, rfl, r6, b6⟩; have R6 := Lib.hid (R5.out _ b6); have R7 := Lib.hid (KRow.arg rnC_size r6); have B6 := Lib.hid (B5.out.trans (b6.mono B5.out.size)); clear b6; clear r6))
    | (go_at_call 17; go_must (refine (same_any C _ _ _ R6.out R7.out hcl).mono ?_; rintro e7 w7 ⟨rfl, b7⟩; have B7 := Lib.hid (B6.out.trans (b7.mono B6.out.size)); clear b7))
    | (go_at_call 12; go_must (refine (awake_any _).mono ?_; rintro ez wz ⟨rfl, bz⟩; have BZ := Lib.hid (B7.out.trans (bz.mono B7.out.size)); clear bz)))
  go_returns
  exact ⟨rfl, BZ.out⟩

end Go.Proofs.Ytpingfcmgffboaa
