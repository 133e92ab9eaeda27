/-
  The walk of the statement GlitchFilters.
-/
import Derived.Test.YtemmljngglnccaaT6
namespace Go.Proofs.Ytemmljngglnccaa
open Go Go.RowKit Go.Joins
set_option linter.unusedVariables false
set_option linter.unusedSimpArgs false

set_option maxRecDepth 100000 in
set_option maxHeartbeats 8000000 in
theorem law_filters (l : List Rn) (v : Value) (k : Int) (w : World) (hT : RnArg w v l) : Calls Try.prog 7 #[v, .int .i64 k] w fun e w' => e = .returned (.bool true) ∧ Below w.heap.size w w' := by
  have HV := Lib.hid (refValid_any l v w hT)
  by_cases h40 : 40 < l.length
  · obtain ⟨A, c, rfl⟩ := hT.form
    clear hT
    have d0 : (40 : Int) < (l.length : Int) := by omega
    clear h40
    go_enter Try.func7, Try.ntmps7
    go_wp2_with (first
      | (go_at_call 22; go_must (refine HV.out.mono ?_; rintro e0 w0 ⟨rfl, rfl⟩))
      | (go_at_call 11; go_must (refine (awake_any _).mono ?_; rintro ez wz ⟨rfl, bz⟩; have BZ := Lib.hid bz; clear bz)))
    go_returns
    exact ⟨rfl, BZ.out⟩
  have d0 : ¬ (40 : Int) < (l.length : Int) := by omega
  cases hv : vl l with
  | false =>
    rw [hv] at HV
    obtain ⟨A, c, rfl⟩ := hT.form
    clear hT hv h40
    go_enter Try.func7, Try.ntmps7
    go_wp2_with (first
      | (go_at_call 22; go_must (refine HV.out.mono ?_; rintro e0 w0 ⟨rfl, rfl⟩))
      | (go_at_call 11; go_must (refine (awake_any _).mono ?_; rintro ez wz ⟨rfl, bz⟩; have BZ := Lib.hid bz; clear bz)))
    go_returns
    exact ⟨rfl, BZ.out⟩
  | true =>
    rw [hv] at HV
    obtain ⟨g1, g2, g3, g4, g5⟩ := flP_good k hv
    have KF := Lib.hid (filterG_any l k v w hT)
    have KL := Lib.hid (fun w' (hb : Below w.heap.size w w') => long_any l v w' (hT.keep hb))
    rw [lgV_yes hv, ← g3, ← lgV_yes g1] at KL
    generalize flP k (cl l) = M at *
    have ecl : cl M = M := by rw [cl_yes g1, jn_id g2]
    have KC := Lib.hid (fun V W (h : RnArg W V M) => show Calls Try.prog 12 #[V, .int .i64 k] W fun e w' => e = .returned (.int .i64 0) ∧ Below W.heap.size W w' by have := countG_any M k V W h; rw [ecl, g4] at this; exact this)
    have KV := Lib.hid (fun V W (h : RnArg W V M) => by have := valid_any M V W h; rw [g1] at this; exact this)
    have KE := Lib.hid (fun V W (h : RnArg W V M) => by have := clean_any M V W h; rw [ecl] at this; exact this)
    have KM := Lib.hid (fun V W (h : RnArg W V M) => long_any M V W h)
    have KG := Lib.hid (fun V W (h : RnArg W V M) => by have := filterG_any M k V W h; rw [ecl, flP_id k M g4] at this; exact this)
    have KS := Lib.hid (fun V V' W h1 h2 => same_any M V V' W h1 h2 (by omega))
    obtain ⟨A, c, rfl⟩ := hT.form
    clear hT hv h40 g1 g2 g3 g4 g5 ecl
    generalize lgV M = G at *
    go_enter Try.func7, Try.ntmps7
    go_wp2_with (first
      | (go_at_call 22; go_must (refine HV.out.mono ?_; rintro e0 w0 ⟨rfl, rfl⟩))
      | (go_at_call 15; first
          | ((with_reducible refine KF.out.mono ?_); rintro e1 w1 ⟨v1, rfl, r1, b1⟩; have R1 := Lib.hid (fun w' (hb : Below w1.heap.size w1 w') => (KRow.arg rnC_size r1).keep hb); have B1 := Lib.hid b1; clear b1 r1)
          | ((with_reducible refine (KG.out _ _ (R1.out _ B7.out)).mono ?_); rintro e8 w8 ⟨v8, rfl, r8, b8⟩; have R8 := Lib.hid (KRow.arg rnC_size r8); have B8 := Lib.hid (B7.out.trans (b8.mono B7.out.size)); clear b8 r8))
      | (go_at_call 12; go_must (refine (KC.out _ _ (R1.out _ (Below.refl _ _))).mono ?_; rintro e2 w2 ⟨rfl, b2⟩; have B2 := Lib.hid b2; clear b2))
      | (go_at_call 23; go_must (refine (KV.out _ _ (R1.out _ B2.out)).mono ?_; rintro e3 w3 ⟨rfl, b3⟩; have B3 := Lib.hid (B2.out.trans (b3.mono B2.out.size)); clear b3))
      | (go_at_call 24; go_must (refine (KE.out _ _ (R1.out _ B3.out)).mono ?_; rintro e4 w4 ⟨v4, rfl, r4, b4⟩; have R4 := Lib.hid (KRow.arg rnC_size r4); have B4 := Lib.hid (B3.out.trans (b4.mono B3.out.size)); clear b4 r4))
      | (go_at_call 14; first
          | ((with_reducible refine (KS.out _ _ _ R8.out (R1.out _ B8.out)).mono ?_); rintro e9 w9 ⟨rfl, b9⟩; have B9 := Lib.hid (B8.out.trans (b9.mono B8.out.size)); clear b9)
          | ((with_reducible refine (KS.out _ _ _ R4.out (R1.out _ B4.out)).mono ?_); rintro e5 w5 ⟨rfl, b5⟩; have B5 := Lib.hid (B4.out.trans (b5.mono B4.out.size)); clear b5))
      | (go_at_call 25; first
          | ((with_reducible refine (KL.out _ (B1.out.trans (B6.out.mono B1.out.size))).mono ?_); rintro e7 w7 ⟨rfl, b7⟩; have B7 := Lib.hid (B6.out.trans (b7.mono B6.out.size)); clear b7)
          | ((with_reducible refine (KM.out _ _ (R1.out _ B5.out)).mono ?_); rintro e6 w6 ⟨rfl, b6⟩; have B6 := Lib.hid (B5.out.trans (b6.mono B5.out.size)); clear b6))
      | (go_at_call 11; go_must (refine (awake_any _).mono ?_; rintro ez wz ⟨rfl, bz⟩; have BZ := Lib.hid (B9.out.trans (bz.mono B9.out.size)); clear bz)))
    go_returns
    exact ⟨rfl, B1.out.trans (BZ.out.mono B1.out.size)⟩
end Go.Proofs.Ytemmljngglnccaa
