/-
  The walk of the statement WaveKeeps.
-/
import Derived.Test.YtpingfcmgffboaaW10
import Derived.Deep.RegionHeld3
namespace Go.Proofs.Ytpingfcmgffboaa
open Go Go.RowKit Go.Joins
set_option linter.unusedVariables false
set_option linter.unusedSimpArgs false

/-- What the statement knows of the level at its tick. -/
theorem keeps_at (l : List Rn) (k : Int) : ∃ (a d : Int) (x : Bool), atV l k = (a, x) ∧ atV (cl l) k = (a, x) ∧ atV (ivV l) k = (d, x) ∧ -1 ≤ a ∧ a ≤ 1 ∧ -1 ≤ d ∧ d ≤ 1 ∧ ((x = true ∧ d + a = 1) ∨ x = false) := by
  have h1 := atV_one l k
  have h2 := ivV_at l k
  have h3 := cl_at l k
  rcases h1 with ⟨h, h4⟩ | h
  · rw [if_pos h] at h2
    obtain ⟨p, q⟩ : ∃ p, atV l k = p := ⟨_, rfl⟩
    obtain ⟨a, x⟩ := p
    rw [q] at h h4 h2 h3
    simp only at h h4
    subst h
    exact ⟨a, 1 - a, true, q, h3, h2, by omega, by omega, by omega, by omega, .inl ⟨rfl, by omega⟩⟩
  · rw [h, if_neg (by decide)] at h2
    exact ⟨-1, -1, false, h, by rw [h3, h], h2, by omega, by omega, by omega, by omega, .inr rfl⟩

set_option maxRecDepth 100000 in
set_option maxHeartbeats 8000000 in
theorem law_keeps (l : List Rn) (v : Value) (k : Int) (w : World) (hT : RnArg w v l) (hk : k ≤ 9223372036854775807) : Calls Try.prog 6 #[v, .int .i64 k] w fun e w' => e = .returned (.bool true) ∧ Below w.heap.size w w' := by
  have HT := Lib.hid (fun w' (hb : Below w.heap.size w w') => hT.keep hb)
  obtain ⟨a, d, x, e1, e2, e3, ha1, ha2, hd1, hd2, hx⟩ := keeps_at l k
  have CC := fun w' h => clean_any l v w' h
  have CA := fun w' h => at_any l v k w' h hk
  have CB := fun V w' h => at_any (cl l) V k w' h hk
  have CD := fun V w' h => at_any (ivV l) V k w' h hk
  have CL := fun w' h => long_any l v w' h
  have CM := fun V w' h => long_any (cl l) V w' h
  have CE := fun V w' h => clean_any (cl l) V w' h
  have CI := fun w' h => invert_any l v w' h
  have CJ := fun V w' h => invert_any (cl l) V w' h
  have CK := fun V w' h => invert_any (ivV (cl l)) V w' h
  rw [e1] at CA
  rw [e2] at CB
  rw [e3] at CD
  rw [cl_lg] at CM
  rw [cl_cl] at CE
  rw [ivV_twice (cl_vl l)] at CK
  have hcl : (cl l).length ≤ 1099511627776 := Nat.le_trans ((vl_iff _).1 (cl_vl l)).1 (by omega)
  have HAL := Lib.hid (cl_al l)
  generalize ivV (cl l) = IC at *
  generalize cl l = C at *
  generalize ivV l = I at *
  generalize lgV l = G at *
  have KA := Lib.hid (show ∀ w', RnArg w' v l → Calls Try.prog 13 #[v, .int .i64 k] w' fun e w'' => e = .returned (.tuple #[.int .i64 a, .bool x]) ∧ Below w'.heap.size w' w'' from CA)
  have KB := Lib.hid (show ∀ V w', RnArg w' V C → Calls Try.prog 13 #[V, .int .i64 k] w' fun e w'' => e = .returned (.tuple #[.int .i64 a, .bool x]) ∧ Below w'.heap.size w' w'' from CB)
  have KD := Lib.hid (show ∀ V w', RnArg w' V I → Calls Try.prog 13 #[V, .int .i64 k] w' fun e w'' => e = .returned (.tuple #[.int .i64 d, .bool x]) ∧ Below w'.heap.size w' w'' from CD)
  have KC := Lib.hid CC; have KL := Lib.hid CL; have KM := Lib.hid CM; have KE := Lib.hid CE; have KI := Lib.hid CI; have KJ := Lib.hid CJ; have KK := Lib.hid CK
  have KS := Lib.hid (fun V V' W h1 h2 => same_any C V V' W h1 h2 hcl)
  obtain ⟨A, c, rfl, hA⟩ := hT
  have hcl' : (C.length : Int) ≤ 1099511627776 := by omega
  clear CC CA CB CD CL CM CE CI CJ CK hA e1 e2 e3
  rcases hx with ⟨rfl, hda⟩ | rfl
  all_goals
    go_enter Try.func6, Try.ntmps6
    go_wp2_with (first
      | (go_at_call 18; first
          | ((with_reducible refine (KE.out _ _ (R1.out _ B6.out)).mono ?_); rintro e7 w7 ⟨v7, rfl, r7, b7⟩; have R7 := Lib.hid (KRow.arg rnC_size r7); have B7 := Lib.hid (B6.out.trans (b7.mono B6.out.size)); clear b7 r7)
          | (refine (KC.out _ (HT.out _ (Below.refl _ _))).mono ?_; rintro e1 w1 ⟨v1, rfl, r1, b1⟩; have hX0 := KRow.arg rnC_size r1; obtain ⟨X, cx, rfl, hX⟩ := hX0; have HX := Lib.hid hX; have R1 := Lib.hid (fun w' (hb : Below w1.heap.size w1 w') => (KRow.arg rnC_size r1).keep hb); have B1 := Lib.hid b1; clear b1 r1 hX))
      | (go_at_call 13; first
          | ((with_reducible refine (KA.out _ (HT.out _ B1.out)).mono ?_); rintro e2 w2 ⟨rfl, b2⟩; have B2 := Lib.hid b2; clear b2)
          | ((with_reducible refine (KB.out _ _ (R1.out _ B2.out)).mono ?_); rintro e3 w3 ⟨rfl, b3⟩; have B3 := Lib.hid (B2.out.trans (b3.mono B2.out.size)); clear b3))
      | (go_at_call 16; first
          | ((with_reducible refine (KL.out _ (HT.out _ (B1.out.trans (B5.out.mono B1.out.size)))).mono ?_); rintro e6 w6 ⟨rfl, b6⟩; have B6 := Lib.hid (B5.out.trans (b6.mono B5.out.size)); clear b6)
          | ((with_reducible refine (KM.out _ _ (R1.out _ B3.out)).mono ?_); rintro e5 w5 ⟨rfl, b5⟩; have B5 := Lib.hid (B3.out.trans (b5.mono B3.out.size)); clear b5))
      | (go_at_call 17; go_must (refine (KS.out _ _ _ R7.out (R1.out _ B7.out)).mono ?_; rintro e8 w8 ⟨rfl, b8⟩; have B8 := Lib.hid (B7.out.trans (b8.mono B7.out.size)); clear b8)))
    go_loopw [10] (fun i wr => ∃ (j m : Nat), 1 ≤ j ∧ (j ≤ C.length ∨ j = 1) ∧ i = .int .i64 j ∧ wr = w8.drewN m) (fun i _ => C.length - (intOf i).toNat)
    case atStart => exact ⟨1, 0, by omega, .inr rfl, rfl, rfl⟩
    case round =>
      obtain ⟨j, m, hj1, hj, rfl, rfl⟩ := hrel
      by_cases hjl : j < C.length
      · have HX8 := Lib.hid (R1.out w8 B8.out)
        have hX8 := HX8.out
        obtain ⟨X2, c2, e2, hx2⟩ := hX8
        simp only [Value.slice.injEq, true_and] at e2
        obtain ⟨rfl, rfl⟩ := e2
        obtain ⟨g, o, rfl, hg, hc⟩ := hx2 (by omega)
        obtain ⟨q, hq⟩ : ∃ q, j = q + 1 := ⟨j - 1, by omega⟩
        obtain ⟨a0, a1⟩ := arg_two hc j hjl
        obtain ⟨b0, b1⟩ := arg_two hc q (by omega)
        have hqC : q + 1 < C.length := by omega
        have hne := HAL.out q hqC
        have hne2 : (C[j].1 == C[q].1) = false := by
          subst hq
          simp
          exact fun h => hne h.symm
        have hi0 : (0 : Int) ≤ (j : Int) := by omega
        have hi1 : (j : Int) < C.length := by omega
        have hi2 : (0 : Int) ≤ (q : Int) := by omega
        have hi3 : (q : Int) < C.length := by omega
        have v1 : IntKind.i64.wrap ((j : Int) - 1) = q := by rw [IntWalk.i64_in _ (by omega)]; omega
        have HQ := Lib.hid hq
        clear hne hc a1 b1
        generalize C[j].1 = x0 at *
        generalize C[q].1 = x1 at *
        clear hqC hq
        go_wp2
        go_quiet (fail)
        go_wp2
        go_roundw
        case rel => exact ⟨j + 1, m + nq, by omega, .inl (by omega), by go_num, rfl⟩
        case measure => simp [intOf]; omega
      · have HX8 := Lib.hid (fun w' (hb : Below w8.heap.size w8 w') => R1.out w' (B8.out.trans (hb.mono B8.out.size)))
        have B9 := Lib.hid (show Below w1.heap.size w1 (w8.drewN m) from below_drewN B8.out m)
        go_wp2_with (first
          | (go_at_call 25; first
              | ((with_reducible refine (KI.out _ (HT.out _ (B1.out.trans (B9.out.mono B1.out.size)))).mono ?_); rintro e10 w10 ⟨v10, rfl, r10, b10⟩; have R10 := Lib.hid (KRow.arg rnC_size r10); have B10 := Lib.hid (B9.out.trans (b10.mono B9.out.size)); clear b10 r10)
              | ((with_reducible refine (KJ.out _ _ (R1.out _ B11.out)).mono ?_); rintro e12 w12 ⟨v12, rfl, r12, b12⟩; have R12 := Lib.hid (KRow.arg rnC_size r12); have B12 := Lib.hid (B11.out.trans (b12.mono B11.out.size)); clear b12 r12)
              | ((with_reducible refine (KK.out _ _ R12.out).mono ?_); rintro e13 w13 ⟨v13, rfl, r13, b13⟩; have R13 := Lib.hid (KRow.arg rnC_size r13); have B13 := Lib.hid (B12.out.trans (b13.mono B12.out.size)); clear b13 r13))
          | (go_at_call 13; go_must (refine (KD.out _ _ R10.out).mono ?_; rintro e11 w11 ⟨rfl, b11⟩; have B11 := Lib.hid (B10.out.trans (b11.mono B10.out.size)); clear b11))
          | (go_at_call 17; go_must (refine (KS.out _ _ _ R13.out (R1.out _ B13.out)).mono ?_; rintro e14 w14 ⟨rfl, b14⟩; have B14 := Lib.hid (B13.out.trans (b14.mono B13.out.size)); clear b14))
          | (go_at_call 12; go_must (refine (awake_any _).mono ?_; rintro ez wz ⟨rfl, bz⟩; have BZ := Lib.hid (B14.out.trans (bz.mono B14.out.size)); clear bz)))
        go_returns
        exact ⟨rfl, B1.out.trans (BZ.out.mono B1.out.size)⟩

end Go.Proofs.Ytpingfcmgffboaa
