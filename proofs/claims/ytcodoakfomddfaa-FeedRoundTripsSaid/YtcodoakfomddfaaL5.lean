/-
  The walk of the statement FeedRoundTrips.
-/
import Derived.Test.YtcodoakfomddfaaT24
import Derived.Test.YtcodoakfomddfaaT12
import Derived.Test.YtcodoakfomddfaaR4
import Derived.Test.YtcodoakfomddfaaW27
import Derived.Test.YtcodoakfomddfaaL3
namespace Go.Proofs.Ytcodoakfomddfaa
open Go Go.RowKit Go.Joins
set_option linter.unusedVariables false
set_option linter.unusedSimpArgs false

set_option maxRecDepth 100000 in
set_option maxHeartbeats 16000000 in
theorem law_round (N : List ByteArray) (R : List Rn) (zs : List Int) (vN vR vA : Value) (w : World) (hN : NmArg w vN N) (hs : szs N) (hR : RnArg w vR R) (hA : TkArg w vA zs) (hn : R.length ≤ 8796093022208) (hm : N.length ≤ 8796093022208) :
    Calls Try.prog 7 #[.agg #[vN, vR], vA] w fun e w' => e = .returned (.bool true) ∧ Below w.heap.size w w' := by
  have HG := Lib.hid (fun w' (hb : Below w.heap.size w w') => good_any N R vN vR w' (hN.keep hb) hs (hR.keep hb) hn)
  have HR := Lib.hid (fun w' (hb : Below w.heap.size w w') => hR.keep hb)
  by_cases h1 : R.length ≤ 200
  case neg =>
    obtain ⟨A1, c1, rfl, _⟩ := hN.form
    obtain ⟨A2, c2, rfl⟩ := KArg.form hR
    obtain ⟨A3, c3, rfl⟩ := KArg.form hA
    have B0 := Lib.hid (ba w (.cells #[.slice A1 N.length c1, .slice A2 R.length c2] 25))
    have P0 := Lib.hid (RowAt.new w 25 #[.slice A1 N.length c1, .slice A2 R.length c2])
    have g0 := P0.out.cell 0
    have g1 := P0.out.cell 1
    have d1 : decide ((200 : Int) < (R.length : Int)) = true := decide_eq_true (by omega)
    clear hN hR hA h1 hn hm
    go_enter Try.func7, Try.ntmps7
    go_wp2_with (first
      | (go_at_call 12; go_must (refine (awake_any _).mono ?_; rintro ez wz ⟨rfl, bz⟩; have BZ := Lib.hid (B0.out.trans (bz.mono B0.out.size)); clear bz)))
    go_returns
    exact ⟨rfl, BZ.out⟩
  by_cases h2 : zs.length ≤ 200
  case neg =>
    obtain ⟨A1, c1, rfl, _⟩ := hN.form
    obtain ⟨A2, c2, rfl⟩ := KArg.form hR
    obtain ⟨A3, c3, rfl⟩ := KArg.form hA
    have B0 := Lib.hid (ba w (.cells #[.slice A1 N.length c1, .slice A2 R.length c2] 25))
    have P0 := Lib.hid (RowAt.new w 25 #[.slice A1 N.length c1, .slice A2 R.length c2])
    have g0 := P0.out.cell 0
    have g1 := P0.out.cell 1
    have d1 : decide ((200 : Int) < (R.length : Int)) = false := decide_eq_false (by omega)
    have d2 : decide ((200 : Int) < (zs.length : Int)) = true := decide_eq_true (by omega)
    clear hN hR hA h1 h2 hn hm
    go_enter Try.func7, Try.ntmps7
    go_wp2_with (first
      | (go_at_call 12; go_must (refine (awake_any _).mono ?_; rintro ez wz ⟨rfl, bz⟩; have BZ := Lib.hid (B0.out.trans (bz.mono B0.out.size)); clear bz)))
    go_returns
    exact ⟨rfl, BZ.out⟩
  by_cases hz : ckC N R = 0
  case neg =>
    rw [show decide (ckC N R = 0) = false from decide_eq_false hz] at HG
    obtain ⟨A1, c1, rfl, _⟩ := hN.form
    obtain ⟨A2, c2, rfl⟩ := KArg.form hR
    obtain ⟨A3, c3, rfl⟩ := KArg.form hA
    have B0 := Lib.hid (ba w (.cells #[.slice A1 N.length c1, .slice A2 R.length c2] 25))
    have P0 := Lib.hid (RowAt.new w 25 #[.slice A1 N.length c1, .slice A2 R.length c2])
    have g0 := P0.out.cell 0
    have g1 := P0.out.cell 1
    have d1 : decide ((200 : Int) < (R.length : Int)) = false := decide_eq_false (by omega)
    have d2 : decide ((200 : Int) < (zs.length : Int)) = false := decide_eq_false (by omega)
    clear hN hR hA h1 h2 hn hm hz
    go_enter Try.func7, Try.ntmps7
    go_wp2_with (first
      | (go_at_call 20; go_must (refine (HG.out _ B0.out).mono ?_; rintro e1 w1 ⟨rfl, b1⟩; have B1 := Lib.hid (B0.out.trans (b1.mono B0.out.size)); clear b1))
      | (go_at_call 12; go_must (refine (awake_any _).mono ?_; rintro ez wz ⟨rfl, bz⟩; have BZ := Lib.hid (B1.out.trans (bz.mono B1.out.size)); clear bz)))
    go_returns
    exact ⟨rfl, BZ.out⟩
  rw [show decide (ckC N R = 0) = true from decide_eq_true hz] at HG
  have hsl : (spl zs (evs 0 R)).length ≤ 40200 := by
    have e1 := spl_len zs (evs 0 R)
    rw [evs_len] at e1
    have e2 : R.length * (zs.length + 1) ≤ 200 * 201 := Nat.mul_le_mul h1 (by omega)
    omega
  obtain ⟨⟨q1, q2⟩, q3, q4, ⟨q5, q6, q7⟩, q8, q9, q10, q11⟩ := round_all zs hz (by omega)
  obtain ⟨q12, q13⟩ := leL_all hz
  have q14 := evs_len 0 R
  have q15 := mg_len' (evs 0 R)
  have q16 := jn_len R
  have q17 : (ruL (spl zs (evs 0 R))).length ≤ 40200 := by
    unfold ruL
    split
    · rw [List.length_map]; exact hsl
    · simp
  obtain ⟨z1, z2, z3, z4, z5, z6⟩ := ckC_ok hz
  have CL := Lib.hid (fun w' (hb : Below w.heap.size w w') => by have := levels_any N R N vN vR vN w' (hN.keep hb) hs (hR.keep hb) (hN.keep hb) hn hm; rw [q12, q13] at this; exact this)
  have CRL := Lib.hid (fun V W (h : EvArg W V (evs 0 R)) => by have := runs_any _ V W h (by omega); rw [q1, q2] at this; exact this)
  have CSp := Lib.hid (fun V W (hb : Below w.heap.size w W) (h : EvArg W V (evs 0 R)) => split_any (evs 0 R) zs V vA W h (hA.keep hb) (by omega) (by rw [q14]; have e2 : R.length * (zs.length + 1) ≤ 200 * 201 := Nat.mul_le_mul h1 (by omega); omega))
  have CMP := Lib.hid (fun V W (h : EvArg W V (spl zs (evs 0 R))) => by have := merge_any _ V W h (by omega); rw [q4] at this; exact this)
  have CML := Lib.hid (fun V W (h : EvArg W V (evs 0 R)) => merge_any _ V W h (by omega))
  have CRP := Lib.hid (fun V W (h : EvArg W V (spl zs (evs 0 R))) => by have := runs_any _ V W h (by omega); rw [q5] at this; exact this)
  have CRM := Lib.hid (fun V W (h : EvArg W V (mg (evs 0 R))) => by have := runs_any _ V W h (by omega); rw [q8, q9] at this; exact this)
  have CS7 := Lib.hid (fun V V' W h h' => same_any (mg (evs 0 R)) V V' W h h' (by omega))
  have CSR := Lib.hid (fun V V' W h h' => sameRn_any R V V' W h h' (by omega))
  have CSJ8 := Lib.hid (fun V V' W h h' => sameRn_any (jn R) V V' W h h' (by omega))
  have CSQ := Lib.hid (fun V W (hb : Below w.heap.size w W) (h : RnArg W V (ruL (spl zs (evs 0 R)))) => refSame_any true N (ruL (spl zs (evs 0 R))) N R vN V vN vR W (hN.keep hb) hs h (hN.keep hb) hs (hR.keep hb) (by omega) hn (by omega) (by omega) (fun _ => rfl) (fun h => absurd ⟨q6, hz, rfl, q7⟩ h))
  have CSJ := Lib.hid (fun V W (hb : Below w.heap.size w W) (h : RnArg W V (jn R)) => refSame_any true N (jn R) N R vN V vN vR W (hN.keep hb) hs h (hN.keep hb) hs (hR.keep hb) (by omega) hn (by omega) (by omega) (fun _ => rfl) (fun h => absurd ⟨q10, hz, rfl, q11⟩ h))
  have CC := Lib.hid (fun w' (hb : Below w.heap.size w w') => rclean_any (mk N.length) R vR w' (hR.keep hb) z1 z6)
  have dP : decide (((spl zs (evs 0 R)).length : Int) < ((evs 0 R).length : Int)) = false := decide_eq_false (by omega)
  have dPn : decide ((spl zs (evs 0 R)).length < (evs 0 R).length) = false := decide_eq_false (by omega)
  have d1 : decide ((200 : Int) < (R.length : Int)) = false := decide_eq_false (by omega)
  have d2 : decide ((200 : Int) < (zs.length : Int)) = false := decide_eq_false (by omega)
  obtain ⟨A1, c1, rfl, _⟩ := hN.form
  obtain ⟨A2, c2, rfl⟩ := KArg.form hR
  obtain ⟨A3, c3, rfl⟩ := KArg.form hA
  have B0 := Lib.hid (ba w (.cells #[.slice A1 N.length c1, .slice A2 R.length c2] 25))
  have P0 := Lib.hid (RowAt.new w 25 #[.slice A1 N.length c1, .slice A2 R.length c2])
  have g0 := P0.out.cell 0
  have g1 := P0.out.cell 1
  clear hN hR hA h1 h2 hn hm hz hs hsl q1 q2 q3 q4 q5 q6 q7 q8 q9 q10 q11 q12 q13 q14 q15 q16 q17 z1 z2 z3 z4 z5 z6
  generalize ruL (spl zs (evs 0 R)) = Q at *
  generalize spl zs (evs 0 R) = S at *
  generalize mg (evs 0 R) = M at *
  generalize evs 0 R = E at *
  generalize jn R = J at *
  go_enter Try.func7, Try.ntmps7
  go_wp2_with (first
      | (go_at_call 20; go_must ((with_reducible refine (HG.out _ B0.out).mono ?_); rintro e1 w1 ⟨rfl, b1⟩; have P1 := Lib.hid (P0.out.keep b1); clear g0 g1; have g0 := P1.out.cell 0; have g1 := P1.out.cell 1; have B1 := Lib.hid (B0.out.trans (b1.mono B0.out.size)); clear b1))
      | (go_at_call 9; go_must ((with_reducible refine (CL.out _ B1.out).mono ?_); rintro e2 w2 ⟨v2, rfl, r2, b2⟩; have q2 := r2.arg evC_size; obtain ⟨U2, C2, rfl⟩ := KArg.form q2; have L2 := Lib.hid q2; have P2 := Lib.hid (P1.out.keep b2); clear g0 g1; have g0 := P2.out.cell 0; have g1 := P2.out.cell 1; have B2 := Lib.hid (B1.out.trans (b2.mono B1.out.size)); clear b2 r2 q2))
      | (go_at_call 17; go_must (first
          | ((with_reducible refine (CRM.out _ _ K10.out).mono ?_); rintro e11 w11 ⟨v11, rfl, r11, b11⟩; have q11 := r11.arg rnC_size; obtain ⟨U11, C11, rfl⟩ := KArg.form q11; have Y11 := Lib.hid (Y10.out.keep b11); have Z11 := Lib.hid q11; have P11 := Lib.hid (P10.out.keep b11); clear g0 g1; have g0 := P11.out.cell 0; have g1 := P11.out.cell 1; have B11 := Lib.hid (B10.out.trans (b11.mono B10.out.size)); clear b11 r11 q11; have BX := Lib.hid ((ba w11 (.cells #[.slice A1 N.length c1, .slice U9 Q.length C9] 25)).alloc (ba w11 (.cells #[.slice A1 N.length c1, .slice U9 Q.length C9] 25)).size (.cells #[.slice A1 N.length c1, .slice U11 J.length C11] 25)); have Y11b := Lib.hid (Y11.out.keep BX.out); have Z11b := Lib.hid (Z11.out.keep BX.out); have P11b := Lib.hid (P11.out.keep BX.out); have PA11 := Lib.hid ((RowAt.new w11 25 #[.slice A1 N.length c1, .slice U9 Q.length C9]).alloc (.cells #[.slice A1 N.length c1, .slice U11 J.length C11] 25)); have PB11 : Hid (RowAt ((w11.alloc (.cells #[.slice A1 N.length c1, .slice U9 Q.length C9] 25)).alloc (.cells #[.slice A1 N.length c1, .slice U11 J.length C11] 25)) (w11.heap.size + 1) 25 #[.slice A1 N.length c1, .slice U11 J.length C11]) := Lib.hid (RowAt.at (World.size_alloc _ _).symm); have g0b := P11b.out.cell 0; have g1b := P11b.out.cell 1; have gg0 := (P11.out.alloc (.cells #[.slice A1 N.length c1, .slice U9 Q.length C9] 25)).cell 0; have gg1 := (P11.out.alloc (.cells #[.slice A1 N.length c1, .slice U9 Q.length C9] 25)).cell 1; have B11b := Lib.hid (B11.out.trans (BX.out.mono B11.out.size)); have x0 := PA11.out.cell 0; have x1 := PA11.out.cell 1; have y0 := PB11.out.cell 0; have y1 := PB11.out.cell 1)
          | ((with_reducible refine (CRP.out _ _ Q8.out).mono ?_); rintro e9 w9 ⟨v9, rfl, r9, b9⟩; have q9 := r9.arg rnC_size; obtain ⟨U9, C9, rfl⟩ := KArg.form q9; have Q9 := Lib.hid (Q8.out.keep b9); have Y9 := Lib.hid q9; have P9 := Lib.hid (P8.out.keep b9); clear g0 g1; have g0 := P9.out.cell 0; have g1 := P9.out.cell 1; have B9 := Lib.hid (B8.out.trans (b9.mono B8.out.size)); clear b9 r9 q9)
          | ((with_reducible refine (CRL.out _ _ L2.out).mono ?_); rintro e3 w3 ⟨v3, rfl, r3, b3⟩; have q3 := r3.arg rnC_size; obtain ⟨U3, C3, rfl⟩ := KArg.form q3; have L3 := Lib.hid (L2.out.keep b3); have X3 := Lib.hid q3; have P3 := Lib.hid (P2.out.keep b3); clear g0 g1; have g0 := P3.out.cell 0; have g1 := P3.out.cell 1; have B3 := Lib.hid (B2.out.trans (b3.mono B2.out.size)); clear b3 r3 q3)
          | fail))
      | (go_at_call 19; go_must (first
          | ((with_reducible refine (CSJ8.out _ _ _ Z14.out T14.out).mono ?_); rintro e15 w15 ⟨rfl, b15⟩; have PA15 := Lib.hid (PA14.out.keep b15); have PB15 := Lib.hid (PB14.out.keep b15); have P15 := Lib.hid (P14.out.keep b15); clear g0 g1; have g0 := P15.out.cell 0; have g1 := P15.out.cell 1; have B15 := Lib.hid (B14.out.trans (b15.mono B14.out.size)); clear b15; clear x0 x1 y0 y1; have x0 := PA15.out.cell 0; have x1 := PA15.out.cell 1; have y0 := PB15.out.cell 0; have y1 := PB15.out.cell 1)
          | ((with_reducible refine (CSR.out _ _ _ X3.out (HR.out _ B3.out)).mono ?_); rintro e4 w4 ⟨rfl, b4⟩; have L4 := Lib.hid (L3.out.keep b4); have P4 := Lib.hid (P3.out.keep b4); clear g0 g1; have g0 := P4.out.cell 0; have g1 := P4.out.cell 1; have B4 := Lib.hid (B3.out.trans (b4.mono B3.out.size)); clear b4)
          | fail))
      | (go_at_call 15; go_must ((with_reducible refine (CSp.out _ _ B4.out L4.out).mono ?_); rintro e5 w5 ⟨v5, rfl, r5, b5⟩; have q5 := r5.arg evC_size; obtain ⟨U5, C5, rfl⟩ := KArg.form q5; have L5 := Lib.hid (L4.out.keep b5); have Q5 := Lib.hid q5; have P5 := Lib.hid (P4.out.keep b5); clear g0 g1; have g0 := P5.out.cell 0; have g1 := P5.out.cell 1; have B5 := Lib.hid (B4.out.trans (b5.mono B4.out.size)); clear b5 r5 q5))
      | (go_at_call 13; go_must (first
          | ((with_reducible refine (CMP.out _ _ Q9.out).mono ?_); rintro e10 w10 ⟨v10, rfl, r10, b10⟩; have q10 := r10.arg evC_size; obtain ⟨U10, C10, rfl⟩ := KArg.form q10; have Y10 := Lib.hid (Y9.out.keep b10); have K10 := Lib.hid q10; have P10 := Lib.hid (P9.out.keep b10); clear g0 g1; have g0 := P10.out.cell 0; have g1 := P10.out.cell 1; have B10 := Lib.hid (B9.out.trans (b10.mono B9.out.size)); clear b10 r10 q10)
          | ((with_reducible refine (CML.out _ _ L6.out).mono ?_); rintro e7 w7 ⟨v7, rfl, r7, b7⟩; have q7 := r7.arg evC_size; obtain ⟨U7, C7, rfl⟩ := KArg.form q7; have Q7 := Lib.hid (Q6.out.keep b7); have M7 := Lib.hid (M6.out.keep b7); have O7 := Lib.hid q7; have P7 := Lib.hid (P6.out.keep b7); clear g0 g1; have g0 := P7.out.cell 0; have g1 := P7.out.cell 1; have B7 := Lib.hid (B6.out.trans (b7.mono B6.out.size)); clear b7 r7 q7)
          | ((with_reducible refine (CMP.out _ _ Q5.out).mono ?_); rintro e6 w6 ⟨v6, rfl, r6, b6⟩; have q6 := r6.arg evC_size; obtain ⟨U6, C6, rfl⟩ := KArg.form q6; have L6 := Lib.hid (L5.out.keep b6); have Q6 := Lib.hid (Q5.out.keep b6); have M6 := Lib.hid q6; have P6 := Lib.hid (P5.out.keep b6); clear g0 g1; have g0 := P6.out.cell 0; have g1 := P6.out.cell 1; have B6 := Lib.hid (B5.out.trans (b6.mono B5.out.size)); clear b6 r6 q6)
          | fail))
      | (go_at_call 11; go_must ((with_reducible refine (CS7.out _ _ _ M7.out O7.out).mono ?_); rintro e8 w8 ⟨rfl, b8⟩; have Q8 := Lib.hid (Q7.out.keep b8); have P8 := Lib.hid (P7.out.keep b8); clear g0 g1; have g0 := P8.out.cell 0; have g1 := P8.out.cell 1; have B8 := Lib.hid (B7.out.trans (b8.mono B7.out.size)); clear b8))
      | (go_at_call 21; go_must (first
          | ((with_reducible refine (CSJ.out _ _ B12.out Z12.out).mono ?_); rintro e13 w13 ⟨rfl, b13⟩; have PA13 := Lib.hid (PA12.out.keep b13); have PB13 := Lib.hid (PB12.out.keep b13); have Z13 := Lib.hid (Z12.out.keep b13); have P13 := Lib.hid (P12.out.keep b13); clear g0 g1; have g0 := P13.out.cell 0; have g1 := P13.out.cell 1; have B13 := Lib.hid (B12.out.trans (b13.mono B12.out.size)); clear b13; clear x0 x1 y0 y1; have x0 := PA13.out.cell 0; have x1 := PA13.out.cell 1; have y0 := PB13.out.cell 0; have y1 := PB13.out.cell 1)
          | ((with_reducible refine (CSQ.out _ _ B11b.out Y11b.out).mono ?_); rintro e12 w12 ⟨rfl, b12⟩; have PA12 := Lib.hid (PA11.out.keep b12); have PB12 := Lib.hid (PB11.out.keep b12); clear g0b g1b gg0 gg1; have Z12 := Lib.hid (Z11b.out.keep b12); have P12 := Lib.hid (P11b.out.keep b12); clear g0 g1; have g0 := P12.out.cell 0; have g1 := P12.out.cell 1; have B12 := Lib.hid (B11b.out.trans (b12.mono B11b.out.size)); clear b12; clear x0 x1 y0 y1; have x0 := PA12.out.cell 0; have x1 := PA12.out.cell 1; have y0 := PB12.out.cell 0; have y1 := PB12.out.cell 1)
          | fail))
      | (go_at_call 22; go_must ((with_reducible refine (CC.out _ B13.out).mono ?_); rintro e14 w14 ⟨v14, rfl, r14, b14⟩; have PA14 := Lib.hid (PA13.out.keep b14); have PB14 := Lib.hid (PB13.out.keep b14); have q14 := r14.arg rnC_size; obtain ⟨U14, C14, rfl⟩ := KArg.form q14; have Z14 := Lib.hid (Z13.out.keep b14); have T14 := Lib.hid q14; have P14 := Lib.hid (P13.out.keep b14); clear g0 g1; have g0 := P14.out.cell 0; have g1 := P14.out.cell 1; have B14 := Lib.hid (B13.out.trans (b14.mono B13.out.size)); clear b14 r14 q14; clear x0 x1 y0 y1; have x0 := PA14.out.cell 0; have x1 := PA14.out.cell 1; have y0 := PB14.out.cell 0; have y1 := PB14.out.cell 1))
      | (go_at_call 12; go_must (refine (awake_any _).mono ?_; rintro ez wz ⟨rfl, bz⟩; have BZ := Lib.hid (B15.out.trans (bz.mono B15.out.size)); clear bz)))
  go_returns
  exact ⟨rfl, BZ.out⟩

end Go.Proofs.Ytcodoakfomddfaa
