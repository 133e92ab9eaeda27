/-
  The walk of the statement CaptureParts.
-/
import Derived.Test.YtmfceiioigmnlaaL1
import Derived.Test.YtmfceiioigmnlaaW20
namespace Go.Proofs.Ytmfceiioigmnlaa
open Go Go.RowKit Go.Joins
set_option linter.unusedVariables false
set_option linter.unusedSimpArgs false

theorem Pt_facts {N : List ByteArray} {R : List Rn} {f t k : Int} (h : ckC N R = 0) (hf : 0 ≤ f) (ht : f < t) (hl : t ≤ lg R) (hk : 0 ≤ k) (hkt : k < t - f) :
    slE N R f t = 0 ∧ slN N R f t = N ∧ slR N R f t = prt R f t ∧ ckC N (prt R f t) = 0 ∧ atC N (prt R f t) k = atC N R (f + k) ∧ (atC N R (f + k)).2 = true ∧ lgC N (prt R f t) = t - f := by
  obtain ⟨h1, h2, h3, h4, h5, h6⟩ := ckC_ok h
  have e := slE_0 (f := f) (t := t) h (by omega)
  have hps := ((vr_iff _ R 0 (by omega)).1 h6).2.1
  have hc : ckC N (prt R f t) = 0 := ckC_0 (by have := prt_len R f t; omega) h2 (prt_vr h6 hf)
  refine ⟨e, (slN_0 e).1, (slN_0 e).2, hc, ?_, ?_, ?_⟩
  · rw [atC_yes hc hk, atC_yes h (by omega), prt_at hps hf hk hkt]
  · rw [atC_yes h (by omega)]
    exact (atv_in (by omega) hps (by omega)).1
  · rw [lgC_yes hc, prt_lg hps hf ht hl]

set_option maxRecDepth 100000 in
set_option maxHeartbeats 16000000 in
theorem law_parts (N : List ByteArray) (R : List Rn) (vN vR : Value) (f t k : Int) (w : World) (hN : NmArg w vN N) (hs : szs N) (hR : RnArg w vR R) (hf : -9223372036854775808 ≤ f ∧ f ≤ 9223372036854775807) (ht : -9223372036854775808 ≤ t ∧ t ≤ 9223372036854775807) (hk : -9223372036854775808 ≤ k ∧ k ≤ 9223372036854775807) :
    Calls Try.prog 9 #[.agg #[vN, vR], .int .i64 f, .int .i64 t, .int .i64 k] w fun e w' => e = .returned (.bool true) ∧ Below w.heap.size w w' := by
  have HL := Lib.hid lives_any
  have HF := Lib.hid (fun w' (hb : Below w.heap.size w w') => few_any N R vN vR w' (hN.keep hb) (hR.keep hb))
  have HRn := Lib.hid (fun (h : fewB N R = true) => (fewB_len h).2)
  have CC := Lib.hid (fun (hn : R.length ≤ 1099511627776) w' (hb : Below w.heap.size w w') => check_any N R vN vR w' (hN.keep hb) hs (hR.keep hb) hn)
  have CG := Lib.hid (fun (hn : R.length ≤ 1099511627776) w' (hb : Below w.heap.size w w') => longC_any N R vN vR w' (hN.keep hb) hs (hR.keep hb) hn)
  have CS := Lib.hid (fun (hn : R.length ≤ 1099511627776) w' (hb : Below w.heap.size w w') => slice_any N R vN vR f t w' (hN.keep hb) hs (hR.keep hb) hn)
  have CA := Lib.hid (fun (hn : R.length ≤ 1099511627776) q w' (hb : Below w.heap.size w w') hq => at_any N R vN vR q w' (hN.keep hb) hs (hR.keep hb) hn hq)
  have HS := Lib.hid hs
  obtain ⟨A1, c1, rfl, q1⟩ := hN.form
  obtain ⟨A2, c2, rfl, q2⟩ := hR
  have B0 := Lib.hid (ba w (.cells #[.slice A1 N.length c1, .slice A2 R.length c2] 25))
  have P0 := Lib.hid (RowAt.new w 25 #[.slice A1 N.length c1, .slice A2 R.length c2])
  clear hN q1 q2 hs
  cases hfw : fewB N R with
  | false =>
    rw [hfw] at HF
    clear CC CG CS CA HS HRn hfw
    generalize N.length = n at *
    generalize R.length = r at *
    go_enter Try.func9, Try.ntmps9
    go_wp2_with (first
      | (go_at_call 10; go_must (refine (HL.out _).mono ?_; rintro e1 w1 ⟨rfl, b1⟩; have B1 := Lib.hid (B0.out.trans (b1.mono B0.out.size)); have P1 := Lib.hid (P0.out.keep b1); have g0 := P1.out.cell 0; have g1 := P1.out.cell 1; clear b1))
      | (go_at_call 11; go_must (refine (HF.out _ B1.out).mono ?_; rintro e2 w2 ⟨rfl, b2⟩; have B2 := Lib.hid (B1.out.trans (b2.mono B1.out.size)); have P2 := Lib.hid (P1.out.keep b2); have g0 := P2.out.cell 0; have g1 := P2.out.cell 1; clear b2))
      | fail)
    go_returns
    exact ⟨rfl, B2.out⟩
  | true =>
  rw [hfw] at HF
  have hr2 := HRn.out hfw
  have CD := Lib.hid (CC.out (by omega))
  have CH := Lib.hid (CG.out (by omega))
  clear CC CG HRn
  by_cases hz : ckC N R = 0
  case neg =>
    have hz' : (ckC N R == 0) = false := by simpa using hz
    clear CS CA HS hfw hr2 CH
    generalize ckC N R = c at *
    generalize N.length = n at *
    generalize R.length = r at *
    go_enter Try.func9, Try.ntmps9
    go_wp2_with (first
      | (go_at_call 10; go_must (refine (HL.out _).mono ?_; rintro e1 w1 ⟨rfl, b1⟩; have B1 := Lib.hid (B0.out.trans (b1.mono B0.out.size)); have P1 := Lib.hid (P0.out.keep b1); have g0 := P1.out.cell 0; have g1 := P1.out.cell 1; clear b1))
      | (go_at_call 11; go_must (refine (HF.out _ B1.out).mono ?_; rintro e2 w2 ⟨rfl, b2⟩; have B2 := Lib.hid (B1.out.trans (b2.mono B1.out.size)); have P2 := Lib.hid (P1.out.keep b2); have g0 := P2.out.cell 0; have g1 := P2.out.cell 1; clear b2))
      | (go_at_call 14; go_must (refine (CD.out _ B2.out).mono ?_; rintro e3 w3 ⟨rfl, b3⟩; have B3 := Lib.hid (B2.out.trans (b3.mono B2.out.size)); have P3 := Lib.hid (P2.out.keep b3); have g0 := P3.out.cell 0; have g1 := P3.out.cell 1; clear b3))
      | fail)
    go_returns
    exact ⟨rfl, B3.out⟩
  by_cases h1 : f < 0
  case pos =>
    rw [hz] at CD
    clear CS CA HS hfw hr2 CH hz
    generalize N.length = n at *
    generalize R.length = r at *
    go_enter Try.func9, Try.ntmps9
    go_wp2_with (first
      | (go_at_call 10; go_must (refine (HL.out _).mono ?_; rintro e1 w1 ⟨rfl, b1⟩; have B1 := Lib.hid (B0.out.trans (b1.mono B0.out.size)); have P1 := Lib.hid (P0.out.keep b1); have g0 := P1.out.cell 0; have g1 := P1.out.cell 1; clear b1))
      | (go_at_call 11; go_must (refine (HF.out _ B1.out).mono ?_; rintro e2 w2 ⟨rfl, b2⟩; have B2 := Lib.hid (B1.out.trans (b2.mono B1.out.size)); have P2 := Lib.hid (P1.out.keep b2); have g0 := P2.out.cell 0; have g1 := P2.out.cell 1; clear b2))
      | (go_at_call 14; go_must (refine (CD.out _ B2.out).mono ?_; rintro e3 w3 ⟨rfl, b3⟩; have B3 := Lib.hid (B2.out.trans (b3.mono B2.out.size)); have P3 := Lib.hid (P2.out.keep b3); have g0 := P3.out.cell 0; have g1 := P3.out.cell 1; clear b3))
      | fail)
    go_returns
    exact ⟨rfl, B3.out⟩
  by_cases h2 : f ≥ t
  case pos =>
    rw [hz] at CD
    clear CS CA HS hfw hr2 CH hz
    generalize N.length = n at *
    generalize R.length = r at *
    go_enter Try.func9, Try.ntmps9
    go_wp2_with (first
      | (go_at_call 10; go_must (refine (HL.out _).mono ?_; rintro e1 w1 ⟨rfl, b1⟩; have B1 := Lib.hid (B0.out.trans (b1.mono B0.out.size)); have P1 := Lib.hid (P0.out.keep b1); have g0 := P1.out.cell 0; have g1 := P1.out.cell 1; clear b1))
      | (go_at_call 11; go_must (refine (HF.out _ B1.out).mono ?_; rintro e2 w2 ⟨rfl, b2⟩; have B2 := Lib.hid (B1.out.trans (b2.mono B1.out.size)); have P2 := Lib.hid (P1.out.keep b2); have g0 := P2.out.cell 0; have g1 := P2.out.cell 1; clear b2))
      | (go_at_call 14; go_must (refine (CD.out _ B2.out).mono ?_; rintro e3 w3 ⟨rfl, b3⟩; have B3 := Lib.hid (B2.out.trans (b3.mono B2.out.size)); have P3 := Lib.hid (P2.out.keep b3); have g0 := P3.out.cell 0; have g1 := P3.out.cell 1; clear b3))
      | fail)
    go_returns
    exact ⟨rfl, B3.out⟩
  have hlg := lgC_yes hz
  by_cases h3 : t > lg R
  case pos =>
    rw [hz] at CD
    rw [hlg] at CH
    clear CS CA HS hfw hr2 hz hlg
    generalize lg R = l at *
    generalize N.length = n at *
    generalize R.length = r at *
    go_enter Try.func9, Try.ntmps9
    go_wp2_with (first
      | (go_at_call 10; go_must (refine (HL.out _).mono ?_; rintro e1 w1 ⟨rfl, b1⟩; have B1 := Lib.hid (B0.out.trans (b1.mono B0.out.size)); have P1 := Lib.hid (P0.out.keep b1); have g0 := P1.out.cell 0; have g1 := P1.out.cell 1; clear b1))
      | (go_at_call 11; go_must (refine (HF.out _ B1.out).mono ?_; rintro e2 w2 ⟨rfl, b2⟩; have B2 := Lib.hid (B1.out.trans (b2.mono B1.out.size)); have P2 := Lib.hid (P1.out.keep b2); have g0 := P2.out.cell 0; have g1 := P2.out.cell 1; clear b2))
      | (go_at_call 14; go_must (refine (CD.out _ B2.out).mono ?_; rintro e3 w3 ⟨rfl, b3⟩; have B3 := Lib.hid (B2.out.trans (b3.mono B2.out.size)); have P3 := Lib.hid (P2.out.keep b3); have g0 := P3.out.cell 0; have g1 := P3.out.cell 1; clear b3))
      | (go_at_call 16; go_must (refine (CH.out _ B3.out).mono ?_; rintro e4 w4 ⟨rfl, b4⟩; have B4 := Lib.hid (B3.out.trans (b4.mono B3.out.size)); have P4 := Lib.hid (P3.out.keep b4); have g0 := P4.out.cell 0; have g1 := P4.out.cell 1; clear b4))
      | fail)
    go_returns
    exact ⟨rfl, B4.out⟩
  by_cases h4 : k < 0
  case pos =>
    rw [hz] at CD
    rw [hlg] at CH
    clear CS CA HS hfw hr2 hz hlg
    generalize lg R = l at *
    generalize N.length = n at *
    generalize R.length = r at *
    go_enter Try.func9, Try.ntmps9
    go_wp2_with (first
      | (go_at_call 10; go_must (refine (HL.out _).mono ?_; rintro e1 w1 ⟨rfl, b1⟩; have B1 := Lib.hid (B0.out.trans (b1.mono B0.out.size)); have P1 := Lib.hid (P0.out.keep b1); have g0 := P1.out.cell 0; have g1 := P1.out.cell 1; clear b1))
      | (go_at_call 11; go_must (refine (HF.out _ B1.out).mono ?_; rintro e2 w2 ⟨rfl, b2⟩; have B2 := Lib.hid (B1.out.trans (b2.mono B1.out.size)); have P2 := Lib.hid (P1.out.keep b2); have g0 := P2.out.cell 0; have g1 := P2.out.cell 1; clear b2))
      | (go_at_call 14; go_must (refine (CD.out _ B2.out).mono ?_; rintro e3 w3 ⟨rfl, b3⟩; have B3 := Lib.hid (B2.out.trans (b3.mono B2.out.size)); have P3 := Lib.hid (P2.out.keep b3); have g0 := P3.out.cell 0; have g1 := P3.out.cell 1; clear b3))
      | (go_at_call 16; go_must (refine (CH.out _ B3.out).mono ?_; rintro e4 w4 ⟨rfl, b4⟩; have B4 := Lib.hid (B3.out.trans (b4.mono B3.out.size)); have P4 := Lib.hid (P3.out.keep b4); have g0 := P4.out.cell 0; have g1 := P4.out.cell 1; clear b4))
      | fail)
    go_returns
    exact ⟨rfl, B4.out⟩
  have hl0 : lg R ≤ 1099511627776 := by have := ((vr_iff _ R 0 (by omega)).1 (ckC_ok hz).2.2.2.2.2).2.2; omega
  by_cases h5 : k ≥ t - f
  case pos =>
    rw [hz] at CD
    rw [hlg] at CH
    clear CS CA HS hfw hr2 hz hlg
    generalize lg R = l at *
    generalize N.length = n at *
    generalize R.length = r at *
    go_enter Try.func9, Try.ntmps9
    go_wp2_with (first
      | (go_at_call 10; go_must (refine (HL.out _).mono ?_; rintro e1 w1 ⟨rfl, b1⟩; have B1 := Lib.hid (B0.out.trans (b1.mono B0.out.size)); have P1 := Lib.hid (P0.out.keep b1); have g0 := P1.out.cell 0; have g1 := P1.out.cell 1; clear b1))
      | (go_at_call 11; go_must (refine (HF.out _ B1.out).mono ?_; rintro e2 w2 ⟨rfl, b2⟩; have B2 := Lib.hid (B1.out.trans (b2.mono B1.out.size)); have P2 := Lib.hid (P1.out.keep b2); have g0 := P2.out.cell 0; have g1 := P2.out.cell 1; clear b2))
      | (go_at_call 14; go_must (refine (CD.out _ B2.out).mono ?_; rintro e3 w3 ⟨rfl, b3⟩; have B3 := Lib.hid (B2.out.trans (b3.mono B2.out.size)); have P3 := Lib.hid (P2.out.keep b3); have g0 := P3.out.cell 0; have g1 := P3.out.cell 1; clear b3))
      | (go_at_call 16; go_must (refine (CH.out _ B3.out).mono ?_; rintro e4 w4 ⟨rfl, b4⟩; have B4 := Lib.hid (B3.out.trans (b4.mono B3.out.size)); have P4 := Lib.hid (P3.out.keep b4); have g0 := P4.out.cell 0; have g1 := P4.out.cell 1; clear b4))
      | fail)
    go_returns
    exact ⟨rfl, B4.out⟩
  obtain ⟨e1, e2, e3, e4, e5, e6, e7⟩ := Pt_facts (f := f) (t := t) (k := k) hz (by omega) (by omega) (by omega : t ≤ lg R) (by omega) (by omega)
  have hpl := prt_len R f t
  have CS2 := CS.out (by omega)
  rw [e1, e2, e3] at CS2
  have CX := fun v1 v2 w' (h1 : NmArg w' v1 N) (h2 : RnArg w' v2 (prt R f t)) => at_any N (prt R f t) v1 v2 k w' h1 HS.out h2 (by omega) (by omega)
  have CY := fun v1 v2 w' (h1 : NmArg w' v1 N) (h2 : RnArg w' v2 (prt R f t)) => longC_any N (prt R f t) v1 v2 w' h1 HS.out h2 (by omega)
  rw [e5] at CX
  rw [e7] at CY
  have CA2 := fun w' hb => CA.out (by omega) (f + k) w' hb (by omega)
  rw [hz] at CD
  rw [hlg] at CH
  clear CS CA HS hfw hr2 hz hlg e1 e2 e3 e4 e5 e7 hpl
  generalize atC N R (f + k) = p at *
  obtain ⟨a, b⟩ := p
  simp only at e6
  subst e6
  have KX := Lib.hid (show ∀ v1 v2 w' (h1 : NmArg w' v1 N) (h2 : RnArg w' v2 (prt R f t)), Calls Try.prog 12 #[.agg #[v1, v2], .int .i64 k] w' fun e w'' => e = .returned (.tuple #[.int .i64 a, .bool true]) ∧ Below w'.heap.size w' w'' from CX)
  have KA := Lib.hid (show ∀ w' (hb : Below w.heap.size w w'), Calls Try.prog 12 #[.agg #[.slice A1 N.length c1, .slice A2 R.length c2], .int .i64 (f + k)] w' fun e w'' => e = .returned (.tuple #[.int .i64 a, .bool true]) ∧ Below w'.heap.size w' w'' from CA2)
  have KY := Lib.hid CY
  have KS := Lib.hid CS2
  clear CX CY CS2 CA2
  generalize prt R f t = E at *
  generalize lg R = l at *
  have hwr : IntKind.i64.wrap (f + k) = f + k := IntWalk.i64_in _ (by omega)
  have hwr2 : IntKind.i64.wrap (t - f) = t - f := IntWalk.i64_in _ (by omega)
  go_enter Try.func9, Try.ntmps9
  go_wp2_with (first
    | (go_at_call 10; go_must (refine (HL.out _).mono ?_; rintro e1 w1 ⟨rfl, b1⟩; have B1 := Lib.hid (B0.out.trans (b1.mono B0.out.size)); have P1 := Lib.hid (P0.out.keep b1); have g0 := P1.out.cell 0; have g1 := P1.out.cell 1; clear b1))
    | (go_at_call 11; go_must (refine (HF.out _ B1.out).mono ?_; rintro e2 w2 ⟨rfl, b2⟩; have B2 := Lib.hid (B1.out.trans (b2.mono B1.out.size)); have P2 := Lib.hid (P1.out.keep b2); have g0 := P2.out.cell 0; have g1 := P2.out.cell 1; clear b2))
    | (go_at_call 14; go_must (refine (CD.out _ B2.out).mono ?_; rintro e3 w3 ⟨rfl, b3⟩; have B3 := Lib.hid (B2.out.trans (b3.mono B2.out.size)); have P3 := Lib.hid (P2.out.keep b3); have g0 := P3.out.cell 0; have g1 := P3.out.cell 1; clear b3))
    | (go_at_call 16; first
        | ((with_reducible refine (CH.out _ B3.out).mono ?_); rintro e4 w4 ⟨rfl, b4⟩; have B4 := Lib.hid (B3.out.trans (b4.mono B3.out.size)); have P4 := Lib.hid (P3.out.keep b4); have g0 := P4.out.cell 0; have g1 := P4.out.cell 1; clear b4)
        | ((with_reducible refine (KY.out _ _ _ (R1.out _ B7.out) (R2.out _ B7.out)).mono ?_); rintro e8 w8 ⟨rfl, b8⟩; have B8 := Lib.hid (B7.out.trans (b8.mono B7.out.size)); clear b8))
    | (go_at_call 20; go_must (refine (KS.out _ B4.out).mono ?_; rintro e5 w5 ⟨v1, v2, rfl, r1, r2, b5⟩; obtain ⟨X1, m1, d1, rfl, rfl⟩ := KRow.form r1; obtain ⟨X2, m2, d2, rfl, rfl⟩ := KRow.form r2; have B5 := Lib.hid (B4.out.trans (b5.mono B4.out.size)); have P5 := Lib.hid (P4.out.keep b5); have BX := Lib.hid (ba w5 (.cells #[.slice X1 N.length d1, .slice X2 E.length d2] 25)); have PX := Lib.hid (RowAt.new w5 25 #[.slice X1 N.length d1, .slice X2 E.length d2]); have R1 := Lib.hid (fun w' (hb : Below w5.heap.size w5 w') => r1.name.keep hb); have R2 := Lib.hid (fun w' (hb : Below w5.heap.size w5 w') => (KRow.arg rnC_size r2).keep hb); clear b5 r1 r2))
    | (go_at_call 12; first
        | ((with_reducible refine (KX.out _ _ _ (R1.out _ BX.out) (R2.out _ BX.out)).mono ?_); rintro e6 w6 ⟨rfl, b6⟩; have B6 := Lib.hid (BX.out.trans (b6.mono BX.out.size)); have P6 := Lib.hid ((P5.out.keep BX.out).keep b6); have PX6 := Lib.hid (PX.out.keep b6); have g0 := P6.out.cell 0; have g1 := P6.out.cell 1; clear b6)
        | ((with_reducible refine (KA.out _ (B5.out.trans (B6.out.mono B5.out.size))).mono ?_); rintro e7 w7 ⟨rfl, b7⟩; have B7 := Lib.hid (B6.out.trans (b7.mono B6.out.size)); have PX7 := Lib.hid (PX6.out.keep b7); have g0 := PX7.out.cell 0; have g1 := PX7.out.cell 1; clear b7))
    | fail)
  go_returns
  exact ⟨rfl, B5.out.trans (B8.out.mono B5.out.size)⟩

end Go.Proofs.Ytmfceiioigmnlaa
