/-
  The walk of the statement CaptureReads.
-/
import Derived.Test.YtmfceiioigmnlaaL1
import Derived.Test.YtmfceiioigmnlaaW12
import Derived.Test.YtmfceiioigmnlaaW21
import Derived.Test.YtmfceiioigmnlaaW25
namespace Go.Proofs.Ytmfceiioigmnlaa
open Go Go.RowKit Go.Joins
set_option linter.unusedVariables false
set_option linter.unusedSimpArgs false

theorem arg_three {w : World} {g o : Nat} {l : List Ed} (h : ∀ j (hj : j < l.length) i, i < 3 → w.cell? ⟨g, o + j * 3 + i, none⟩ = (edE l[j])[i]?) (j : Nat) (hj : j < l.length) : w.cell? ⟨g, o + j * 3, none⟩ = some (.int .i64 l[j].1) ∧ w.cell? ⟨g, o + j * 3 + 1, none⟩ = some (.int .i64 l[j].2.1) ∧ w.cell? ⟨g, o + j * 3 + 2, none⟩ = some (.int .i64 l[j].2.2) :=
  ⟨h j hj 0 (by omega), h j hj 1 (by omega), h j hj 2 (by omega)⟩
theorem chR_len (N : List ByteArray) (R : List Rn) (s : ByteArray) : (chR N R s).1.length ≤ R.length := by
  unfold chR
  split
  · simp
  · split
    · simp
    · exact chn_len _ _
theorem slNR_len (N : List ByteArray) (R : List Rn) (f t : Int) : (slN N R f t).length ≤ N.length ∧ (slR N R f t).length ≤ R.length := by
  unfold slN slR
  constructor
  · split <;> simp
  · split
    · exact prt_len R f t
    · simp
theorem edC_len (N : List ByteArray) (R : List Rn) : (edC N R).length ≤ 16 * R.length := by
  by_cases h : ckC N R = 0
  · rw [edC_yes h]
    obtain ⟨_, _, _, h4, _, _⟩ := ckC_ok h
    exact Nat.le_trans (edg_len _ _) (Nat.mul_le_mul_right _ h4)
  · rw [edC_no h]; simp

set_option maxRecDepth 100000 in
set_option maxHeartbeats 16000000 in
theorem law_reads (N : List ByteArray) (R : List Rn) (vN vR : Value) (s : ByteArray) (f t : Int) (w : World) (hN : NmArg w vN N) (hs : szs N) (hR : RnArg w vR R) :
    Calls Try.prog 4 #[.agg #[vN, vR], .string s, .int .i64 f, .int .i64 t] w fun e w' => e = .returned (.bool true) ∧ Below w.heap.size w w' := by
  have HL := Lib.hid lives_any
  have HF := Lib.hid (fun w' (hb : Below w.heap.size w w') => few_any N R vN vR w' (hN.keep hb) (hR.keep hb))
  cases hf : fewB N R with
  | false =>
    rw [hf] at HF
    obtain ⟨A1, c1, rfl, q1⟩ := hN.form
    obtain ⟨A2, c2, rfl, q2⟩ := hR
    have B0 := Lib.hid (ba w (.cells #[.slice A1 N.length c1, .slice A2 R.length c2] 25))
    have P0 := Lib.hid (RowAt.new w 25 #[.slice A1 N.length c1, .slice A2 R.length c2])
    clear hf hN q1 q2 hs
    generalize N.length = n at *
    generalize R.length = r at *
    go_enter Try.func4, Try.ntmps4
    go_wp2_with (first
      | (go_at_call 10; go_must (refine (HL.out _).mono ?_; rintro e1 w1 ⟨rfl, b1⟩; have B1 := Lib.hid (B0.out.trans (b1.mono B0.out.size)); have P1 := P0.out.keep b1; have g0 := P1.cell 0; have g1 := P1.cell 1; clear P1 b1))
      | (go_at_call 11; go_must (refine (HF.out _ B1.out).mono ?_; rintro e2 w2 ⟨rfl, b2⟩; have B2 := Lib.hid (B1.out.trans (b2.mono B1.out.size)); clear b2)))
    go_returns
    exact ⟨rfl, B2.out⟩
  | true =>
  rw [hf] at HF
  obtain ⟨hn1, hn2⟩ := fewB_len hf
  have hcl := chR_len N R s
  have hsl := slNR_len N R f t
  have hel := edC_len N R
  have KC := fun w' (hb : Below w.heap.size w w') => channel_any N R vN vR s w' (hN.keep hb) hs (hR.keep hb) (by omega)
  have KD := fun w' (hb : Below w.heap.size w w') => rchannel_any N R vN vR s w' (hN.keep hb) hs (hR.keep hb) (by omega)
  have KS := fun w' (hb : Below w.heap.size w w') => slice_any N R vN vR f t w' (hN.keep hb) hs (hR.keep hb) (by omega)
  have KT := fun w' (hb : Below w.heap.size w w') => rslice_any N R vN vR f t w' (hN.keep hb) hs (hR.keep hb) (by omega)
  have KE := fun w' (hb : Below w.heap.size w w') => edges_any N R vN vR w' (hN.keep hb) hs (hR.keep hb) (by omega)
  have KF := fun w' (hb : Below w.heap.size w w') => redges_any N R vN vR w' (hN.keep hb) hs (hR.keep hb) (by omega)
  obtain ⟨A1, c1, rfl, q1⟩ := hN.form
  obtain ⟨A2, c2, rfl, q2⟩ := hR
  have B0 := Lib.hid (ba w (.cells #[.slice A1 N.length c1, .slice A2 R.length c2] 25))
  have P0 := Lib.hid (RowAt.new w 25 #[.slice A1 N.length c1, .slice A2 R.length c2])
  clear hf hN q1 q2 hs
  generalize chR N R s = cc at *
  obtain ⟨C, ce⟩ := cc
  simp only at hcl KC KD
  generalize slN N R f t = S1 at *
  generalize slR N R f t = S2 at *
  generalize slE N R f t = se at *
  generalize edC N R = E at *
  have hC : C.length ≤ 1099511627776 := by omega
  have hS1 : S1.length ≤ 1099511627776 := by omega
  have hS2 : S2.length ≤ 1099511627776 := by omega
  have hE : (E.length : Int) ≤ 1099511627776 := by omega
  have HC := Lib.hid KC; have HD := Lib.hid KD; have HS := Lib.hid KS; have HT := Lib.hid KT; have HE := Lib.hid KE; have HFe := Lib.hid KF
  clear KC KD KS KT KE KF hcl hsl hel hn1 hn2
  generalize N.length = n at *
  generalize R.length = r at *
  have qc : (ce == ce) = true := by simp
  have qs : (se == se) = true := by simp
  go_enter Try.func4, Try.ntmps4
  go_wp2_with (first
    | (go_at_call 10; go_must (refine (HL.out _).mono ?_; rintro e1 w1 ⟨rfl, b1⟩; have B1 := Lib.hid (B0.out.trans (b1.mono B0.out.size)); have P1 := Lib.hid (P0.out.keep b1); have g0 := P1.out.cell 0; have g1 := P1.out.cell 1; clear b1))
    | (go_at_call 11; go_must (refine (HF.out _ B1.out).mono ?_; rintro e2 w2 ⟨rfl, b2⟩; have B2 := Lib.hid (B1.out.trans (b2.mono B1.out.size)); have P2 := Lib.hid (P1.out.keep b2); have g0 := P2.out.cell 0; have g1 := P2.out.cell 1; clear b2))
    | (go_at_call 18; go_must (refine (HC.out _ B2.out).mono ?_; rintro e3 w3 ⟨v3, rfl, r3, b3⟩; obtain ⟨X3, m3, d3, rfl, rfl⟩ := KRow.form r3; have R3 := Lib.hid (KRow.arg rnC_size r3); have B3 := Lib.hid (B2.out.trans (b3.mono B2.out.size)); have P3 := Lib.hid (P2.out.keep b3); have g0 := P3.out.cell 0; have g1 := P3.out.cell 1; clear b3 r3))
    | (go_at_call 19; go_must (refine (HD.out _ B3.out).mono ?_; rintro e4 w4 ⟨v4, rfl, r4, b4⟩; obtain ⟨X4, m4, d4, rfl, rfl⟩ := KRow.form r4; have R34 := Lib.hid (R3.out.keep b4); have R4 := Lib.hid (KRow.arg rnC_size r4); have B4 := Lib.hid (B3.out.trans (b4.mono B3.out.size)); have P4 := Lib.hid (P3.out.keep b4); have g0 := P4.out.cell 0; have g1 := P4.out.cell 1; clear b4 r4))
    | (go_at_call 20; go_must (refine (HS.out _ B4.out).mono ?_; rintro e5 w5 ⟨v1, v2, rfl, r1, r2, b5⟩; obtain ⟨X1, m1, d1, rfl, rfl⟩ := KRow.form r1; obtain ⟨X2, m2, d2, rfl, rfl⟩ := KRow.form r2; have bx := ba w5 (.cells #[.slice X1 S1.length d1, .slice X2 S2.length d2] 25); have R35 := Lib.hid ((R34.out.keep b5).keep bx); have R45 := Lib.hid ((R4.out.keep b5).keep bx); have NA5 := Lib.hid (r1.name.keep bx); have RA5 := Lib.hid ((KRow.arg rnC_size r2).keep bx); have B5 := Lib.hid ((B4.out.trans (b5.mono B4.out.size)).trans (bx.mono (Nat.le_trans B4.out.size b5.size))); have P5 := Lib.hid ((P4.out.keep b5).keep bx); have PX5 := Lib.hid (RowAt.new w5 25 #[.slice X1 S1.length d1, .slice X2 S2.length d2]); have g0 := P5.out.cell 0; have g1 := P5.out.cell 1; clear b5 r1 r2 bx))
    | (go_at_call 21; go_must (refine (HT.out _ B5.out).mono ?_; rintro e6 w6 ⟨v1', v2', rfl, r1, r2, b6⟩; obtain ⟨Y1, m1', f1, rfl, rfl⟩ := KRow.form r1; obtain ⟨Y2, m2', f2, rfl, rfl⟩ := KRow.form r2; have bx := ba w6 (.cells #[.slice Y1 S1.length f1, .slice Y2 S2.length f2] 25); have R36 := Lib.hid ((R35.out.keep b6).keep bx); have R46 := Lib.hid ((R45.out.keep b6).keep bx); have NA6 := Lib.hid ((NA5.out.keep b6).keep bx); have RA6 := Lib.hid ((RA5.out.keep b6).keep bx); have NB6 := Lib.hid (r1.name.keep bx); have RB6 := Lib.hid ((KRow.arg rnC_size r2).keep bx); have B6 := Lib.hid ((B5.out.trans (b6.mono B5.out.size)).trans (bx.mono (Nat.le_trans B5.out.size b6.size))); have P6 := Lib.hid ((P5.out.keep b6).keep bx); have PX6 := Lib.hid ((PX5.out.keep b6).keep bx); have PY6 := Lib.hid (RowAt.new w6 25 #[.slice Y1 S1.length f1, .slice Y2 S2.length f2]); clear b6 r1 r2 bx))
    | (go_at_call 22; go_must (refine (sameRuns_any C _ _ _ R36.out R46.out hC).mono ?_; rintro e7 w7 ⟨rfl, b7⟩; have NA7 := Lib.hid (NA6.out.keep b7); have RA7 := Lib.hid (RA6.out.keep b7); have NB7 := Lib.hid (NB6.out.keep b7); have RB7 := Lib.hid (RB6.out.keep b7); have B7 := Lib.hid (B6.out.trans (b7.mono B6.out.size)); have P7 := Lib.hid (P6.out.keep b7); have PX7 := PX6.out.keep b7; have PY7 := PY6.out.keep b7; have x0 := PX7.cell 0; have x1 := PX7.cell 1; have y0 := PY7.cell 0; have y1 := PY7.cell 1; clear b7 PX7 PY7))
    | (go_at_call 23; go_must (refine (equal_any S1 S2 _ _ _ _ _ NA7.out RA7.out NB7.out RB7.out hS1 hS2).mono ?_; rintro e8 w8 ⟨rfl, b8⟩; have B8 := Lib.hid (B7.out.trans (b8.mono B7.out.size)); have P8 := Lib.hid (P7.out.keep b8); have g0 := P8.out.cell 0; have g1 := P8.out.cell 1; clear b8 x0 x1 y0 y1))
    | fail)
  have S0 : (w8.drew).cell? ⟨w.heap.size, 0, none⟩ = some (.slice A1 n c1) ∧ (w8.drew).cell? ⟨w.heap.size, 1, none⟩ = some (.slice A2 r c2) ∧ Below w.heap.size w (w8.drew) ∧ w.heap.size < (w8.drew).heap.size := ⟨g0, g1, B8.out.drew, World.block_lt_of_cell? w8 _ g0⟩
  go_region_held3 (fun w' => w'.cell? ⟨w.heap.size, 0, none⟩ = some (.slice A1 n c1) ∧ w'.cell? ⟨w.heap.size, 1, none⟩ = some (.slice A2 r c2) ∧ Below w.heap.size w w' ∧ w.heap.size < w'.heap.size) (first | assumption | go_keep)
    (first
      | (go_at_call 24; refine (HE.out _ (And.left (And.right (And.right (by assumption))))).mono ?_; rintro e9 w9 ⟨v9, rfl, r9, b9⟩; obtain ⟨Z1, z1, k1, rfl, rfl⟩ := KRow.form r9; have E1 := Lib.hid (KRow.arg edE_size r9); have h9 := held2 (by assumption) b9; clear r9)
      | (go_at_call 25; refine (HFe.out _ (And.left (And.right (And.right (by assumption))))).mono ?_; rintro e10 w10 ⟨v10, rfl, r10, b10⟩; obtain ⟨Z2, z2, k2, rfl, rfl⟩ := KRow.form r10; have E2 := Lib.hid (KRow.arg edE_size r10); have h10 := held2 (by assumption) b10; clear r10)
      | fail)
  have BZ := Lib.hid h10.2.2.1
  have E3 := Lib.hid (E1.out.keep b10)
  clear h9 h10 S0 E1 b9 b10
  go_wp2
  go_loopw [19] (fun x wr => ∃ (k m : Nat), k ≤ E.length ∧ x = .int .i64 k ∧ wr = w10.drewN m) (fun x _ => E.length - (intOf x).toNat)
  case atStart => exact ⟨0, 0, by omega, rfl, rfl⟩
  case round =>
    obtain ⟨k, m, hk, rfl, rfl⟩ := hrel
    by_cases hlt : k < E.length
    · obtain ⟨_, _, e1, q1⟩ := E3.out
      obtain ⟨_, _, e2, q2⟩ := E2.out
      obtain ⟨g1', o1, rfl, hg1, hc1⟩ := q1 (by omega)
      obtain ⟨g2', o2, rfl, hg2, hc2⟩ := q2 (by omega)
      simp only [Value.slice.injEq, true_and, and_true] at e1 e2
      obtain ⟨rfl, rfl⟩ := e1
      obtain ⟨rfl, rfl⟩ := e2
      obtain ⟨a0, a1, a2⟩ := arg_three hc1 k hlt
      obtain ⟨b0, b1, b2⟩ := arg_three hc2 k hlt
      clear hc1 hc2 q1 q2
      generalize E[k].1 = y0 at *
      generalize E[k].2.1 = y1 at *
      generalize E[k].2.2 = y2 at *
      go_wp2
      go_quiet (fail)
      go_wp2
      go_roundw
      case rel => exact ⟨k + 1, m + nq, by omega, by go_num, rfl⟩
      case measure => simp [intOf]; omega
    · go_wp2
      go_returns
      exact ⟨rfl, Go.below_drewN BZ.out _⟩

end Go.Proofs.Ytmfceiioigmnlaa
