/-
  The walk of the statement CaptureEdges.
-/
import Derived.Test.YtillcmddbjhepaaW23
import Derived.Test.YtillcmddbjhepaaW11
import Derived.Test.YtillcmddbjhepaaM8
import Derived.BigQuiet
namespace Go.Proofs.Ytillcmddbjhepaa
open Go Go.RowKit Go.Joins
set_option linter.unusedVariables false
set_option linter.unusedSimpArgs false

theorem arg_three {w : World} {g o : Nat} {l : List Ed} (h : ∀ j (hj : j < l.length) i, i < 3 → w.cell? ⟨g, o + j * 3 + i, none⟩ = (edE l[j])[i]?) (j : Nat) (hj : j < l.length) : w.cell? ⟨g, o + j * 3, none⟩ = some (.int .i64 l[j].1) ∧ w.cell? ⟨g, o + j * 3 + 1, none⟩ = some (.int .i64 l[j].2.1) ∧ w.cell? ⟨g, o + j * 3 + 2, none⟩ = some (.int .i64 l[j].2.2) :=
  ⟨h j hj 0 (by omega), h j hj 1 (by omega), h j hj 2 (by omega)⟩
theorem edC_len (N : List ByteArray) (R : List Rn) : (edC N R).length ≤ 16 * R.length := by
  by_cases h : ckC N R = 0
  · rw [edC_yes h]
    obtain ⟨_, _, _, h4, _, _⟩ := ckC_ok h
    exact Nat.le_trans (edg_len _ _) (Nat.mul_le_mul_right _ h4)
  · rw [edC_no h]; simp

theorem fewB_len {N : List ByteArray} {R : List Rn} (h : fewB N R = true) : N.length ≤ 100 ∧ R.length ≤ 2000 := by
  unfold fewB at h; simpa using h

theorem Eg_facts {N : List ByteArray} {R : List Rn} {k : Int} (h : ckC N R = 0) (h0 : 0 ≤ k) (hk : k < lg R) :
    ∃ x : Nat, atC N R 0 = ((x : Int), true) ∧ x < 2 ^ 16 ∧ okE k x (edC N R) ∧ (atC N R k).2 = true ∧ ((fin' k x (edC N R) : Nat) : Int) = (atC N R k).1 ∧ (edC N R).Pairwise lt2 ∧ (∀ e ∈ edC N R, ∃ c : Nat, e.2.1 = c ∧ c < N.length) := by
  obtain ⟨h1, h2, h3, h4, h5, h6⟩ := ckC_ok h
  have hps := ((vr_iff _ R 0 (by omega)).1 h6).2.1
  have hv : ∀ r ∈ R, ∃ c : Nat, r.1 = c ∧ c < 2 ^ N.length := by
    intro r hr
    obtain ⟨i, hi, rfl⟩ := List.getElem_of_mem hr
    have := (el_range h6 i hi).1
    rw [mk_nat] at this
    exact ⟨R[i].1.toNat, by omega, by omega⟩
  obtain ⟨x, e1, e2, e3, e4⟩ := edg_ok (n := N.length) (k := k) R hps hv h0 hk
  have hp : 2 ^ N.length ≤ 2 ^ 16 := Nat.pow_le_pow_right (by omega) h4
  rw [edC_yes h, atC_yes h (by omega), atC_yes h h0]
  refine ⟨x, ?_, by omega, e3, (atv_in h0 hps hk).1, e4, edg_sorted hps, fun e he => edg_mem hps he⟩
  have h7 := (atv_in (l := R) (k := 0) (by omega) hps (by omega)).1
  rw [← e1]
  exact Prod.ext rfl h7

set_option maxRecDepth 100000 in
set_option maxHeartbeats 16000000 in
theorem law_edges (N : List ByteArray) (R : List Rn) (vN vR : Value) (k : Int) (w : World) (hN : NmArg w vN N) (hs : szs N) (hR : RnArg w vR R) (hk : -9223372036854775808 ≤ k ∧ k ≤ 9223372036854775807) :
    Calls Try.prog 3 #[.agg #[vN, vR], .int .i64 k] w fun e w' => e = .returned (.bool true) ∧ Below w.heap.size w w' := by
  have HL := Lib.hid lives_any
  have HF := Lib.hid (fun w' (hb : Below w.heap.size w w') => few_any N R vN vR w' (hN.keep hb) (hR.keep hb))
  have HRn := Lib.hid (fun (h : fewB N R = true) => (fewB_len h).2)
  have CC := Lib.hid (fun (hn : R.length ≤ 1099511627776) w' (hb : Below w.heap.size w w') => check_any N R vN vR w' (hN.keep hb) hs (hR.keep hb) hn)
  have CG := Lib.hid (fun (hn : R.length ≤ 1099511627776) w' (hb : Below w.heap.size w w') => longC_any N R vN vR w' (hN.keep hb) hs (hR.keep hb) hn)
  have CE := Lib.hid (fun (hn : R.length ≤ 1099511627776) w' (hb : Below w.heap.size w w') => edges_any N R vN vR w' (hN.keep hb) hs (hR.keep hb) hn)
  have CA := Lib.hid (fun (hn : R.length ≤ 1099511627776) q w' (hb : Below w.heap.size w w') hq => at_any N R vN vR q w' (hN.keep hb) hs (hR.keep hb) hn hq)
  obtain ⟨A1, c1, rfl, q1⟩ := hN.form
  obtain ⟨A2, c2, rfl, q2⟩ := hR
  have B0 := Lib.hid (ba w (.cells #[.slice A1 N.length c1, .slice A2 R.length c2] 25))
  have P0 := Lib.hid (RowAt.new w 25 #[.slice A1 N.length c1, .slice A2 R.length c2])
  clear hN q1 q2 hs
  cases hfw : fewB N R with
  | false =>
    rw [hfw] at HF
    clear CC CG CE CA HRn hfw
    generalize N.length = n at *
    generalize R.length = r at *
    go_enter Try.func3, Try.ntmps3
    go_wp2_with (first
      | (go_at_call 4; go_must (refine (HL.out _).mono ?_; rintro e1 w1 ⟨rfl, b1⟩; have B1 := Lib.hid (B0.out.trans (b1.mono B0.out.size)); have P1 := Lib.hid (P0.out.keep b1); have g0 := P1.out.cell 0; have g1 := P1.out.cell 1; clear b1))
      | (go_at_call 5; go_must (refine (HF.out _ B1.out).mono ?_; rintro e2 w2 ⟨rfl, b2⟩; have B2 := Lib.hid (B1.out.trans (b2.mono B1.out.size)); have P2 := Lib.hid (P1.out.keep b2); have g0 := P2.out.cell 0; have g1 := P2.out.cell 1; clear b2))
      | fail)
    go_returns
    exact ⟨rfl, B2.out⟩
  | true =>
  rw [hfw] at HF
  have hr2 := HRn.out hfw
  have CD := Lib.hid (CC.out (by omega))
  have CH := Lib.hid (CG.out (by omega))
  clear CC CG HRn
  by_cases hz : ckC N R = 0
  case neg =>
    have hz' : (ckC N R != 0) = true := by simpa using hz
    have hz2 : ¬ ckC N R = 0 := hz
    clear CE CA hfw hr2 CH hz
    generalize ckC N R = c at *
    generalize N.length = n at *
    generalize R.length = r at *
    go_enter Try.func3, Try.ntmps3
    go_wp2_with (first
      | (go_at_call 4; go_must (refine (HL.out _).mono ?_; rintro e1 w1 ⟨rfl, b1⟩; have B1 := Lib.hid (B0.out.trans (b1.mono B0.out.size)); have P1 := Lib.hid (P0.out.keep b1); have g0 := P1.out.cell 0; have g1 := P1.out.cell 1; clear b1))
      | (go_at_call 5; go_must (refine (HF.out _ B1.out).mono ?_; rintro e2 w2 ⟨rfl, b2⟩; have B2 := Lib.hid (B1.out.trans (b2.mono B1.out.size)); have P2 := Lib.hid (P1.out.keep b2); have g0 := P2.out.cell 0; have g1 := P2.out.cell 1; clear b2))
      | (go_at_call 6; go_must (refine (CD.out _ B2.out).mono ?_; rintro e3 w3 ⟨rfl, b3⟩; have B3 := Lib.hid (B2.out.trans (b3.mono B2.out.size)); have P3 := Lib.hid (P2.out.keep b3); have g0 := P3.out.cell 0; have g1 := P3.out.cell 1; clear b3))
      | fail)
    go_returns
    exact ⟨rfl, B3.out⟩
  by_cases h1 : k < 0
  case pos =>
    rw [hz] at CD
    clear CE CA hfw hr2 CH hz
    generalize N.length = n at *
    generalize R.length = r at *
    go_enter Try.func3, Try.ntmps3
    go_wp2_with (first
      | (go_at_call 4; go_must (refine (HL.out _).mono ?_; rintro e1 w1 ⟨rfl, b1⟩; have B1 := Lib.hid (B0.out.trans (b1.mono B0.out.size)); have P1 := Lib.hid (P0.out.keep b1); have g0 := P1.out.cell 0; have g1 := P1.out.cell 1; clear b1))
      | (go_at_call 5; go_must (refine (HF.out _ B1.out).mono ?_; rintro e2 w2 ⟨rfl, b2⟩; have B2 := Lib.hid (B1.out.trans (b2.mono B1.out.size)); have P2 := Lib.hid (P1.out.keep b2); have g0 := P2.out.cell 0; have g1 := P2.out.cell 1; clear b2))
      | (go_at_call 6; go_must (refine (CD.out _ B2.out).mono ?_; rintro e3 w3 ⟨rfl, b3⟩; have B3 := Lib.hid (B2.out.trans (b3.mono B2.out.size)); have P3 := Lib.hid (P2.out.keep b3); have g0 := P3.out.cell 0; have g1 := P3.out.cell 1; clear b3))
      | fail)
    go_returns
    exact ⟨rfl, B3.out⟩
  have hlg := lgC_yes hz
  by_cases h3 : k ≥ lg R
  case pos =>
    rw [hz] at CD
    rw [hlg] at CH
    clear CE CA hfw hr2 hz hlg
    generalize lg R = l at *
    generalize N.length = n at *
    generalize R.length = r at *
    go_enter Try.func3, Try.ntmps3
    go_wp2_with (first
      | (go_at_call 4; go_must (refine (HL.out _).mono ?_; rintro e1 w1 ⟨rfl, b1⟩; have B1 := Lib.hid (B0.out.trans (b1.mono B0.out.size)); have P1 := Lib.hid (P0.out.keep b1); have g0 := P1.out.cell 0; have g1 := P1.out.cell 1; clear b1))
      | (go_at_call 5; go_must (refine (HF.out _ B1.out).mono ?_; rintro e2 w2 ⟨rfl, b2⟩; have B2 := Lib.hid (B1.out.trans (b2.mono B1.out.size)); have P2 := Lib.hid (P1.out.keep b2); have g0 := P2.out.cell 0; have g1 := P2.out.cell 1; clear b2))
      | (go_at_call 6; go_must (refine (CD.out _ B2.out).mono ?_; rintro e3 w3 ⟨rfl, b3⟩; have B3 := Lib.hid (B2.out.trans (b3.mono B2.out.size)); have P3 := Lib.hid (P2.out.keep b3); have g0 := P3.out.cell 0; have g1 := P3.out.cell 1; clear b3))
      | (go_at_call 7; go_must (refine (CH.out _ B3.out).mono ?_; rintro e4 w4 ⟨rfl, b4⟩; have B4 := Lib.hid (B3.out.trans (b4.mono B3.out.size)); have P4 := Lib.hid (P3.out.keep b4); have g0 := P4.out.cell 0; have g1 := P4.out.cell 1; clear b4))
      | fail)
    go_returns
    exact ⟨rfl, B4.out⟩
  obtain ⟨x0, e1, e2, e3, e4, e5, e6, e7⟩ := Eg_facts (k := k) hz (by omega) (by omega)
  have hel := edC_len N R
  have hl16 := (ckC_ok hz).2.2.2.1
  have CX := CA.out (by omega) 0
  have CY := CA.out (by omega) k
  have CE2 := Lib.hid (CE.out (by omega))
  rw [e1] at CX
  rw [hz] at CD
  rw [hlg] at CH
  generalize atC N R k = p at *
  obtain ⟨T, b⟩ := p
  simp only at e4 e5
  subst e4
  have KX := Lib.hid (show ∀ w' (hb : Below w.heap.size w w'), Calls Try.prog 8 #[.agg #[.slice A1 N.length c1, .slice A2 R.length c2], .int .i64 0] w' fun e w'' => e = .returned (.tuple #[.int .i64 x0, .bool true]) ∧ Below w'.heap.size w' w'' from fun w' hb => CX w' hb (by omega))
  have KY := Lib.hid (show ∀ w' (hb : Below w.heap.size w w'), Calls Try.prog 8 #[.agg #[.slice A1 N.length c1, .slice A2 R.length c2], .int .i64 k] w' fun e w'' => e = .returned (.tuple #[.int .i64 T, .bool true]) ∧ Below w'.heap.size w' w'' from fun w' hb => CY w' hb (by omega))
  have H2 := Lib.hid e2; have H3 := Lib.hid e3; have H5 := Lib.hid e5; have H6 := Lib.hid (List.pairwise_iff_getElem.1 e6); have H7 := Lib.hid e7
  clear CE CA CX CY hfw hz hlg e1 e2 e3 e5 e6 e7
  generalize edC N R = E at *
  generalize lg R = l at *
  have hEl : (E.length : Int) ≤ 32000 := by omega
  generalize N.length = n at *
  generalize R.length = r at *
  go_enter Try.func3, Try.ntmps3
  go_wp2_with (first
    | (go_at_call 4; go_must (refine (HL.out _).mono ?_; rintro e1 w1 ⟨rfl, b1⟩; have B1 := Lib.hid (B0.out.trans (b1.mono B0.out.size)); have P1 := Lib.hid (P0.out.keep b1); have g0 := P1.out.cell 0; have g1 := P1.out.cell 1; clear b1))
    | (go_at_call 5; go_must (refine (HF.out _ B1.out).mono ?_; rintro e2 w2 ⟨rfl, b2⟩; have B2 := Lib.hid (B1.out.trans (b2.mono B1.out.size)); have P2 := Lib.hid (P1.out.keep b2); have g0 := P2.out.cell 0; have g1 := P2.out.cell 1; clear b2))
    | (go_at_call 6; go_must (refine (CD.out _ B2.out).mono ?_; rintro e3 w3 ⟨rfl, b3⟩; have B3 := Lib.hid (B2.out.trans (b3.mono B2.out.size)); have P3 := Lib.hid (P2.out.keep b3); have g0 := P3.out.cell 0; have g1 := P3.out.cell 1; clear b3))
    | (go_at_call 7; go_must (refine (CH.out _ B3.out).mono ?_; rintro e4 w4 ⟨rfl, b4⟩; have B4 := Lib.hid (B3.out.trans (b4.mono B3.out.size)); have P4 := Lib.hid (P3.out.keep b4); have g0 := P4.out.cell 0; have g1 := P4.out.cell 1; clear b4))
    | (go_at_call 8; first
      | ((with_reducible refine (KX.out _ B4.out).mono ?_); rintro e5 w5 ⟨rfl, b5⟩; have B5 := Lib.hid (B4.out.trans (b5.mono B4.out.size)); have P5 := Lib.hid (P4.out.keep b5); have g0 := P5.out.cell 0; have g1 := P5.out.cell 1; clear b5)
      | ((with_reducible refine (KY.out _ B5.out).mono ?_); rintro e6 w6 ⟨rfl, b6⟩; have B6 := Lib.hid (B5.out.trans (b6.mono B5.out.size)); have P6 := Lib.hid (P5.out.keep b6); have g0 := P6.out.cell 0; have g1 := P6.out.cell 1; clear b6))
    | (go_at_call 9; go_must (refine (CE2.out _ B6.out).mono ?_; rintro e7 w7 ⟨v7, rfl, r7, b7⟩; obtain ⟨X7, m7, d7, rfl, rfl⟩ := KRow.form r7; have R7 := Lib.hid (KRow.arg edE_size r7); have B7 := Lib.hid (B6.out.trans (b7.mono B6.out.size)); have P7 := Lib.hid (P6.out.keep b7); have g0 := P7.out.cell 0; have g1 := P7.out.cell 1; clear b7 r7))
    | fail)
  clear HL HF CD CH KX KY CE2 B0 P0 B1 P1 B2 P2 B3 P3 B4 P4 B5 P5 B6 P6
  go_loopw [10, 5] (fun i y wr => ∃ (j m x : Nat), j ≤ E.length ∧ i = .int .i64 j ∧ y = .int .i64 x ∧ Hid (x < 2 ^ 16) ∧ Hid (okE k x (E.drop j)) ∧ Hid (((fin' k x (E.drop j) : Nat) : Int) = T) ∧ wr = w7.drewN m) (fun i _ _ => E.length - (intOf i).toNat)
  case atStart => exact ⟨0, 0, x0, Nat.zero_le _, rfl, rfl, H2, H3, H5, rfl⟩
  case round =>
    obtain ⟨j, m, x, hj, rfl, rfl, HX, HO, HT, rfl⟩ := hrel
    by_cases hlt : j < E.length
    · obtain ⟨_, _, e1, q1⟩ := R7.out
      obtain ⟨gE, oE, rfl, hgE, hc⟩ := q1 (by omega)
      simp only [Value.slice.injEq, true_and, and_true] at e1
      obtain ⟨rfl, rfl⟩ := e1
      obtain ⟨f0, f1, f2⟩ := arg_three hc j hlt
      obtain ⟨cN, hcN, hcn⟩ := H7.out E[j] (List.getElem_mem hlt)
      have hO := HO.out
      have hT := HT.out
      rw [List.drop_eq_getElem_cons hlt] at hO hT
      have HO1 := Lib.hid hO.1
      have HO2 := Lib.hid hO.2
      have HT2 : Hid (((fin' k (tg k x E[j]) (E.drop (j + 1)) : Nat) : Int) = T) := Lib.hid hT
      have HC := Lib.hid hc
      have HS := Lib.hid (fun q (hq : q + 1 = j) => H6.out q j (by omega) hlt (by omega))
      rw [hcN] at f1
      have hcn2 : (cN : Int) < n := by omega
      have hcn3 : ¬ (n : Int) ≤ cN := by omega
      have hcn4 : ¬ (cN : Int) < 0 := by omega
      have d2 : decide (n ≤ cN) = false := decide_eq_false (by omega)
      have d3 : decide ((n : Int) ≤ cN) = false := decide_eq_false (by omega)
      have d4 : decide ((cN : Int) < 0) = false := decide_eq_false (by omega)
      clear hO hT HO HT q1 hc
      have hcT : E[j].2.1.toNat = cN := by rw [hcN]; exact Int.toNat_natCast _
      have htg : tg k x E[j] = if E[j].1 ≤ k then x ^^^ 2 ^ cN else x := by unfold tg; rw [hcT]
      rw [hcT] at HO1
      rw [htg] at HO2 HT2
      clear hcT htg
      rcases Nat.eq_zero_or_pos j with h0 | h0
      · subst h0
        clear hcN HC HS
        have HC := Lib.hid True.intro
        have HS := Lib.hid True.intro
        simp only [Nat.zero_mul, Nat.add_zero] at f0 f1 f2
        have hE0 : (0 : Int) < E.length := by omega
        have hz0 : ((0 : Nat) : Int) = 0 := rfl
        rw [hz0]
        clear hz0
        generalize E[0].1 = t at *
        generalize E[0].2.2 = v at *
        by_cases ht : t ≤ k
        · have hv := HO1.out ht
          rw [if_pos ht] at HO2 HT2
          have hx := HX.out
          have hx1 : (x : Int) < 65536 := by omega
          have a1 := shr_and2 (x : Int) cN (by omega) (by omega)
          have s1 := (shl_1 (V := cN) (by omega)).1
          have a3 := xor_nat x cN hx (by omega)
          have HX2 : Hid (x ^^^ 2 ^ cN < 2 ^ 16) := Lib.hid (Nat.xor_lt_two_pow hx (Nat.pow_lt_pow_right (by omega) (by omega)))
          have hne : (bt (x : Int) cN == v) = false := by simpa using hv
          clear hv HO1 HS HC HX hx
          generalize bt (x : Int) cN = z at *
          go_wp2
          go_big_quiet (fail)
          obtain ⟨m2, hm2⟩ : ∃ m2, (w7.drewN m).drewN nq = w7.drewN m2 := ⟨m + nq, World.drewN_drewN _ _ _⟩
          rw [hm2]
          clear hm2
          go_wp2
          go_big_quiet (fail)
          go_wp2
          go_roundw
          case rel => exact ⟨0 + 1, m2 + nq, _, by omega, by first | go_num | (exact val_int (by omega)), congrArg (Value.int .i64) a3, HX2, HO2, HT2, rfl⟩
          case measure => simp [intOf]; omega
        · rw [if_neg ht] at HO2 HT2
          clear HO1 HS HC
          go_wp2
          go_big_quiet (fail)
          go_wp2
          go_roundw
          case rel => exact ⟨0 + 1, m + nq, x, by omega, by first | go_num | (exact val_int (by omega)), rfl, HX, HO2, HT2, rfl⟩
          case measure => simp [intOf]; omega
      · obtain ⟨q, hq⟩ : ∃ q, q + 1 = j := ⟨j - 1, by omega⟩
        obtain ⟨p0, p1, p2⟩ := arg_three HC.out q (by omega)
        have hs := HS.out q hq
        unfold lt2 at hs
        rw [hcN] at hs
        clear hcN p2 h0
        have hq0 : (0 : Int) < (j : Int) := by omega
        have hqd : decide ((0 : Int) < (j : Int)) = true := decide_eq_true hq0
        have hqe : ((j : Int) == 0) = false := by simp; omega
        have hq5 : 0 < j := by omega
        have hq6 : decide (0 < j) = true := decide_eq_true hq5
        have hi1 : (j : Int) < E.length := by omega
        have hi2 : (q : Int) < E.length := by omega
        have v1 : IntKind.i64.wrap ((j : Int) - 1) = q := by rw [show (j : Int) - 1 = (q : Int) by omega]; exact IntWalk.i64_in _ (by omega)
        generalize E[j].1 = t at *
        generalize E[j].2.2 = v at *
        generalize E[q].1 = t' at *
        generalize E[q].2.1 = c' at *
        rcases hs with hs | ⟨hs, hs2⟩
        · have b1 : ¬ t < t' := by omega
          have b2 : (t == t') = false := by simp; omega
          have b3 : decide (t < t') = false := decide_eq_false b1
          clear hs
          by_cases ht : t ≤ k
          · have hv := HO1.out ht
            rw [if_pos ht] at HO2 HT2
            have hx := HX.out
            have hx1 : (x : Int) < 65536 := by omega
            have a1 := shr_and2 (x : Int) cN (by omega) (by omega)
            have s1 := (shl_1 (V := cN) (by omega)).1
            have a3 := xor_nat x cN hx (by omega)
            have HX2 : Hid (x ^^^ 2 ^ cN < 2 ^ 16) := Lib.hid (Nat.xor_lt_two_pow hx (Nat.pow_lt_pow_right (by omega) (by omega)))
            have hne : (bt (x : Int) cN == v) = false := by simpa using hv
            clear hv HO1 HS HC HX hx
            generalize bt (x : Int) cN = z at *
            go_wp2
            go_big_quiet (fail)
            obtain ⟨m2, hm2⟩ : ∃ m2, (w7.drewN m).drewN nq = w7.drewN m2 := ⟨m + nq, World.drewN_drewN _ _ _⟩
            rw [hm2]
            clear hm2
            go_wp2
            go_big_quiet (fail)
            go_wp2
            go_roundw
            case rel => exact ⟨j + 1, m2 + nq, _, by omega, by first | go_num | (exact val_int (by omega)), congrArg (Value.int .i64) a3, HX2, HO2, HT2, rfl⟩
            case measure => simp [intOf]; omega
          · rw [if_neg ht] at HO2 HT2
            clear HO1 HS HC
            go_wp2
            go_big_quiet (fail)
            go_wp2
            go_roundw
            case rel => exact ⟨j + 1, m + nq, x, by omega, by first | go_num | (exact val_int (by omega)), rfl, HX, HO2, HT2, rfl⟩
            case measure => simp [intOf]; omega
        · subst hs
          have b1 : ¬ (cN : Int) ≤ c' := by omega
          have b3 : decide ((cN : Int) ≤ c') = false := decide_eq_false b1
          have b4 : decide (t' < t') = false := decide_eq_false (by omega)
          have b5 : (t' == t') = true := by simp
          clear hs2
          by_cases ht : t' ≤ k
          · have hv := HO1.out ht
            rw [if_pos ht] at HO2 HT2
            have hx := HX.out
            have hx1 : (x : Int) < 65536 := by omega
            have a1 := shr_and2 (x : Int) cN (by omega) (by omega)
            have s1 := (shl_1 (V := cN) (by omega)).1
            have a3 := xor_nat x cN hx (by omega)
            have HX2 : Hid (x ^^^ 2 ^ cN < 2 ^ 16) := Lib.hid (Nat.xor_lt_two_pow hx (Nat.pow_lt_pow_right (by omega) (by omega)))
            have hne : (bt (x : Int) cN == v) = false := by simpa using hv
            clear hv HO1 HS HC HX hx
            generalize bt (x : Int) cN = z at *
            go_wp2
            go_big_quiet (fail)
            obtain ⟨m2, hm2⟩ : ∃ m2, (w7.drewN m).drewN nq = w7.drewN m2 := ⟨m + nq, World.drewN_drewN _ _ _⟩
            rw [hm2]
            clear hm2
            go_wp2
            go_big_quiet (fail)
            go_wp2
            go_roundw
            case rel => exact ⟨j + 1, m2 + nq, _, by omega, by first | go_num | (exact val_int (by omega)), congrArg (Value.int .i64) a3, HX2, HO2, HT2, rfl⟩
            case measure => simp [intOf]; omega
          · rw [if_neg ht] at HO2 HT2
            clear HO1 HS HC
            go_wp2
            go_big_quiet (fail)
            go_wp2
            go_roundw
            case rel => exact ⟨j + 1, m + nq, x, by omega, by first | go_num | (exact val_int (by omega)), rfl, HX, HO2, HT2, rfl⟩
            case measure => simp [intOf]; omega
    · have hE : E.drop j = [] := List.drop_eq_nil_of_le (by omega)
      have hT := HT.out
      rw [hE] at hT
      have hT2 : (x : Int) = T := hT
      subst hT2
      have hxx : ((x : Int) == (x : Int)) = true := by simp
      clear hT hE HT HO
      go_wp2
      go_returns
      exact ⟨rfl, Go.below_drewN B7.out _⟩

end Go.Proofs.Ytillcmddbjhepaa
