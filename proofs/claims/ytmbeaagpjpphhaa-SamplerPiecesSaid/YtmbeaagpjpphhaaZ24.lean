/-
  The law of one constant level (SamplerGrid).
  Levels divided, plain.
  Layer 15: a bit time among the arguments; the law of one constant level.
-/
import Derived.Test.YtmbeaagpjpphhaaZ23
import Derived.Test.YtmbeaagpjpphhaaZ18
namespace Go.Proofs.Ytmbeaagpjpphhaa
open Go Go.RowKit Go.Joins
set_option linter.unusedVariables false
set_option linter.unusedSimpArgs false

theorem grid_list {N D f tk v : Int} (h : Bt N D) (h0 : 0 ≤ f) (h1 : 1 ≤ tk) (h2 : f + tk ≤ 1099511627776) (hv : v = 0 ∨ v = 1) : (smR N D [⟨1, f, f + tk, v, 0, [], 0⟩]).o = bitsE N D f v false 0 (cnt N D tk).toNat := by
  have hA : AcM ⟨0, 0, 0, 0, []⟩ ⟨1, f, f + tk, v, 0, [], 0⟩ := by
    refine ⟨⟨by dsimp only; omega, by dsimp only; omega, h0, by dsimp only; omega, by dsimp only; omega, by simp, by dsimp only; omega, by dsimp only; omega, by dsimp only; omega, by dsimp only; omega, by dsimp only; omega, by dsimp only; omega⟩, rfl, rfl, by dsimp only; omega, hv, .inl rfl⟩
  have hz := cnt_zero h
  show (smS N D ⟨0, 0, 0, 0, []⟩ ⟨1, f, f + tk, v, 0, [], 0⟩).o = _
  unfold smS
  rw [if_pos hA]
  simp only [List.nil_append]
  unfold oF pF fF
  simp only [if_true]
  rw [show f - f = 0 by omega, show f + tk - f = tk by omega, hz, Int.sub_zero]
  rfl
theorem bits_get (N D f v : Int) (n : Nat) (i : Nat) (hi : i < (bitsE N D f v false 0 n).length) : (bitsE N D f v false 0 n)[i] = ⟨2, f + bdI N D i, min (f + bdI N D ((i : Int) + 1)) 1099511627776, v, 0, [], 0⟩ := by
  simp [bitsE, bitE]
theorem grid_at {N D f tk : Int} (h : Bt N D) (h0 : 0 ≤ f) (h2 : f + tk ≤ 1099511627776) {j : Int} (hj0 : 0 ≤ j) (hj : j < cnt N D tk) : min (f + bdI N D j) 1099511627776 = f + bdI N D j ∧ f + bdI N D j < f + tk ∧ f + bdI N D j < min (f + bdI N D (j + 1)) 1099511627776 ∧ 0 ≤ bdI N D j := by
  have a := (cnt_iff h tk j).2 hj
  have b := (sm_bd h j).1
  have c := (bd_next h j).1
  have d : 0 ≤ bdI N D j := sc_nn h.d1 hj0 (by have := h.d1; have := h.n1; omega)
  refine ⟨Int.min_eq_left (by omega), by omega, ?_, d⟩
  rw [Int.lt_min]
  omega
theorem grid_end {N D f tk : Int} (h : Bt N D) (h0 : 0 ≤ f) (h1 : 1 ≤ tk) (h2 : f + tk ≤ 1099511627776) : 2 * (f + tk - min (f + bdI N D (cnt N D tk)) 1099511627776 - 1) * D ≤ N ∧ -4194304 ≤ f + tk - min (f + bdI N D (cnt N D tk)) 1099511627776 ∧ f + tk - min (f + bdI N D (cnt N D tk)) 1099511627776 ≤ 4194304 := by
  have c0 := cnt_nn h (show (0 : Int) ≤ tk by omega)
  have hi := cnt_high h tk
  have lo := cnt_low h tk
  generalize cnt N D tk = c at *
  have s1 := (sm_bd h c).2
  have n1 := (bd_next h c).2
  have lo2 : bdI N D c ≤ tk + 1048577 := by
    by_cases hc : c = 0
    · subst hc; rw [bd_zero]; omega
    · have a := (bd_next h (c - 1)).2
      rw [show c - 1 + 1 = c by omega] at a
      have b := (sm_bd h (c - 1)).1
      omega
  obtain ⟨d1, d2, m1, m2, m3⟩ := h
  by_cases hm : f + bdI N D c ≤ 1099511627776
  · rw [Int.min_eq_left hm]
    refine ⟨?_, by omega, by omega⟩
    have x1 := sc_low (2 * c + 1) N (2 * D) (by omega)
    have x2 := sc_high c N D d1
    have e1 : sc (2 * c + 1) N (2 * D) = smI N D c := rfl
    have e2 : sc c N D = bdI N D c := rfl
    rw [e1] at x1; rw [e2] at x2
    have y1 : (f + tk - (f + bdI N D c) - 1) * (2 * D) ≤ (smI N D c - bdI N D c - 1) * (2 * D) := Int.mul_le_mul_of_nonneg_right (by omega) (by omega)
    have y2 : (smI N D c - bdI N D c - 1) * (2 * D) = smI N D c * (2 * D) - bdI N D c * (2 * D) - 2 * D := by rw [Int.sub_mul, Int.sub_mul]; omega
    have y3 : (2 * c + 1) * N = 2 * (c * N) + N := by rw [Int.add_mul, Int.mul_assoc]; omega
    have y4 : (bdI N D c + 1) * D = bdI N D c * D + D := by rw [Int.add_mul]; omega
    have y5 : bdI N D c * (2 * D) = 2 * (bdI N D c * D) := Int.mul_left_comm _ _ _
    have y6 : 2 * (f + tk - (f + bdI N D c) - 1) * D = (f + tk - (f + bdI N D c) - 1) * (2 * D) := by rw [Int.mul_comm 2, Int.mul_assoc]
    rw [y6]
    rw [y3] at x1; rw [y4] at x2
    omega
  · rw [Int.min_eq_right (by omega)]
    refine ⟨?_, by omega, by omega⟩
    have : 2 * (f + tk - 1099511627776 - 1) * D ≤ 0 := Int.mul_nonpos_of_nonpos_of_nonneg (by omega) (by omega)
    omega

theorem one_clock (w : World) (N D : Int) : ∃ W b, W = w.alloc (.cells #[.int .i64 N, .int .i64 D] 25) ∧ b = w.heap.size ∧ b < W.heap.size ∧ RowAt W b 25 #[.int .i64 N, .int .i64 D] ∧ Below w.heap.size w W :=
  ⟨_, _, rfl, rfl, by rw [World.size_alloc]; omega, RowAt.new w _ _, ba _ _⟩

set_option maxRecDepth 20000 in
set_option maxHeartbeats 8000000 in
theorem grid_bad (N D f tk v : Int) (w : World) (hN0 : -9223372036854775808 ≤ N) (hN1 : N ≤ 9223372036854775807) (hD0 : -9223372036854775808 ≤ D) (hD1 : D ≤ 9223372036854775807) (hk : ckE N D ≠ 0) :
    Calls Try.prog 8 #[rat N D, .int .i64 f, .int .i64 tk, .int .i64 v] w fun e w' => e = .returned (.bool true) ∧ Below w.heap.size w w' := by
  have CL := Lib.hid lives15_any
  have CK := Lib.hid (fun W => refCheck_any N D W hN0 hN1 hD0 hD1)
  have hk' : (ckE N D != 0) = true := by simpa using hk
  generalize ckE N D = KE at *
  obtain ⟨W, b, eW, eb, lb, r0, B0⟩ := one_clock w N D
  have HB0 := Lib.hid B0; have H0 := Lib.hid r0
  clear r0 B0
  go_enter Try.func8, Try.ntmps8
  go_wp2_with (first
    | (rw [← eW, ← eb]; clear eW eb; go_at_call 16; go_must (refine (CL.out _).mono ?_; rintro e1 w1 ⟨rfl, b1⟩; have B1 := Lib.hid (HB0.out.trans (b1.mono HB0.out.size)); obtain ⟨c0, c1⟩ := row2 (H0.out.keep b1)))
    | (go_at_call 19; go_must (refine (CK.out _).mono ?_; rintro e2 w2 ⟨rfl, b2⟩; have B2 := Lib.hid (B1.out.trans (b2.mono B1.out.size))))
    | fail)
  go_returns
  exact ⟨rfl, B2.out⟩

set_option maxRecDepth 20000 in
set_option maxHeartbeats 8000000 in
theorem grid_good (N D f tk v : Int) (w : World) (hk : ckE N D = 0) :
    Calls Try.prog 8 #[rat N D, .int .i64 f, .int .i64 tk, .int .i64 v] w fun e w' => e = .returned (.bool true) ∧ Below w.heap.size w w' := by
  have h := ck_bt hk
  have CL := Lib.hid lives15_any
  have CK : Hid (∀ W, Calls Try.prog 19 #[rat N D] W fun e w' => e = .returned (.int .i64 0) ∧ Below W.heap.size W w') := Lib.hid fun W => by have hh := refCheck_any N D W (by have := h.n1; have := h.d1; omega) (by have := h.n2; omega) (by have := h.d1; omega) (by have := h.d2; omega); rwa [hk] at hh
  obtain ⟨W, b, eW, eb, lb, r0, B0⟩ := one_clock w N D
  have HB0 := Lib.hid B0; have H0 := Lib.hid r0
  obtain ⟨q0, q1, q2, q3, q4, q5⟩ : 4 ≤ N / D ∧ N / D ≤ 2147483648 ∧ 1 ≤ D ∧ D ≤ 2147483648 ∧ 4 ≤ N ∧ N ≤ 2147483648 := by
    obtain ⟨d1, d2, n1, n2, n3⟩ := h
    exact ⟨Int.le_ediv_of_mul_le (by omega) (by omega), Int.le_trans (Int.ediv_le_self _ (by omega)) (by omega), d1, by omega, by omega, by omega⟩
  have HBt := Lib.hid h
  clear r0 B0 h
  by_cases h1 : f < 0
  · have dh1 : decide (f < 0) = true := decide_eq_true h1
    clear HBt hk
    go_enter Try.func8, Try.ntmps8
    go_wp2_with (first
      | (rw [← eW, ← eb]; clear eW eb; go_at_call 16; go_must (refine (CL.out _).mono ?_; rintro e1 w1 ⟨rfl, b1⟩; have B1 := Lib.hid (HB0.out.trans (b1.mono HB0.out.size)); have R1 := Lib.hid (H0.out.keep b1); obtain ⟨c0, c1⟩ := row2 R1.out; have lb1 := R1.out.lt))
      | (go_at_call 19; go_must (refine (CK.out _).mono ?_; rintro e2 w2 ⟨rfl, b2⟩; have B2 := Lib.hid (B1.out.trans (b2.mono B1.out.size)); have R2 := Lib.hid (R1.out.keep b2); obtain ⟨c0, c1⟩ := row2 R2.out; have lb2 := R2.out.lt))
      | fail)
    go_returns
    exact ⟨rfl, B2.out⟩
  have dh1 : decide (f < 0) = false := decide_eq_false h1
  replace h1 : 0 ≤ f := by omega
  by_cases h2 : 549755813888 < f
  · have dh2 : decide (549755813888 < f) = true := decide_eq_true h2
    clear HBt hk
    go_enter Try.func8, Try.ntmps8
    go_wp2_with (first
      | (rw [← eW, ← eb]; clear eW eb; go_at_call 16; go_must (refine (CL.out _).mono ?_; rintro e1 w1 ⟨rfl, b1⟩; have B1 := Lib.hid (HB0.out.trans (b1.mono HB0.out.size)); have R1 := Lib.hid (H0.out.keep b1); obtain ⟨c0, c1⟩ := row2 R1.out; have lb1 := R1.out.lt))
      | (go_at_call 19; go_must (refine (CK.out _).mono ?_; rintro e2 w2 ⟨rfl, b2⟩; have B2 := Lib.hid (B1.out.trans (b2.mono B1.out.size)); have R2 := Lib.hid (R1.out.keep b2); obtain ⟨c0, c1⟩ := row2 R2.out; have lb2 := R2.out.lt))
      | fail)
    go_returns
    exact ⟨rfl, B2.out⟩
  have dh2 : decide (549755813888 < f) = false := decide_eq_false h2
  replace h2 : f ≤ 549755813888 := by omega
  by_cases h3 : tk < 1
  · have dh3 : decide (tk < 1) = true := decide_eq_true h3
    clear HBt hk
    go_enter Try.func8, Try.ntmps8
    go_wp2_with (first
      | (rw [← eW, ← eb]; clear eW eb; go_at_call 16; go_must (refine (CL.out _).mono ?_; rintro e1 w1 ⟨rfl, b1⟩; have B1 := Lib.hid (HB0.out.trans (b1.mono HB0.out.size)); have R1 := Lib.hid (H0.out.keep b1); obtain ⟨c0, c1⟩ := row2 R1.out; have lb1 := R1.out.lt))
      | (go_at_call 19; go_must (refine (CK.out _).mono ?_; rintro e2 w2 ⟨rfl, b2⟩; have B2 := Lib.hid (B1.out.trans (b2.mono B1.out.size)); have R2 := Lib.hid (R1.out.keep b2); obtain ⟨c0, c1⟩ := row2 R2.out; have lb2 := R2.out.lt))
      | fail)
    go_returns
    exact ⟨rfl, B2.out⟩
  have dh3 : decide (tk < 1) = false := decide_eq_false h3
  replace h3 : 1 ≤ tk := by omega
  by_cases h4 : 549755813888 < tk
  · have dh4 : decide (549755813888 < tk) = true := decide_eq_true h4
    clear HBt hk
    go_enter Try.func8, Try.ntmps8
    go_wp2_with (first
      | (rw [← eW, ← eb]; clear eW eb; go_at_call 16; go_must (refine (CL.out _).mono ?_; rintro e1 w1 ⟨rfl, b1⟩; have B1 := Lib.hid (HB0.out.trans (b1.mono HB0.out.size)); have R1 := Lib.hid (H0.out.keep b1); obtain ⟨c0, c1⟩ := row2 R1.out; have lb1 := R1.out.lt))
      | (go_at_call 19; go_must (refine (CK.out _).mono ?_; rintro e2 w2 ⟨rfl, b2⟩; have B2 := Lib.hid (B1.out.trans (b2.mono B1.out.size)); have R2 := Lib.hid (R1.out.keep b2); obtain ⟨c0, c1⟩ := row2 R2.out; have lb2 := R2.out.lt))
      | fail)
    go_returns
    exact ⟨rfl, B2.out⟩
  have dh4 : decide (549755813888 < tk) = false := decide_eq_false h4
  replace h4 : tk ≤ 549755813888 := by omega
  have q6 : 0 ≤ tk / (N / D) := Int.ediv_nonneg (by omega) (by omega)
  have q7 : tk / (N / D) ≤ tk := Int.ediv_le_self _ (by omega)
  by_cases h5 : 10000 < tk / (N / D)
  · have dh5 : decide (10000 < tk / (N / D)) = true := decide_eq_true h5
    clear HBt hk
    go_enter Try.func8, Try.ntmps8
    go_wp2_with (first
      | (rw [← eW, ← eb]; clear eW eb; go_at_call 16; go_must (refine (CL.out _).mono ?_; rintro e1 w1 ⟨rfl, b1⟩; have B1 := Lib.hid (HB0.out.trans (b1.mono HB0.out.size)); have R1 := Lib.hid (H0.out.keep b1); obtain ⟨c0, c1⟩ := row2 R1.out; have lb1 := R1.out.lt))
      | (go_at_call 19; go_must (refine (CK.out _).mono ?_; rintro e2 w2 ⟨rfl, b2⟩; have B2 := Lib.hid (B1.out.trans (b2.mono B1.out.size)); have R2 := Lib.hid (R1.out.keep b2); obtain ⟨c0, c1⟩ := row2 R2.out; have lb2 := R2.out.lt))
      | fail)
    go_returns
    exact ⟨rfl, B2.out⟩
  have dh5 : decide (10000 < tk / (N / D)) = false := decide_eq_false h5
  replace h5 : tk / (N / D) ≤ 10000 := by omega
  by_cases h6 : v < 0
  · have dh6 : decide (v < 0) = true := decide_eq_true h6
    clear HBt hk
    go_enter Try.func8, Try.ntmps8
    go_wp2_with (first
      | (rw [← eW, ← eb]; clear eW eb; go_at_call 16; go_must (refine (CL.out _).mono ?_; rintro e1 w1 ⟨rfl, b1⟩; have B1 := Lib.hid (HB0.out.trans (b1.mono HB0.out.size)); have R1 := Lib.hid (H0.out.keep b1); obtain ⟨c0, c1⟩ := row2 R1.out; have lb1 := R1.out.lt))
      | (go_at_call 19; go_must (refine (CK.out _).mono ?_; rintro e2 w2 ⟨rfl, b2⟩; have B2 := Lib.hid (B1.out.trans (b2.mono B1.out.size)); have R2 := Lib.hid (R1.out.keep b2); obtain ⟨c0, c1⟩ := row2 R2.out; have lb2 := R2.out.lt))
      | fail)
    go_returns
    exact ⟨rfl, B2.out⟩
  have dh6 : decide (v < 0) = false := decide_eq_false h6
  replace h6 : 0 ≤ v := by omega
  by_cases h7 : 1 < v
  · have dh7 : decide (1 < v) = true := decide_eq_true h7
    clear HBt hk
    go_enter Try.func8, Try.ntmps8
    go_wp2_with (first
      | (rw [← eW, ← eb]; clear eW eb; go_at_call 16; go_must (refine (CL.out _).mono ?_; rintro e1 w1 ⟨rfl, b1⟩; have B1 := Lib.hid (HB0.out.trans (b1.mono HB0.out.size)); have R1 := Lib.hid (H0.out.keep b1); obtain ⟨c0, c1⟩ := row2 R1.out; have lb1 := R1.out.lt))
      | (go_at_call 19; go_must (refine (CK.out _).mono ?_; rintro e2 w2 ⟨rfl, b2⟩; have B2 := Lib.hid (B1.out.trans (b2.mono B1.out.size)); have R2 := Lib.hid (R1.out.keep b2); obtain ⟨c0, c1⟩ := row2 R2.out; have lb2 := R2.out.lt))
      | fail)
    go_returns
    exact ⟨rfl, B2.out⟩
  have dh7 : decide (1 < v) = false := decide_eq_false h7
  replace h7 : v ≤ 1 := by omega
  have HL := Lib.hid (grid_list (v := v) HBt.out h1 h3 (by omega) (by omega))
  have CD := Lib.hid (fun V W hT => mdecode_yes N D [⟨1, f, f + tk, v, 0, [], 0⟩] V W hk hT (by simp) (by intro j hj; simp only [List.length_cons, List.length_nil] at hj; obtain rfl : j = 0 := (by omega); simp))
  rw [HL.out] at CD
  have HC0 := cnt_nn HBt.out (show (0 : Int) ≤ tk by omega)
  obtain ⟨n, hn⟩ := Int.eq_ofNat_of_zero_le HC0
  have HAt : Hid (∀ j : Int, 0 ≤ j → j < n → min (f + bdI N D j) 1099511627776 = f + bdI N D j ∧ f + bdI N D j < f + tk ∧ f + bdI N D j < min (f + bdI N D (j + 1)) 1099511627776 ∧ 0 ≤ bdI N D j) := Lib.hid fun j a b => grid_at HBt.out h1 (by omega) a (by rw [hn]; exact b)
  have HEnd := Lib.hid (grid_end HBt.out h1 h3 (show f + tk ≤ 1099511627776 by omega))
  rw [hn] at HEnd CD
  rw [Int.toNat_natCast] at CD
  have HG := Lib.hid (fun i hi => bits_get N D f v n i hi)
  have hGl := bitsE_len N D f v false 0 n
  have hnn : n ≤ 1099511627776 := by
    have := cnt_le HBt.out (show (0 : Int) ≤ tk by omega)
    omega
  generalize bitsE N D f v false 0 n = G at *
  have HGl := Lib.hid hGl
  obtain ⟨ft, hft⟩ : ∃ x, x = f + tk := ⟨_, rfl⟩
  have w1' : IntKind.i64.wrap (f + tk) = ft := by rw [hft]; exact IntWalk.i64_in _ (by omega)
  rw [← hft] at HAt HEnd CD
  have hz : bdI N D 0 = 0 := bd_zero N D
  have HE0 : Hid (f = min (f + bdI N D 0) 1099511627776) := Lib.hid (by rw [hz]; rw [Int.min_eq_left (by omega)]; omega)
  have hnum : (n : Int) ≤ 1099511627776 := by omega
  clear hGl HL hn HC0 hz hk hft
  have LX := Lib.hid (fun W => (KRow.lit (T := 44) evC_size W W.heap.size (Nat.le_refl _) [⟨1, f, ft, v, 0, [], 0⟩] #[.int .i64 1, .int .i64 f, .int .i64 ft, .int .i64 v, .int .i64 0, .string ⟨#[]⟩, .int .i64 0] (by simp [kCs, evC]) 1 rfl (by simp)).arg evC_size)
  go_enter Try.func8, Try.ntmps8
  go_wp2_with (first
    | (rw [← eW, ← eb]; clear eW eb; go_at_call 16; go_must (refine (CL.out _).mono ?_; rintro e1 w1 ⟨rfl, b1⟩; have B1 := Lib.hid (HB0.out.trans (b1.mono HB0.out.size)); have R1 := Lib.hid (H0.out.keep b1); obtain ⟨c0, c1⟩ := row2 R1.out; have lb1 := R1.out.lt))
    | (go_at_call 19; go_must (refine (CK.out _).mono ?_; rintro e2 w2 ⟨rfl, b2⟩; have B2 := Lib.hid (B1.out.trans (b2.mono B1.out.size)); have R2 := Lib.hid (R1.out.keep b2); obtain ⟨c0, c1⟩ := row2 R2.out; have lb2 := R2.out.lt))
    | (go_at_call 27; go_must (refine (CD.out _ _ (LX.out w2)).mono ?_; rintro e3 w3 ⟨V3, rfl, v3, b3⟩; have B3 := Lib.hid (B2.out.trans (((ba w2 _).trans (b3.mono (by rw [World.size_alloc]; omega))).mono B2.out.size)); have R3 := Lib.hid ((R2.out.alloc (.cells #[.int .i64 1, .int .i64 f, .int .i64 ft, .int .i64 v, .int .i64 0, .string ⟨#[]⟩, .int .i64 0] 44)).keep b3); obtain ⟨A3, c3, rfl, hA3⟩ := v3.arg evC_size; have H3 := Lib.hid hA3; clear hA3 v3 b3))
    | fail)
  go_loopw [11, 10] (fun i e wr => ∃ (j : Nat), j ≤ n ∧ i = .int .i64 j ∧ e = .int .i64 (min (f + bdI N D j) 1099511627776) ∧ Hid (Below w3.heap.size w3 wr)) (fun i _ _ => n - (intOf i).toNat)
  case atStart => exact ⟨0, Nat.zero_le _, rfl, by rw [show ((0 : Nat) : Int) = 0 from rfl, ← HE0.out], Lib.hid (Below.refl _ _)⟩
  case round =>
    obtain ⟨j, hj, rfl, rfl, HBx⟩ := hrel
    have hb := HBx.out
    by_cases hjn : j < n
    · have hjG : j < G.length := by have := HGl.out; omega
      obtain ⟨g, o, rfl, hg, hc⟩ := H3.out (by omega)
      obtain ⟨a0, a1, a2, a3, a4, a5, a6⟩ := arg_seven hc j hjG
      have hgj := HG.out j hjG
      rw [hgj] at a0 a1 a2 a3 a4 a5 a6
      simp only at a1 a2 a3 a6
      have f1 := (hb.cell (p := ⟨g, o + j * 7 + 1, none⟩) hg).trans a1
      have f2 := (hb.cell (p := ⟨g, o + j * 7 + 2, none⟩) hg).trans a2
      have f3 := (hb.cell (p := ⟨g, o + j * 7 + 3, none⟩) hg).trans a3
      have f6 := (hb.cell (p := ⟨g, o + j * 7 + 6, none⟩) hg).trans a6
      obtain ⟨p0, p1, p2, p3⟩ := HAt.out j (by omega) (by omega)
      clear a0 a1 a2 a3 a4 a5 a6 hc hgj
      have HN : Hid (min (f + bdI N D ((j + 1 : Nat) : Int)) 1099511627776 = min (f + bdI N D ((j : Int) + 1)) 1099511627776) := Lib.hid (by rw [show ((j + 1 : Nat) : Int) = (j : Int) + 1 by omega])
      rw [p0]
      generalize f + bdI N D (j : Int) = F at *
      generalize min (f + bdI N D ((j : Int) + 1)) 1099511627776 = TT at *
      have d4 : decide (TT ≤ F) = false := decide_eq_false (by omega)
      have d5 : decide (ft ≤ F) = false := decide_eq_false (by omega)
      have d6 : (F != F) = false := by simp
      have d7 : (v != v) = false := by simp
      have hj0 : (0 : Int) ≤ j := by omega
      have hj1 : (j : Int) < G.length := by omega
      have hgl := Lib.hid hg
      clear p0 p1 p2 p3 hg
      go_wp2
      go_region
      go_wp2
      go_roundw
      case rel => exact ⟨j + 1, by omega, val_int (by omega), by rw [HN.out], Lib.hid (by first | exact hb.drew | exact hb)⟩
      case measure => simp [intOf]; omega
    · obtain rfl : j = n := by omega
      have hjG : ¬ (j : Int) < G.length := by have := HGl.out; omega
      obtain ⟨c0, c1⟩ := row2 (R3.out.keep hb)
      have lb3 := (R3.out.keep hb).lt
      obtain ⟨y0, y1, y2⟩ := HEnd.out
      have BF := Lib.hid (B3.out.trans (hb.mono B3.out.size))
      generalize min (f + bdI N D (j : Int)) 1099511627776 = E at *
      have u1 : IntKind.i64.wrap (ft - E) = ft - E := IntWalk.i64_in _ (by omega)
      have u2 : IntKind.i64.wrap (ft - E - 1) = ft - E - 1 := IntWalk.i64_in _ (by omega)
      have u3 : IntKind.i64.wrap (2 * (ft - E - 1)) = 2 * (ft - E - 1) := IntWalk.i64_in _ (by omega)
      have z1 : 2 * (ft - E - 1) * D ≤ 8388608 * D := Int.mul_le_mul_of_nonneg_right (by omega) (by omega)
      have z2 : -8388610 * D ≤ 2 * (ft - E - 1) * D := Int.mul_le_mul_of_nonneg_right (by omega) (by omega)
      have u4 : IntKind.i64.wrap (2 * (ft - E - 1) * D) = 2 * (ft - E - 1) * D := IntWalk.i64_in _ (by omega)
      have u5 : decide (2 * (ft - E - 1) * D ≤ N) = true := decide_eq_true y0
      clear y0 y1 y2 z1 z2 hnum
      go_wp2
      go_returns
      exact ⟨rfl, BF.out⟩

end Go.Proofs.Ytmbeaagpjpphhaa

namespace Go.Proofs.Ytmbeaagpjpphhaa
open Go
set_option linter.unusedVariables false

theorem bitsE_join (N D r v : Int) (x x' : Bool) (k : Int) (n m : Nat) (hx : x' = (x && decide (n = 0))) : bitsE N D r v x k n ++ bitsE N D r v x' (k + n) m = bitsE N D r v x k (n + m) := by
  induction m with
  | zero => simp [bitsE]
  | succ m ih =>
    rw [bitsE_snoc, ← List.append_assoc, ih, show n + (m + 1) = (n + m) + 1 by omega, bitsE_snoc]
    congr 2
    have e1 : k + (n : Int) + (m : Int) = k + ((n + m : Nat) : Int) := by omega
    rw [e1, hx]
    congr 1
    cases x <;> simp <;> omega
theorem smS_two {N D : Int} (h : Bt N D) {m : MS} {k f c t v a : Int} {d : List UInt8} {u : Int} (hr : RcM m) (hA : AcM m ⟨k, f, t, v, a, d, u⟩) (h1 : f < c) (h2 : c < t) :
    smS N D (smS N D m ⟨k, f, c, v, a, d, u⟩) ⟨k, c, t, v, a, d, u⟩ = smS N D m ⟨k, f, t, v, a, d, u⟩ := by
  obtain ⟨⟨y1, y2, y3, y4, y5, y6, y7, y8, y9, y10, y11, y12⟩, b1, b2, b3, b4, b5⟩ := hA
  simp only at y1 y2 y3 y4 y5 y6 y7 y8 y9 y10 y11 y12 b1 b2 b3 b4 b5
  have hA0 : AcM m ⟨k, f, t, v, a, d, u⟩ := ⟨⟨y1, y2, y3, y4, y5, y6, y7, y8, y9, y10, y11, y12⟩, b1, b2, b3, b4, b5⟩
  have hA1 : AcM m ⟨k, f, c, v, a, d, u⟩ := ⟨⟨y1, y2, y3, by dsimp only; omega, by dsimp only; omega, by first | exact y6 | (dsimp only; omega), by first | exact y7 | (dsimp only; omega), by first | exact y8 | (dsimp only; omega), by first | exact y9 | (dsimp only; omega), by first | exact y10 | (dsimp only; omega), by first | exact y11 | (dsimp only; omega), by first | exact y12 | (dsimp only; omega)⟩, b1, b2, by dsimp only; omega, b4, b5⟩
  obtain ⟨p, hp⟩ : ∃ p, p = pF N D m.ph m.fr m.pv f v := ⟨_, rfl⟩
  obtain ⟨r, hr'⟩ : ∃ r, r = fF m.ph m.fr m.pv f v := ⟨_, rfl⟩
  have hp12 : p = 1 ∨ p = 2 := by
    rw [hp]; unfold pF
    rcases hr with ⟨q1, _⟩ | ⟨q1, _⟩
    · rw [if_pos q1]; exact .inl rfl
    · rw [if_neg (by omega)]; split; split; exact .inr rfl; exact q1; exact q1
  have hrb : 0 ≤ r ∧ r ≤ f := by
    rw [hr']; unfold fF
    rcases hr with ⟨q1, q2⟩ | ⟨q1, q2, q3, _⟩
    · rw [if_pos q1]; omega
    · rw [if_neg (by omega)]
      split
      · omega
      · rcases b5 with b5 | b5 <;> omega
  have g1 := cnt_grow h (show f - r ≤ c - r by omega)
  have g2 := cnt_grow h (show c - r ≤ t - r by omega)
  have e1 : smS N D m ⟨k, f, c, v, a, d, u⟩ = ⟨qF N D p r f c, c, r, v, m.o ++ oF N D p r f c v⟩ := by
    unfold smS; rw [if_pos hA1]; simp only [← hp, ← hr']
  have e2 : smS N D m ⟨k, f, t, v, a, d, u⟩ = ⟨qF N D p r f t, t, r, v, m.o ++ oF N D p r f t v⟩ := by
    unfold smS; rw [if_pos hA0]; simp only [← hp, ← hr']
  have q0 : qF N D p r f c = 1 ∨ qF N D p r f c = 2 := by unfold qF; split; exact .inl rfl; exact hp12
  have hA2 : AcM ⟨qF N D p r f c, c, r, v, m.o ++ oF N D p r f c v⟩ ⟨k, c, t, v, a, d, u⟩ := ⟨⟨y1, y2, by dsimp only; omega, by dsimp only; omega, by first | exact y5 | (dsimp only; omega), by first | exact y6 | (dsimp only; omega), by first | exact y7 | (dsimp only; omega), by first | exact y8 | (dsimp only; omega), by first | exact y9 | (dsimp only; omega), by first | exact y10 | (dsimp only; omega), by first | exact y11 | (dsimp only; omega), by first | exact y12 | (dsimp only; omega)⟩, b1, b2, by dsimp only; omega, b4, .inr rfl⟩
  have e3 : pF N D (qF N D p r f c) r v c v = qF N D p r f c := by unfold pF; rw [if_neg (by omega), if_neg (by simp)]
  have e4 : fF (qF N D p r f c) r v c v = r := by unfold fF; rw [if_neg (by omega), if_neg (by simp)]
  rw [e1, e2]
  unfold smS
  rw [if_pos hA2]
  simp only [e3, e4]
  have j1 : qF N D (qF N D p r f c) r c t = qF N D p r f t := by
    unfold qF
    split <;> split <;> (try split) <;> first | rfl | omega
  have j2 : oF N D p r f c v ++ oF N D (qF N D p r f c) r c t v = oF N D p r f t v := by
    unfold oF
    obtain ⟨n, hn⟩ : ∃ n : Nat, cnt N D (c - r) = cnt N D (f - r) + n := ⟨(cnt N D (c - r) - cnt N D (f - r)).toNat, by omega⟩
    obtain ⟨w, hw⟩ : ∃ w : Nat, cnt N D (t - r) = cnt N D (c - r) + w := ⟨(cnt N D (t - r) - cnt N D (c - r)).toNat, by omega⟩
    rw [show (cnt N D (c - r) - cnt N D (f - r)).toNat = n by omega, show (cnt N D (t - r) - cnt N D (c - r)).toNat = w by omega, show (cnt N D (t - r) - cnt N D (f - r)).toNat = n + w by omega, hn]
    refine bitsE_join N D r v _ _ _ n w ?_
    unfold qF
    rw [hn]
    by_cases hz : n = 0
    · subst hz; simp
    · rw [if_pos (by omega)]; simp [hz]
  rw [j1, List.append_assoc, j2]

/-- Levels one after the other. -/
def CsP (e : Ev) : Prop := e.k = 1 ∧ 0 ≤ e.f ∧ e.f < e.t ∧ e.t ≤ 1099511627776 ∧ (e.v = 0 ∨ e.v = 1) ∧ e.u = 0 ∧ e.a = 0 ∧ e.d = []
def CsG (l : List Ev) : Prop := (∀ j (h : j < l.length), CsP l[j]) ∧ ∀ n (h : n + 1 < l.length), l[n + 1].f = l[n].t
theorem csP_ac {e : Ev} (h : CsP e) {m : MS} (hm : m.ph = 0 ∨ e.f = m.e) : AcM m e := by
  obtain ⟨h1, h2, h3, h4, h5, h6, h7, h8⟩ := h
  have hd : e.d.length = 0 := by rw [h8]; rfl
  exact ⟨⟨by omega, by omega, h2, by omega, h4, by omega, by omega, by omega, by omega, by omega, by omega, by omega⟩, h1, h6, by omega, h5, hm⟩
theorem cs_at {N D : Int} {l : List Ev} (hg : CsG l) : ∀ n (hn : n < l.length), (smR N D (l.take n)).ph = 0 ∨ l[n].f = (smR N D (l.take n)).e := by
  intro n
  induction n with
  | zero => intro _; left; simp [smR]
  | succ n ih =>
    intro hn
    right
    have hA := csP_ac (hg.1 n (by omega)) (ih (by omega))
    rw [smR_snoc N D (show n < l.length by omega)]
    unfold smS
    rw [if_pos hA]
    exact hg.2 n hn
/-- The pieces of an event. -/
def pcE (cs : List Int) (j : Nat) (e : Ev) : List Ev := if j < cs.length ∧ e.f < cs.getD j 0 ∧ cs.getD j 0 < e.t then [⟨e.k, e.f, cs.getD j 0, e.v, e.a, e.d, e.u⟩, ⟨e.k, cs.getD j 0, e.t, e.v, e.a, e.d, e.u⟩] else [e]
def pcL (cs : List Int) (l : List Ev) : Nat → List Ev
  | 0 => []
  | j + 1 => pcL cs l j ++ pcE cs j (l.getD j ⟨0, 0, 0, 0, 0, [], 0⟩)
theorem pcL_len (cs : List Int) (l : List Ev) (n : Nat) : (pcL cs l n).length ≤ 2 * n := by
  induction n with
  | zero => simp [pcL]
  | succ n ih =>
    rw [pcL, List.length_append]
    have : (pcE cs n (l.getD n ⟨0, 0, 0, 0, 0, [], 0⟩)).length ≤ 2 := by unfold pcE; split <;> simp
    omega
theorem pcL_fold {N D : Int} (h : Bt N D) (cs : List Int) {l : List Ev} (hg : CsG l) : ∀ n, n ≤ l.length → smR N D (pcL cs l n) = smR N D (l.take n) := by
  intro n
  induction n with
  | zero => intro _; simp [pcL]
  | succ n ih =>
    intro hn
    have e : l.getD n ⟨0, 0, 0, 0, 0, [], 0⟩ = l[n] := by simp [List.getD, List.getElem?_eq_getElem (show n < l.length by omega)]
    have hA := csP_ac (hg.1 n (by omega)) (cs_at (N := N) (D := D) hg n (by omega))
    rw [smR_snoc N D (show n < l.length by omega), ← ih (by omega), pcL, e]
    rw [← ih (by omega)] at hA
    have hrc := rcM_all h (pcL cs l n)
    unfold smR at *
    rw [List.foldl_append]
    generalize (pcL cs l n).foldl (smS N D) ⟨0, 0, 0, 0, []⟩ = m at *
    unfold pcE
    split
    · rename_i hc
      simp only [List.foldl_cons, List.foldl_nil]
      exact smS_two h hrc hA hc.2.1 hc.2.2
    · rfl
theorem pcL_d (cs : List Int) {l : List Ev} (hd : ∀ j (h : j < l.length), l[j].d.length ≤ 140737488351232) (n : Nat) : ∀ j (h : j < (pcL cs l n).length), (pcL cs l n)[j].d.length ≤ 140737488351232 := by
  have hall : ∀ j, (l.getD j ⟨0, 0, 0, 0, 0, [], 0⟩).d.length ≤ 140737488351232 := by
    intro j
    by_cases h : j < l.length
    · rw [List.getD, List.getElem?_eq_getElem h]; exact hd j h
    · rw [List.getD, List.getElem?_eq_none (by omega)]; simp
  have : ∀ n, ∀ e ∈ pcL cs l n, e.d.length ≤ 140737488351232 := by
    intro n
    induction n with
    | zero => intro e he; cases he
    | succ n ih =>
      intro e he
      rw [pcL] at he
      rcases List.mem_append.1 he with he | he
      · exact ih e he
      · unfold pcE at he
        have := hall n
        split at he
        · simp only [List.mem_cons, List.not_mem_nil, or_false] at he
          rcases he with rfl | rfl <;> exact this
        · simp only [List.mem_singleton] at he; subst he; exact this
  intro j hj
  exact this n _ (List.getElem_mem hj)

end Go.Proofs.Ytmbeaagpjpphhaa

namespace Go.Proofs.Ytmbeaagpjpphhaa
open Go Go.ChangeShapes Go.WideShapes Go.ChangeAt Go.RowKit
set_option linter.unusedVariables false

theorem arr2c {cs : Array Value} (h : cs.size = 2) : ∃ a b, cs = #[a, b] := by
  obtain ⟨l⟩ := cs
  match l, h with
  | [a, b], _ => exact ⟨a, b, rfl⟩
set_option maxRecDepth 100000 in
theorem open_clock {H : Type} {enc : TypeId × Value → H} {W : World} {base b : Nat} {sp : Nat → Bool} {hd : Bool} {v : Value} {d : DataW H} {p : List MemPlace} (hv : Value.okWide Try.prog W .any base 25 v) (h : DataW.Trod enc Try.prog W b sp hd 25 v d p) :
    ∃ (N D : Int), v = rat N D ∧ (-9223372036854775808 ≤ N ∧ N ≤ 9223372036854775807) ∧ (-9223372036854775808 ≤ D ∧ D ≤ 9223372036854775807) := by
  obtain ⟨cs, rfl, hsz⟩ := okWide_struct Try.underlying25 hv
  obtain ⟨a, c, rfl⟩ := arr2c (hsz.trans (by kernel_rfl))
  obtain ⟨fuel, hf⟩ := h
  obtain ⟨y0, n, _, hl, k0⟩ := trod_struct1 Try.underlying25 hf
  obtain ⟨u0, u1, m, _, hl', j0, j1⟩ := trod_struct2 Try.underlying23 k0
  obtain ⟨N, e0, _, w0⟩ := DataW.trod_int Try.underlying3 j0
  obtain ⟨D, e1, _, w1⟩ := DataW.trod_int Try.underlying3 j1
  have f0 : [a] = [.int .i64 N] := e0
  have f1 : [c] = [.int .i64 D] := e1
  simp only [List.cons.injEq, and_true] at f0 f1
  subst f0 f1
  exact ⟨N, D, rfl, bounds_i64 w0, bounds_i64 w1⟩

theorem law_grid15 (N D f tk v : Int) (w : World) (hN0 : -9223372036854775808 ≤ N) (hN1 : N ≤ 9223372036854775807) (hD0 : -9223372036854775808 ≤ D) (hD1 : D ≤ 9223372036854775807) :
    Calls Try.prog 8 #[rat N D, .int .i64 f, .int .i64 tk, .int .i64 v] w fun e w' => e = .returned (.bool true) ∧ Below w.heap.size w w' := by
  by_cases hk : ckE N D = 0
  · exact grid_good N D f tk v w hk
  · exact grid_bad N D f tk v w hN0 hN1 hD0 hD1 hk

end Go.Proofs.Ytmbeaagpjpphhaa
