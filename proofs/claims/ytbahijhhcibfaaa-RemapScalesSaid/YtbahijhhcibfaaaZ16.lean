/-
  The walk of the statement RemapScales.
-/
import Derived.Test.YtbahijhhcibfaaaZ15
import Derived.Test.YtbahijhhcibfaaaZ12
namespace Go.Proofs.Ytbahijhhcibfaaa
open Go Go.RowKit Go.Joins
set_option linter.unusedVariables false
set_option linter.unusedSimpArgs false

theorem held6 {w W W' : World} {b bx by' : Nat} {x0 x1 x2 x3 x4 x5 : Value} (h : W.cell? ⟨b, 0, none⟩ = some x0 ∧ W.cell? ⟨b, 1, none⟩ = some x1 ∧ W.cell? ⟨bx, 0, none⟩ = some x2 ∧ W.cell? ⟨bx, 1, none⟩ = some x3 ∧ W.cell? ⟨by', 0, none⟩ = some x4 ∧ W.cell? ⟨by', 1, none⟩ = some x5 ∧ Below w.heap.size w W ∧ b < W.heap.size ∧ bx < W.heap.size ∧ by' < W.heap.size) (hb : Below W.heap.size W W') :
    W'.cell? ⟨b, 0, none⟩ = some x0 ∧ W'.cell? ⟨b, 1, none⟩ = some x1 ∧ W'.cell? ⟨bx, 0, none⟩ = some x2 ∧ W'.cell? ⟨bx, 1, none⟩ = some x3 ∧ W'.cell? ⟨by', 0, none⟩ = some x4 ∧ W'.cell? ⟨by', 1, none⟩ = some x5 ∧ Below w.heap.size w W' ∧ b < W'.heap.size ∧ bx < W'.heap.size ∧ by' < W'.heap.size := by
  obtain ⟨h0, h1, h2, h3, h4, h5, h6, l0, l1, l2⟩ := h
  have := hb.size
  have c := (bcell hb).1
  exact ⟨(c _ _ l0).trans h0, (c _ _ l0).trans h1, (c _ _ l1).trans h2, (c _ _ l1).trans h3, (c _ _ l2).trans h4, (c _ _ l2).trans h5, h6.trans (hb.mono h6.size), by omega, by omega, by omega⟩
theorem fs_fun (n : Int) : fs n 1 = fun x => n * x := funext fun k => fs_one n k
theorem valid_n {n : Int} (h0 : 1 ≤ n) (h1 : n ≤ 1000) : Sr.validB n 1 = true := by
  unfold Sr.validB
  refine decide_eq_true ⟨by omega, by omega, by omega, by omega, ?_⟩
  show Nat.gcd n.natAbs 1 = 1
  exact Nat.gcd_one_right _
theorem jn_jn {l : List Rn} (h : ps l) : jn (jn l) = jn l := al_unique (jn_al _) (jn_ps (jn_ps h)) (jn_al _) (jn_ps h) fun k hk => by rw [atv_jn k (jn_ps h) hk]
theorem ckC_jn12 {N : List ByteArray} {R : List Rn} (h : ckC N R = 0) : ckC N (jn R) = 0 := by
  obtain ⟨h1, h2, h3, h4, h5, h6⟩ := ckC_ok h
  exact ckC_0 (by have := jn_len R; omega) h2 (jn_vr h6)
theorem scale_law {N : List ByteArray} {R : List Rn} {n : Int} (hc : ckC N R = 0) (hl : lg R ≤ 1073741824) (h0 : 1 ≤ n) (h1 : n ≤ 1000) :
    sxE N R 1 1 = 0 ∧ sxR N R 1 1 = jn R ∧ sxE N R n 1 = 0 ∧ ckC N (sxR N R n 1) = 0 ∧ lg (sxR N R n 1) = n * lg R ∧ (sxR N R n 1).length ≤ R.length ∧ ∀ k, 0 ≤ k → k < n * lg R → atv (sxR N R n 1) k = atv R (k / n) := by
  have hck := ckC_ok hc
  have hps := ((vr_iff _ R 0 (by omega)).1 hck.2.2.2.2.2).2.1
  have hrg := vr_range hck.2.2.2.2.2
  have hv1 : Sr.validB 1 1 = true := valid_n (by omega) (by omega)
  have hvn := valid_n h0 h1
  have hb : n * lg R ≤ 1000 * 1073741824 := Int.mul_le_mul h1 hl (by omega) (by omega)
  have e1 : sxE N R 1 1 = 0 := sx_0 hc (by rw [hv1]; rintro (h | h); exact absurd h (by decide); omega) (by rw [fs_one]; omega)
  have en : sxE N R n 1 = 0 := sx_0 hc (by rw [hvn]; rintro (h | h); exact absurd h (by decide); omega) (by rw [fs_one]; omega)
  obtain ⟨g1, g2, g3⟩ := sx_good en
  rw [sxR_0 e1, sxR_0 en]
  obtain ⟨m1, m2⟩ := scr_mul h0 hps
  refine ⟨e1, ?_, en, g2, by rw [jn_lg, g3, fs_one], Nat.le_trans (jn_len _) (scr_len _ _ _), fun k k0 k1 => ?_⟩
  · rw [scr_id (fun x => by rw [fs_one]; omega) 0 hps]
  · rw [fs_fun, atv_jn k (scr_ps _ _ _) k0]
    exact m2 k k0 k1

set_option maxRecDepth 100000 in
set_option maxHeartbeats 16000000 in
theorem law_scales (N : List ByteArray) (R : List Rn) (n k : Int) (vN vR : Value) (w : World) (hN : NmArg w vN N) (hs : szs N) (hR : RnArg w vR R) (hn1 : n ≤ 9223372036854775807) (hk1 : k ≤ 9223372036854775807) :
    Calls Try.prog 9 #[.agg #[vN, vR], .int .i64 n, .int .i64 k] w fun e w' => e = .returned (.bool true) ∧ Below w.heap.size w w' := by
  have HF := Lib.hid (fun w' (hb : Below w.heap.size w w') => few_any N R vN vR w' (hN.keep hb) (hR.keep hb))
  have HKH := fun w' (hb : Below w.heap.size w w') => hN.keep hb
  have HRH := fun w' (hb : Below w.heap.size w w') => hR.keep hb
  have HNH := Lib.hid HKH
  have HRH' := Lib.hid HRH
  clear HKH HRH
  obtain ⟨A1, c1, rfl, _⟩ := hN.form
  obtain ⟨A2, c2, rfl⟩ := hR.form
  have B0 := Lib.hid (ba w (.cells #[.slice A1 N.length c1, .slice A2 R.length c2] 25))
  have P0 := Lib.hid (RowAt.new w 25 #[.slice A1 N.length c1, .slice A2 R.length c2])
  clear hN hR
  have g0 := P0.out.cell 0
  have g1 := P0.out.cell 1
  cases hf : fewB N R with
  | false =>
    rw [hf] at HF
    clear hf
    go_enter Try.func9, Try.ntmps9
    go_wp2_with (first
      | (go_at_call 10; go_must (refine (lives_any _).mono ?_; rintro e1 w1 ⟨rfl, b1⟩; have B1 := Lib.hid (B0.out.trans (b1.mono B0.out.size)); have P1 := Lib.hid (P0.out.keep b1); clear g0 g1; have g0 := P1.out.cell 0; have g1 := P1.out.cell 1; clear b1))
      | (go_at_call 11; go_must (refine (HF.out _ B1.out).mono ?_; rintro e2 w2 ⟨rfl, b2⟩; have B2 := Lib.hid (B1.out.trans (b2.mono B1.out.size)); have P2 := Lib.hid (P1.out.keep b2); clear g0 g1; have g0 := P2.out.cell 0; have g1 := P2.out.cell 1; clear b2)))
    go_returns
    exact ⟨rfl, B2.out⟩
  | true =>
    obtain ⟨f1, f2⟩ := fewB_t hf
    have HK := Lib.hid (fun w' (hb : Below w.heap.size w w') => check_any N R _ _ w' (HNH.out w' hb) hs (HRH'.out w' hb) (by omega))
    have HLc := Lib.hid (fun w' (hb : Below w.heap.size w w') => longC_any N R _ _ w' (HNH.out w' hb) hs (HRH'.out w' hb) (by omega))
    rw [hf] at HF
    clear hf
    by_cases d1 : n < 1
    · have d1' : decide (n < 1) = true := decide_eq_true d1
      go_enter Try.func9, Try.ntmps9
      go_wp2_with (first
        | (go_at_call 10; go_must (refine (lives_any _).mono ?_; rintro e1 w1 ⟨rfl, b1⟩; have B1 := Lib.hid (B0.out.trans (b1.mono B0.out.size)); have P1 := Lib.hid (P0.out.keep b1); clear g0 g1; have g0 := P1.out.cell 0; have g1 := P1.out.cell 1; clear b1))
        | (go_at_call 11; go_must (refine (HF.out _ B1.out).mono ?_; rintro e2 w2 ⟨rfl, b2⟩; have B2 := Lib.hid (B1.out.trans (b2.mono B1.out.size)); have P2 := Lib.hid (P1.out.keep b2); clear g0 g1; have g0 := P2.out.cell 0; have g1 := P2.out.cell 1; clear b2)))
      go_returns
      exact ⟨rfl, B2.out⟩
    have d1' : decide (n < 1) = false := decide_eq_false d1
    by_cases d2 : 1000 < n
    · have d2' : decide (1000 < n) = true := decide_eq_true d2
      go_enter Try.func9, Try.ntmps9
      go_wp2_with (first
        | (go_at_call 10; go_must (refine (lives_any _).mono ?_; rintro e1 w1 ⟨rfl, b1⟩; have B1 := Lib.hid (B0.out.trans (b1.mono B0.out.size)); have P1 := Lib.hid (P0.out.keep b1); clear g0 g1; have g0 := P1.out.cell 0; have g1 := P1.out.cell 1; clear b1))
        | (go_at_call 11; go_must (refine (HF.out _ B1.out).mono ?_; rintro e2 w2 ⟨rfl, b2⟩; have B2 := Lib.hid (B1.out.trans (b2.mono B1.out.size)); have P2 := Lib.hid (P1.out.keep b2); clear g0 g1; have g0 := P2.out.cell 0; have g1 := P2.out.cell 1; clear b2)))
      go_returns
      exact ⟨rfl, B2.out⟩
    have d2' : decide (1000 < n) = false := decide_eq_false d2
    by_cases hc : ckC N R = 0
    · rw [hc] at HK
      rw [lgC_yes hc] at HLc
      by_cases d3 : 1073741824 < lg R
      · have d3' : decide (1073741824 < lg R) = true := decide_eq_true d3
        clear HNH HRH' hc f1 f2
        generalize lg R = G at *
        go_enter Try.func9, Try.ntmps9
        go_wp2_with (first
          | (go_at_call 10; go_must (refine (lives_any _).mono ?_; rintro e1 w1 ⟨rfl, b1⟩; have B1 := Lib.hid (B0.out.trans (b1.mono B0.out.size)); have P1 := Lib.hid (P0.out.keep b1); clear g0 g1; have g0 := P1.out.cell 0; have g1 := P1.out.cell 1; clear b1))
          | (go_at_call 11; go_must (refine (HF.out _ B1.out).mono ?_; rintro e2 w2 ⟨rfl, b2⟩; have B2 := Lib.hid (B1.out.trans (b2.mono B1.out.size)); have P2 := Lib.hid (P1.out.keep b2); clear g0 g1; have g0 := P2.out.cell 0; have g1 := P2.out.cell 1; clear b2))
          | (go_at_call 24; go_must (refine (HK.out _ B2.out).mono ?_; rintro e3 w3 ⟨rfl, b3⟩; have B3 := Lib.hid (B2.out.trans (b3.mono B2.out.size)); have P3 := Lib.hid (P2.out.keep b3); clear g0 g1; have g0 := P3.out.cell 0; have g1 := P3.out.cell 1; clear b3))
          | (go_at_call 25; go_must (refine (HLc.out _ B3.out).mono ?_; rintro e4 w4 ⟨rfl, b4⟩; have B4 := Lib.hid (B3.out.trans (b4.mono B3.out.size)); have P4 := Lib.hid (P3.out.keep b4); clear g0 g1; have g0 := P4.out.cell 0; have g1 := P4.out.cell 1; clear b4)))
        go_returns
        exact ⟨rfl, B4.out⟩
      · have d3' : decide (1073741824 < lg R) = false := decide_eq_false d3
        obtain ⟨q1, q2, q3, q4, q5, q6, q7⟩ := scale_law (n := n) hc (by omega) (by omega) (by omega)
        have hck := ckC_ok hc
        have hrg := vr_range hck.2.2.2.2.2
        have hps := ((vr_iff _ R 0 (by omega)).1 hck.2.2.2.2.2).2.1
        have hjl := jn_len R
        have H1' := fun w' (hb : Below w.heap.size w w') => scale12_any N R 1 1 _ _ w' (HNH.out w' hb) hs (HRH'.out w' hb) (by omega) (by omega) (by omega) (by omega) (by omega) (by omega)
        have H2' := fun w' (hb : Below w.heap.size w w') => scale12_any N R n 1 _ _ w' (HNH.out w' hb) hs (HRH'.out w' hb) (by omega) (by omega) (by omega) (by omega) (by omega) (by omega)
        rw [q1, q2, sxN_0 q1] at H1'
        rw [q3, sxN_0 q3] at H2'
        have H1 := Lib.hid H1'
        have HSame := Lib.hid (fun V U w' (hb : Below w.heap.size w w') (h1 : NmArg w' V N) (h2 : RnArg w' U (jn R)) => capSame_any true N (jn R) N R V U _ _ w' h1 hs h2 (HNH.out w' hb) hs (HRH'.out w' hb) (by omega) (by omega) (by omega) (by omega) (fun _ => rfl) (fun h => absurd ⟨ckC_jn12 hc, hc, rfl, jn_jn hps⟩ h))
        obtain ⟨S, hS⟩ : ∃ S, S = sxR N R n 1 := ⟨_, rfl⟩
        rw [← hS] at H2' q4 q5 q6 q7
        have H2 := Lib.hid H2'
        have HLb' := fun V U w' (h1 : NmArg w' V N) (h2 : RnArg w' U S) => longC_any N S V U w' h1 hs h2 (by omega)
        rw [lgC_yes q4, q5] at HLb'
        have HLb := Lib.hid HLb'
        have HAtb' := fun V U w' (h1 : NmArg w' V N) (h2 : RnArg w' U S) => at_any N S V U k w' h1 hs h2 (by omega) hk1
        have hm0 : 0 ≤ n * lg R := Int.mul_nonneg (by omega) hrg.1
        have hm1 : n * lg R ≤ 1000 * 1073741824 := Int.mul_le_mul (by omega) (by omega) hrg.1 (by omega)
        have hw := IntWalk.i64_in (n * lg R) (by omega)
        clear H1' HLb' hS q1 q2 q3 hjl
        by_cases d5 : k < 0
        · have d5' : decide (k < 0) = true := decide_eq_true d5
          clear HAtb' H2' q4 q5 q6 q7 hck hps HNH HRH' hc
          generalize lg R = G at *
          go_enter Try.func9, Try.ntmps9
          go_wp2_with (first
            | (go_at_call 10; go_must (refine (lives_any _).mono ?_; rintro e1 w1 ⟨rfl, b1⟩; have B1 := Lib.hid (B0.out.trans (b1.mono B0.out.size)); have P1 := Lib.hid (P0.out.keep b1); clear g0 g1; have g0 := P1.out.cell 0; have g1 := P1.out.cell 1; clear b1))
            | (go_at_call 11; go_must (refine (HF.out _ B1.out).mono ?_; rintro e2 w2 ⟨rfl, b2⟩; have B2 := Lib.hid (B1.out.trans (b2.mono B1.out.size)); have P2 := Lib.hid (P1.out.keep b2); clear g0 g1; have g0 := P2.out.cell 0; have g1 := P2.out.cell 1; clear b2))
            | (go_at_call 24; go_must (refine (HK.out _ B2.out).mono ?_; rintro e3 w3 ⟨rfl, b3⟩; have B3 := Lib.hid (B2.out.trans (b3.mono B2.out.size)); have P3 := Lib.hid (P2.out.keep b3); clear g0 g1; have g0 := P3.out.cell 0; have g1 := P3.out.cell 1; clear b3))
            | (go_at_call 25; go_must (refine (HLc.out _ B3.out).mono ?_; rintro e4 w4 ⟨rfl, b4⟩; have B4 := Lib.hid (B3.out.trans (b4.mono B3.out.size)); have P4 := Lib.hid (P3.out.keep b4); clear g0 g1; have g0 := P4.out.cell 0; have g1 := P4.out.cell 1; clear b4))
            | (go_at_call 21; go_must (first | (have tok := B6.out; refine (H2.out _ B6.out).mono ?_; rintro e7 w7 ⟨v7, u7, rfl, n7, r7, b7⟩; obtain ⟨CA, CC, rfl, _⟩ := n7.form; obtain ⟨DA, DC, rfl⟩ := r7.form; have B7 := Lib.hid (B6.out.trans (b7.mono B6.out.size)); have P8 := Lib.hid ((P6.out.keep b7).alloc (.cells #[.slice CA N.length CC, .slice DA S.length DC] 25)); have X8 := Lib.hid ((X6.out.keep b7).alloc (.cells #[.slice CA N.length CC, .slice DA S.length DC] 25)); have Y8 := Lib.hid (RowAt.new w7 25 #[.slice CA N.length CC, .slice DA S.length DC]); have Na8 := Lib.hid ((Na6.out.keep b7).keep (ba w7 (.cells #[.slice CA N.length CC, .slice DA S.length DC] 25))); have Ra8 := Lib.hid ((Ra6.out.keep b7).keep (ba w7 (.cells #[.slice CA N.length CC, .slice DA S.length DC] 25))); have Nb8 := Lib.hid (n7.keep (ba w7 (.cells #[.slice CA N.length CC, .slice DA S.length DC] 25))); have Rb8 := Lib.hid (r7.keep (ba w7 (.cells #[.slice CA N.length CC, .slice DA S.length DC] 25))); have B8 := Lib.hid (B7.out.alloc B7.out.size (.cells #[.slice CA N.length CC, .slice DA S.length DC] 25)); clear g0 g1 n7 r7 b7) | (refine (H1.out _ B4.out).mono ?_; rintro e5 w5 ⟨v5, u5, rfl, n5, r5, b5⟩; obtain ⟨UA, UC, rfl, _⟩ := n5.form; obtain ⟨VA, VC, rfl⟩ := r5.form; have B5 := Lib.hid (B4.out.trans (b5.mono B4.out.size)); have P6 := Lib.hid ((P4.out.keep b5).alloc (.cells #[.slice UA N.length UC, .slice VA (jn R).length VC] 25)); have X6 := Lib.hid (RowAt.new w5 25 #[.slice UA N.length UC, .slice VA (jn R).length VC]); have Na6 := Lib.hid (n5.keep (ba w5 (.cells #[.slice UA N.length UC, .slice VA (jn R).length VC] 25))); have Ra6 := Lib.hid (r5.keep (ba w5 (.cells #[.slice UA N.length UC, .slice VA (jn R).length VC] 25))); have B6 := Lib.hid (B5.out.alloc B5.out.size (.cells #[.slice UA N.length UC, .slice VA (jn R).length VC] 25)); clear g0 g1; have g0 := P6.out.cell 0; have g1 := P6.out.cell 1; clear n5 r5 b5))))
          obtain ⟨W8, hW8⟩ : ∃ W8, W8 = w7.alloc (.cells #[.slice CA N.length CC, .slice DA S.length DC] 25) := ⟨_, rfl⟩
          rw [← hW8]
          rw [← hW8] at P8 X8 Y8 Na8 Ra8 Nb8 Rb8 B8
          clear hW8 B7 Na6 Ra6 B6 P6 X6
          generalize w5.heap.size = bx at *
          generalize w7.heap.size = by' at *
          have Se := Lib.hid (show W8.drew.cell? ⟨w.heap.size, 0, none⟩ = some (.slice A1 N.length c1) ∧ W8.drew.cell? ⟨w.heap.size, 1, none⟩ = some (.slice A2 R.length c2) ∧ W8.drew.cell? ⟨bx, 0, none⟩ = some (.slice UA N.length UC) ∧ W8.drew.cell? ⟨bx, 1, none⟩ = some (.slice VA (jn R).length VC) ∧ W8.drew.cell? ⟨by', 0, none⟩ = some (.slice CA N.length CC) ∧ W8.drew.cell? ⟨by', 1, none⟩ = some (.slice DA S.length DC) ∧ Below w.heap.size w W8.drew ∧ w.heap.size < W8.drew.heap.size ∧ bx < W8.drew.heap.size ∧ by' < W8.drew.heap.size from ⟨P8.out.cell 0, P8.out.cell 1, X8.out.cell 0, X8.out.cell 1, Y8.out.cell 0, Y8.out.cell 1, B8.out.drew, P8.out.lt, X8.out.lt, Y8.out.lt⟩)
          have Nae := Lib.hid (show NmArg W8.drew _ _ from Na8.out)
          have Rae := Lib.hid (show RnArg W8.drew _ _ from Ra8.out)
          have Nbe := Lib.hid (show NmArg W8.drew _ _ from Nb8.out)
          have Rbe := Lib.hid (show RnArg W8.drew _ _ from Rb8.out)
          clear P8 X8 Y8 Na8 Ra8 Nb8 Rb8 B8
          refine wp_region_held_drew (S := fun w' => w'.cell? ⟨w.heap.size, 0, none⟩ = some (.slice A1 N.length c1) ∧ w'.cell? ⟨w.heap.size, 1, none⟩ = some (.slice A2 R.length c2) ∧ w'.cell? ⟨bx, 0, none⟩ = some (.slice UA N.length UC) ∧ w'.cell? ⟨bx, 1, none⟩ = some (.slice VA (jn R).length VC) ∧ w'.cell? ⟨by', 0, none⟩ = some (.slice CA N.length CC) ∧ w'.cell? ⟨by', 1, none⟩ = some (.slice DA S.length DC) ∧ Below w.heap.size w w' ∧ w.heap.size < w'.heap.size ∧ bx < w'.heap.size ∧ by' < w'.heap.size) (by kernel_rfl) ?_ (fun hH => ?_)
          · exact Se.out
          generalize W8.drew = we at *
          refine wpAnyH_take (i := 0) (oi := { dst := some 51, op := Go.Op.move (Go.Operand.tmp 8), type := 28, pos := "law.go:146", after := #[], guard := none }) (v := ?_) rfl ?_ ?_ ?_ ?_ (Or.inl ⟨?_, ?_⟩) hH ?_
          rotate_left
          · kernel_rfl
          · kernel_rfl
          · kernel_rfl
          · exact fun _ _ _ h => h
          · kernel_rfl
          · intro wS hSw
            try dsimp only at hSw
            go_simp
            try with_reducible rfl
          try simp only [Act.put, List.setIfInBounds_toArray, List.set_cons_zero, List.set_cons_succ]
          refine wpAnyH_take (i := 1) (oi := { dst := some 52, op := Go.Op.binOp Go.BinOp.neq 28 (Go.Operand.tmp 51) (Go.Operand.const (Go.Value.int Go.IntKind.i64 0)) 28, type := 4, pos := "law.go:146", after := #[{ on := 0, ground := Go.Ground.data }], guard := none }) (v := ?_) rfl ?_ ?_ ?_ ?_ (Or.inl ⟨?_, ?_⟩) hH ?_
          rotate_left
          · kernel_rfl
          · kernel_rfl
          · kernel_rfl
          · exact fun _ _ _ h => h
          · kernel_rfl
          · intro wS hSw
            try dsimp only at hSw
            go_simp
            try with_reducible rfl
          try simp only [Act.put, List.setIfInBounds_toArray, List.set_cons_zero, List.set_cons_succ]
          refine wpAnyH_take (i := 2) (oi := { dst := some 53, op := Go.Op.move (Go.Operand.tmp 52), type := 4, pos := "law.go:146", after := #[{ on := 1, ground := Go.Ground.data }], guard := none }) (v := ?_) rfl ?_ ?_ ?_ ?_ (Or.inl ⟨?_, ?_⟩) hH ?_
          rotate_left
          · kernel_rfl
          · kernel_rfl
          · kernel_rfl
          · exact fun _ _ _ h => h
          · kernel_rfl
          · intro wS hSw
            try dsimp only at hSw
            go_simp
            try with_reducible rfl
          try simp only [Act.put, List.setIfInBounds_toArray, List.set_cons_zero, List.set_cons_succ]
          refine wpAnyH_take (i := 3) (oi := { dst := some 54, op := Go.Op.load 25 (Go.Operand.tmp 7), type := 25, pos := "law.go:146", after := #[{ on := 2, ground := Go.Ground.guard }], guard := some (2, false) }) (v := ?_) rfl ?_ ?_ ?_ ?_ (Or.inl ⟨?_, ?_⟩) hH ?_
          rotate_left
          · kernel_rfl
          · kernel_rfl
          · kernel_rfl
          · exact fun _ _ _ h => h
          · kernel_rfl
          · intro wS hSw
            try dsimp only at hSw
            go_simp
            try with_reducible rfl
          try simp only [Act.put, List.setIfInBounds_toArray, List.set_cons_zero, List.set_cons_succ]
          refine wpAnyH_take (i := 4) (oi := { dst := some 55, op := Go.Op.load 25 (Go.Operand.tmp 3), type := 25, pos := "law.go:146", after := #[{ on := 2, ground := Go.Ground.guard }], guard := some (2, false) }) (v := ?_) rfl ?_ ?_ ?_ ?_ (Or.inl ⟨?_, ?_⟩) hH ?_
          rotate_left
          · kernel_rfl
          · kernel_rfl
          · kernel_rfl
          · exact fun _ _ _ h => h
          · kernel_rfl
          · intro wS hSw
            try dsimp only at hSw
            go_simp
            try with_reducible rfl
          try simp only [Act.put, List.setIfInBounds_toArray, List.set_cons_zero, List.set_cons_succ]
          refine wpAnyH_ready (rs := [5]) (by kernel_rfl) (by simp) ?_
          refine AllReadyH.cons (o := { dst := some 56, op := Go.Op.call { callee := Go.Callee.value (Go.Operand.func 26), args := #[Go.Operand.tmp 54, Go.Operand.tmp 55], argTypes := #[25, 25] }, type := 4, pos := "law.go:146", after := #[{ on := 3, ground := Go.Ground.data }, { on := 4, ground := Go.Ground.data }, { on := 2, ground := Go.Ground.chain }, { on := 2, ground := Go.Ground.guard }], guard := some (2, false) }) rfl (fun K hK => ?_) AllReadyH.nil
          · go_simp
            refine (HSame.out _ _ _ Se.out.2.2.2.2.2.2.1 Nae.out Rae.out).mono ?_
            rintro ef wf ⟨rfl, bf⟩
            try go_wp2_with fail
            have Sf := Lib.hid (held6 Se.out bf)
            have Nbf := Lib.hid (Nbe.out.keep bf)
            have Rbf := Lib.hid (Rbe.out.keep bf)
            clear bf
            refine hK.out _ _ ?_ (fun hH1 => ?_)
            · exact Sf.out
            clear hK K hH
            try simp only [Act.put, List.setIfInBounds_toArray, List.set_cons_zero, List.set_cons_succ]
            refine wpAnyH_take (i := 6) (oi := { dst := some 57, op := Go.Op.unOp Go.UnOp.not 4 (Go.Operand.tmp 56), type := 4, pos := "law.go:146", after := #[{ on := 5, ground := Go.Ground.data }, { on := 2, ground := Go.Ground.guard }], guard := some (2, false) }) (v := ?_) rfl ?_ ?_ ?_ ?_ (Or.inl ⟨?_, ?_⟩) hH1 ?_
            rotate_left
            · kernel_rfl
            · kernel_rfl
            · kernel_rfl
            · exact fun _ _ _ h => h
            · kernel_rfl
            · intro wS hSw
              try dsimp only at hSw
              go_simp
              try with_reducible rfl
            try simp only [Act.put, List.setIfInBounds_toArray, List.set_cons_zero, List.set_cons_succ]
            refine wpAnyH_take (i := 7) (oi := { dst := some 58, op := Go.Op.pick (Go.Operand.tmp 53) (Go.Operand.const (Go.Value.bool true)) (Go.Operand.tmp 57), type := 4, pos := "law.go:146", after := #[{ on := 2, ground := Go.Ground.data }, { on := 6, ground := Go.Ground.data }], guard := none }) (v := ?_) rfl ?_ ?_ ?_ ?_ (Or.inl ⟨?_, ?_⟩) hH1 ?_
            rotate_left
            · kernel_rfl
            · kernel_rfl
            · kernel_rfl
            · exact fun _ _ _ h => h
            · kernel_rfl
            · intro wS hSw
              try dsimp only at hSw
              go_simp
              try with_reducible rfl
            try simp only [Act.put, List.setIfInBounds_toArray, List.set_cons_zero, List.set_cons_succ]
            refine wpAnyH_take (i := 8) (oi := { dst := some 59, op := Go.Op.move (Go.Operand.tmp 58), type := 4, pos := "law.go:146", after := #[{ on := 7, ground := Go.Ground.data }, { on := 5, ground := Go.Ground.chain }], guard := none }) (v := ?_) rfl ?_ ?_ ?_ ?_ (Or.inl ⟨?_, ?_⟩) hH1 ?_
            rotate_left
            · kernel_rfl
            · kernel_rfl
            · kernel_rfl
            · exact fun _ _ _ h => h
            · kernel_rfl
            · intro wS hSw
              try dsimp only at hSw
              go_simp
              try with_reducible rfl
            try simp only [Act.put, List.setIfInBounds_toArray, List.set_cons_zero, List.set_cons_succ]
            refine wpAnyH_take (i := 9) (oi := { dst := some 60, op := Go.Op.move (Go.Operand.tmp 10), type := 28, pos := "law.go:146", after := #[{ on := 8, ground := Go.Ground.guard }], guard := some (8, false) }) (v := ?_) rfl ?_ ?_ ?_ ?_ (Or.inl ⟨?_, ?_⟩) hH1 ?_
            rotate_left
            · kernel_rfl
            · kernel_rfl
            · kernel_rfl
            · exact fun _ _ _ h => h
            · kernel_rfl
            · intro wS hSw
              try dsimp only at hSw
              go_simp
              try with_reducible rfl
            try simp only [Act.put, List.setIfInBounds_toArray, List.set_cons_zero, List.set_cons_succ]
            refine wpAnyH_take (i := 10) (oi := { dst := some 61, op := Go.Op.binOp Go.BinOp.neq 28 (Go.Operand.tmp 60) (Go.Operand.const (Go.Value.int Go.IntKind.i64 0)) 28, type := 4, pos := "law.go:146", after := #[{ on := 9, ground := Go.Ground.data }, { on := 8, ground := Go.Ground.guard }], guard := some (8, false) }) (v := ?_) rfl ?_ ?_ ?_ ?_ (Or.inl ⟨?_, ?_⟩) hH1 ?_
            rotate_left
            · kernel_rfl
            · kernel_rfl
            · kernel_rfl
            · exact fun _ _ _ h => h
            · kernel_rfl
            · intro wS hSw
              try dsimp only at hSw
              go_simp
              try with_reducible rfl
            try simp only [Act.put, List.setIfInBounds_toArray, List.set_cons_zero, List.set_cons_succ]
            refine wpAnyH_take (i := 11) (oi := { dst := some 62, op := Go.Op.pick (Go.Operand.tmp 59) (Go.Operand.const (Go.Value.bool true)) (Go.Operand.tmp 61), type := 4, pos := "law.go:146", after := #[{ on := 8, ground := Go.Ground.data }, { on := 10, ground := Go.Ground.data }], guard := none }) (v := ?_) rfl ?_ ?_ ?_ ?_ (Or.inl ⟨?_, ?_⟩) hH1 ?_
            rotate_left
            · kernel_rfl
            · kernel_rfl
            · kernel_rfl
            · exact fun _ _ _ h => h
            · kernel_rfl
            · intro wS hSw
              try dsimp only at hSw
              go_simp
              try with_reducible rfl
            try simp only [Act.put, List.setIfInBounds_toArray, List.set_cons_zero, List.set_cons_succ]
            refine wpAnyH_take (i := 12) (oi := { dst := some 63, op := Go.Op.move (Go.Operand.tmp 62), type := 4, pos := "law.go:146", after := #[{ on := 11, ground := Go.Ground.data }, { on := 8, ground := Go.Ground.chain }], guard := none }) (v := ?_) rfl ?_ ?_ ?_ ?_ (Or.inl ⟨?_, ?_⟩) hH1 ?_
            rotate_left
            · kernel_rfl
            · kernel_rfl
            · kernel_rfl
            · exact fun _ _ _ h => h
            · kernel_rfl
            · intro wS hSw
              try dsimp only at hSw
              go_simp
              try with_reducible rfl
            try simp only [Act.put, List.setIfInBounds_toArray, List.set_cons_zero, List.set_cons_succ]
            refine wpAnyH_take (i := 13) (oi := { dst := some 64, op := Go.Op.load 25 (Go.Operand.tmp 9), type := 25, pos := "law.go:146", after := #[{ on := 12, ground := Go.Ground.guard }], guard := some (12, false) }) (v := ?_) rfl ?_ ?_ ?_ ?_ (Or.inl ⟨?_, ?_⟩) hH1 ?_
            rotate_left
            · kernel_rfl
            · kernel_rfl
            · kernel_rfl
            · exact fun _ _ _ h => h
            · kernel_rfl
            · intro wS hSw
              try dsimp only at hSw
              go_simp
              try with_reducible rfl
            try simp only [Act.put, List.setIfInBounds_toArray, List.set_cons_zero, List.set_cons_succ]
            refine wpAnyH_take (i := 15) (oi := { dst := some 66, op := Go.Op.move (Go.Operand.tmp 1), type := 3, pos := "law.go:146", after := #[{ on := 12, ground := Go.Ground.guard }], guard := some (12, false) }) (v := ?_) rfl ?_ ?_ ?_ ?_ (Or.inl ⟨?_, ?_⟩) hH1 ?_
            rotate_left
            · kernel_rfl
            · kernel_rfl
            · kernel_rfl
            · exact fun _ _ _ h => h
            · kernel_rfl
            · intro wS hSw
              try dsimp only at hSw
              go_simp
              try with_reducible rfl
            try simp only [Act.put, List.setIfInBounds_toArray, List.set_cons_zero, List.set_cons_succ]
            refine wpAnyH_take (i := 16) (oi := { dst := some 67, op := Go.Op.load 25 (Go.Operand.tmp 3), type := 25, pos := "law.go:146", after := #[{ on := 12, ground := Go.Ground.guard }], guard := some (12, false) }) (v := ?_) rfl ?_ ?_ ?_ ?_ (Or.inl ⟨?_, ?_⟩) hH1 ?_
            rotate_left
            · kernel_rfl
            · kernel_rfl
            · kernel_rfl
            · exact fun _ _ _ h => h
            · kernel_rfl
            · intro wS hSw
              try dsimp only at hSw
              go_simp
              try with_reducible rfl
            try simp only [Act.put, List.setIfInBounds_toArray, List.set_cons_zero, List.set_cons_succ]
            refine wpAnyH_ready (rs := [14]) (by kernel_rfl) (by simp) ?_
            refine AllReadyH.cons (o := { dst := some 65, op := Go.Op.call { callee := Go.Callee.value (Go.Operand.func 25), args := #[Go.Operand.tmp 64], argTypes := #[25] }, type := 3, pos := "law.go:146", after := #[{ on := 13, ground := Go.Ground.data }, { on := 12, ground := Go.Ground.chain }, { on := 12, ground := Go.Ground.guard }], guard := some (12, false) }) rfl (fun K hK => ?_) AllReadyH.nil
            · go_simp
              refine (HLb.out _ _ _ Nbf.out Rbf.out).mono ?_
              rintro eg wg ⟨rfl, bg⟩
              try go_wp2_with fail
              have Sg := Lib.hid (held6 Sf.out bg)
              have Nbg := Lib.hid (Nbf.out.keep bg)
              have Rbg := Lib.hid (Rbf.out.keep bg)
              clear bg
              refine hK.out _ _ ?_ (fun hH2 => ?_)
              · exact Sg.out
              clear hK K hH1
              try simp only [Act.put, List.setIfInBounds_toArray, List.set_cons_zero, List.set_cons_succ]
              refine wpAnyH_ready (rs := [17]) (by kernel_rfl) (by simp) ?_
              refine AllReadyH.cons (o := { dst := some 68, op := Go.Op.call { callee := Go.Callee.value (Go.Operand.func 25), args := #[Go.Operand.tmp 67], argTypes := #[25] }, type := 3, pos := "law.go:146", after := #[{ on := 16, ground := Go.Ground.data }, { on := 14, ground := Go.Ground.chain }, { on := 12, ground := Go.Ground.guard }], guard := some (12, false) }) rfl (fun K hK => ?_) AllReadyH.nil
              · go_simp
                refine (HLc.out _ Sg.out.2.2.2.2.2.2.1).mono ?_
                rintro eh wh ⟨rfl, bh⟩
                try go_wp2_with fail
                have Sh := Lib.hid (held6 Sg.out bh)
                have Nbh := Lib.hid (Nbg.out.keep bh)
                have Rbh := Lib.hid (Rbg.out.keep bh)
                clear bh
                refine hK.out _ _ ?_ (fun hH3 => ?_)
                · exact Sh.out
                clear hK K hH2
                try simp only [Act.put, List.setIfInBounds_toArray, List.set_cons_zero, List.set_cons_succ]
                refine wpAnyH_take (i := 18) (oi := { dst := some 69, op := Go.Op.binOp Go.BinOp.mul 3 (Go.Operand.tmp 66) (Go.Operand.tmp 68) 3, type := 3, pos := "law.go:146", after := #[{ on := 15, ground := Go.Ground.data }, { on := 17, ground := Go.Ground.data }, { on := 12, ground := Go.Ground.guard }], guard := some (12, false) }) (v := ?_) rfl ?_ ?_ ?_ ?_ (Or.inl ⟨?_, ?_⟩) hH3 ?_
                rotate_left
                · kernel_rfl
                · kernel_rfl
                · kernel_rfl
                · exact fun _ _ _ h => h
                · kernel_rfl
                · intro wS hSw
                  try dsimp only at hSw
                  go_simp
                  try with_reducible rfl
                try simp only [Act.put, List.setIfInBounds_toArray, List.set_cons_zero, List.set_cons_succ]
                refine wpAnyH_take (i := 19) (oi := { dst := some 70, op := Go.Op.binOp Go.BinOp.neq 3 (Go.Operand.tmp 65) (Go.Operand.tmp 69) 3, type := 4, pos := "law.go:146", after := #[{ on := 14, ground := Go.Ground.data }, { on := 18, ground := Go.Ground.data }, { on := 12, ground := Go.Ground.guard }], guard := some (12, false) }) (v := ?_) rfl ?_ ?_ ?_ ?_ (Or.inl ⟨?_, ?_⟩) hH3 ?_
                rotate_left
                · kernel_rfl
                · kernel_rfl
                · kernel_rfl
                · exact fun _ _ _ h => h
                · kernel_rfl
                · intro wS hSw
                  try dsimp only at hSw
                  go_simp
                  try with_reducible rfl
                try simp only [Act.put, List.setIfInBounds_toArray, List.set_cons_zero, List.set_cons_succ]
                refine wpAnyH_take (i := 20) (oi := { dst := some 71, op := Go.Op.pick (Go.Operand.tmp 63) (Go.Operand.const (Go.Value.bool true)) (Go.Operand.tmp 70), type := 4, pos := "law.go:146", after := #[{ on := 12, ground := Go.Ground.data }, { on := 19, ground := Go.Ground.data }], guard := none }) (v := ?_) rfl ?_ ?_ ?_ ?_ (Or.inl ⟨?_, ?_⟩) hH3 ?_
                rotate_left
                · kernel_rfl
                · kernel_rfl
                · kernel_rfl
                · exact fun _ _ _ h => h
                · kernel_rfl
                · intro wS hSw
                  try dsimp only at hSw
                  go_simp
                  try with_reducible rfl
                try simp only [Act.put, List.setIfInBounds_toArray, List.set_cons_zero, List.set_cons_succ]
                refine wpAnyH_done (by kernel_rfl) ?_ _
                obtain ⟨g0, g1, x0, x1, y0, y1, BS, l0, l1, l2⟩ := Sh.out
                have BS := Lib.hid BS
                clear Sh Nbh Rbh
                go_wp2
                go_returns
                exact ⟨rfl, BS.out⟩
        · have d5' : decide (k < 0) = false := decide_eq_false d5
          by_cases d6 : n * lg R ≤ k
          · have d6' : decide (n * lg R ≤ k) = true := decide_eq_true d6
            clear HAtb' H2' q4 q5 q6 q7 hck hps HNH HRH' hc
            generalize lg R = G at *
            go_enter Try.func9, Try.ntmps9
            go_wp2_with (first
              | (go_at_call 10; go_must (refine (lives_any _).mono ?_; rintro e1 w1 ⟨rfl, b1⟩; have B1 := Lib.hid (B0.out.trans (b1.mono B0.out.size)); have P1 := Lib.hid (P0.out.keep b1); clear g0 g1; have g0 := P1.out.cell 0; have g1 := P1.out.cell 1; clear b1))
              | (go_at_call 11; go_must (refine (HF.out _ B1.out).mono ?_; rintro e2 w2 ⟨rfl, b2⟩; have B2 := Lib.hid (B1.out.trans (b2.mono B1.out.size)); have P2 := Lib.hid (P1.out.keep b2); clear g0 g1; have g0 := P2.out.cell 0; have g1 := P2.out.cell 1; clear b2))
              | (go_at_call 24; go_must (refine (HK.out _ B2.out).mono ?_; rintro e3 w3 ⟨rfl, b3⟩; have B3 := Lib.hid (B2.out.trans (b3.mono B2.out.size)); have P3 := Lib.hid (P2.out.keep b3); clear g0 g1; have g0 := P3.out.cell 0; have g1 := P3.out.cell 1; clear b3))
              | (go_at_call 25; go_must (refine (HLc.out _ B3.out).mono ?_; rintro e4 w4 ⟨rfl, b4⟩; have B4 := Lib.hid (B3.out.trans (b4.mono B3.out.size)); have P4 := Lib.hid (P3.out.keep b4); clear g0 g1; have g0 := P4.out.cell 0; have g1 := P4.out.cell 1; clear b4))
              | (go_at_call 21; go_must (first | (have tok := B6.out; refine (H2.out _ B6.out).mono ?_; rintro e7 w7 ⟨v7, u7, rfl, n7, r7, b7⟩; obtain ⟨CA, CC, rfl, _⟩ := n7.form; obtain ⟨DA, DC, rfl⟩ := r7.form; have B7 := Lib.hid (B6.out.trans (b7.mono B6.out.size)); have P8 := Lib.hid ((P6.out.keep b7).alloc (.cells #[.slice CA N.length CC, .slice DA S.length DC] 25)); have X8 := Lib.hid ((X6.out.keep b7).alloc (.cells #[.slice CA N.length CC, .slice DA S.length DC] 25)); have Y8 := Lib.hid (RowAt.new w7 25 #[.slice CA N.length CC, .slice DA S.length DC]); have Na8 := Lib.hid ((Na6.out.keep b7).keep (ba w7 (.cells #[.slice CA N.length CC, .slice DA S.length DC] 25))); have Ra8 := Lib.hid ((Ra6.out.keep b7).keep (ba w7 (.cells #[.slice CA N.length CC, .slice DA S.length DC] 25))); have Nb8 := Lib.hid (n7.keep (ba w7 (.cells #[.slice CA N.length CC, .slice DA S.length DC] 25))); have Rb8 := Lib.hid (r7.keep (ba w7 (.cells #[.slice CA N.length CC, .slice DA S.length DC] 25))); have B8 := Lib.hid (B7.out.alloc B7.out.size (.cells #[.slice CA N.length CC, .slice DA S.length DC] 25)); clear g0 g1 n7 r7 b7) | (refine (H1.out _ B4.out).mono ?_; rintro e5 w5 ⟨v5, u5, rfl, n5, r5, b5⟩; obtain ⟨UA, UC, rfl, _⟩ := n5.form; obtain ⟨VA, VC, rfl⟩ := r5.form; have B5 := Lib.hid (B4.out.trans (b5.mono B4.out.size)); have P6 := Lib.hid ((P4.out.keep b5).alloc (.cells #[.slice UA N.length UC, .slice VA (jn R).length VC] 25)); have X6 := Lib.hid (RowAt.new w5 25 #[.slice UA N.length UC, .slice VA (jn R).length VC]); have Na6 := Lib.hid (n5.keep (ba w5 (.cells #[.slice UA N.length UC, .slice VA (jn R).length VC] 25))); have Ra6 := Lib.hid (r5.keep (ba w5 (.cells #[.slice UA N.length UC, .slice VA (jn R).length VC] 25))); have B6 := Lib.hid (B5.out.alloc B5.out.size (.cells #[.slice UA N.length UC, .slice VA (jn R).length VC] 25)); clear g0 g1; have g0 := P6.out.cell 0; have g1 := P6.out.cell 1; clear n5 r5 b5))))
            obtain ⟨W8, hW8⟩ : ∃ W8, W8 = w7.alloc (.cells #[.slice CA N.length CC, .slice DA S.length DC] 25) := ⟨_, rfl⟩
            rw [← hW8]
            rw [← hW8] at P8 X8 Y8 Na8 Ra8 Nb8 Rb8 B8
            clear hW8 B7 Na6 Ra6 B6 P6 X6
            generalize w5.heap.size = bx at *
            generalize w7.heap.size = by' at *
            have Se := Lib.hid (show W8.drew.cell? ⟨w.heap.size, 0, none⟩ = some (.slice A1 N.length c1) ∧ W8.drew.cell? ⟨w.heap.size, 1, none⟩ = some (.slice A2 R.length c2) ∧ W8.drew.cell? ⟨bx, 0, none⟩ = some (.slice UA N.length UC) ∧ W8.drew.cell? ⟨bx, 1, none⟩ = some (.slice VA (jn R).length VC) ∧ W8.drew.cell? ⟨by', 0, none⟩ = some (.slice CA N.length CC) ∧ W8.drew.cell? ⟨by', 1, none⟩ = some (.slice DA S.length DC) ∧ Below w.heap.size w W8.drew ∧ w.heap.size < W8.drew.heap.size ∧ bx < W8.drew.heap.size ∧ by' < W8.drew.heap.size from ⟨P8.out.cell 0, P8.out.cell 1, X8.out.cell 0, X8.out.cell 1, Y8.out.cell 0, Y8.out.cell 1, B8.out.drew, P8.out.lt, X8.out.lt, Y8.out.lt⟩)
            have Nae := Lib.hid (show NmArg W8.drew _ _ from Na8.out)
            have Rae := Lib.hid (show RnArg W8.drew _ _ from Ra8.out)
            have Nbe := Lib.hid (show NmArg W8.drew _ _ from Nb8.out)
            have Rbe := Lib.hid (show RnArg W8.drew _ _ from Rb8.out)
            clear P8 X8 Y8 Na8 Ra8 Nb8 Rb8 B8
            refine wp_region_held_drew (S := fun w' => w'.cell? ⟨w.heap.size, 0, none⟩ = some (.slice A1 N.length c1) ∧ w'.cell? ⟨w.heap.size, 1, none⟩ = some (.slice A2 R.length c2) ∧ w'.cell? ⟨bx, 0, none⟩ = some (.slice UA N.length UC) ∧ w'.cell? ⟨bx, 1, none⟩ = some (.slice VA (jn R).length VC) ∧ w'.cell? ⟨by', 0, none⟩ = some (.slice CA N.length CC) ∧ w'.cell? ⟨by', 1, none⟩ = some (.slice DA S.length DC) ∧ Below w.heap.size w w' ∧ w.heap.size < w'.heap.size ∧ bx < w'.heap.size ∧ by' < w'.heap.size) (by kernel_rfl) ?_ (fun hH => ?_)
            · exact Se.out
            generalize W8.drew = we at *
            refine wpAnyH_take (i := 0) (oi := { dst := some 51, op := Go.Op.move (Go.Operand.tmp 8), type := 28, pos := "law.go:146", after := #[], guard := none }) (v := ?_) rfl ?_ ?_ ?_ ?_ (Or.inl ⟨?_, ?_⟩) hH ?_
            rotate_left
            · kernel_rfl
            · kernel_rfl
            · kernel_rfl
            · exact fun _ _ _ h => h
            · kernel_rfl
            · intro wS hSw
              try dsimp only at hSw
              go_simp
              try with_reducible rfl
            try simp only [Act.put, List.setIfInBounds_toArray, List.set_cons_zero, List.set_cons_succ]
            refine wpAnyH_take (i := 1) (oi := { dst := some 52, op := Go.Op.binOp Go.BinOp.neq 28 (Go.Operand.tmp 51) (Go.Operand.const (Go.Value.int Go.IntKind.i64 0)) 28, type := 4, pos := "law.go:146", after := #[{ on := 0, ground := Go.Ground.data }], guard := none }) (v := ?_) rfl ?_ ?_ ?_ ?_ (Or.inl ⟨?_, ?_⟩) hH ?_
            rotate_left
            · kernel_rfl
            · kernel_rfl
            · kernel_rfl
            · exact fun _ _ _ h => h
            · kernel_rfl
            · intro wS hSw
              try dsimp only at hSw
              go_simp
              try with_reducible rfl
            try simp only [Act.put, List.setIfInBounds_toArray, List.set_cons_zero, List.set_cons_succ]
            refine wpAnyH_take (i := 2) (oi := { dst := some 53, op := Go.Op.move (Go.Operand.tmp 52), type := 4, pos := "law.go:146", after := #[{ on := 1, ground := Go.Ground.data }], guard := none }) (v := ?_) rfl ?_ ?_ ?_ ?_ (Or.inl ⟨?_, ?_⟩) hH ?_
            rotate_left
            · kernel_rfl
            · kernel_rfl
            · kernel_rfl
            · exact fun _ _ _ h => h
            · kernel_rfl
            · intro wS hSw
              try dsimp only at hSw
              go_simp
              try with_reducible rfl
            try simp only [Act.put, List.setIfInBounds_toArray, List.set_cons_zero, List.set_cons_succ]
            refine wpAnyH_take (i := 3) (oi := { dst := some 54, op := Go.Op.load 25 (Go.Operand.tmp 7), type := 25, pos := "law.go:146", after := #[{ on := 2, ground := Go.Ground.guard }], guard := some (2, false) }) (v := ?_) rfl ?_ ?_ ?_ ?_ (Or.inl ⟨?_, ?_⟩) hH ?_
            rotate_left
            · kernel_rfl
            · kernel_rfl
            · kernel_rfl
            · exact fun _ _ _ h => h
            · kernel_rfl
            · intro wS hSw
              try dsimp only at hSw
              go_simp
              try with_reducible rfl
            try simp only [Act.put, List.setIfInBounds_toArray, List.set_cons_zero, List.set_cons_succ]
            refine wpAnyH_take (i := 4) (oi := { dst := some 55, op := Go.Op.load 25 (Go.Operand.tmp 3), type := 25, pos := "law.go:146", after := #[{ on := 2, ground := Go.Ground.guard }], guard := some (2, false) }) (v := ?_) rfl ?_ ?_ ?_ ?_ (Or.inl ⟨?_, ?_⟩) hH ?_
            rotate_left
            · kernel_rfl
            · kernel_rfl
            · kernel_rfl
            · exact fun _ _ _ h => h
            · kernel_rfl
            · intro wS hSw
              try dsimp only at hSw
              go_simp
              try with_reducible rfl
            try simp only [Act.put, List.setIfInBounds_toArray, List.set_cons_zero, List.set_cons_succ]
            refine wpAnyH_ready (rs := [5]) (by kernel_rfl) (by simp) ?_
            refine AllReadyH.cons (o := { dst := some 56, op := Go.Op.call { callee := Go.Callee.value (Go.Operand.func 26), args := #[Go.Operand.tmp 54, Go.Operand.tmp 55], argTypes := #[25, 25] }, type := 4, pos := "law.go:146", after := #[{ on := 3, ground := Go.Ground.data }, { on := 4, ground := Go.Ground.data }, { on := 2, ground := Go.Ground.chain }, { on := 2, ground := Go.Ground.guard }], guard := some (2, false) }) rfl (fun K hK => ?_) AllReadyH.nil
            · go_simp
              refine (HSame.out _ _ _ Se.out.2.2.2.2.2.2.1 Nae.out Rae.out).mono ?_
              rintro ef wf ⟨rfl, bf⟩
              try go_wp2_with fail
              have Sf := Lib.hid (held6 Se.out bf)
              have Nbf := Lib.hid (Nbe.out.keep bf)
              have Rbf := Lib.hid (Rbe.out.keep bf)
              clear bf
              refine hK.out _ _ ?_ (fun hH4 => ?_)
              · exact Sf.out
              clear hK K hH
              try simp only [Act.put, List.setIfInBounds_toArray, List.set_cons_zero, List.set_cons_succ]
              refine wpAnyH_take (i := 6) (oi := { dst := some 57, op := Go.Op.unOp Go.UnOp.not 4 (Go.Operand.tmp 56), type := 4, pos := "law.go:146", after := #[{ on := 5, ground := Go.Ground.data }, { on := 2, ground := Go.Ground.guard }], guard := some (2, false) }) (v := ?_) rfl ?_ ?_ ?_ ?_ (Or.inl ⟨?_, ?_⟩) hH4 ?_
              rotate_left
              · kernel_rfl
              · kernel_rfl
              · kernel_rfl
              · exact fun _ _ _ h => h
              · kernel_rfl
              · intro wS hSw
                try dsimp only at hSw
                go_simp
                try with_reducible rfl
              try simp only [Act.put, List.setIfInBounds_toArray, List.set_cons_zero, List.set_cons_succ]
              refine wpAnyH_take (i := 7) (oi := { dst := some 58, op := Go.Op.pick (Go.Operand.tmp 53) (Go.Operand.const (Go.Value.bool true)) (Go.Operand.tmp 57), type := 4, pos := "law.go:146", after := #[{ on := 2, ground := Go.Ground.data }, { on := 6, ground := Go.Ground.data }], guard := none }) (v := ?_) rfl ?_ ?_ ?_ ?_ (Or.inl ⟨?_, ?_⟩) hH4 ?_
              rotate_left
              · kernel_rfl
              · kernel_rfl
              · kernel_rfl
              · exact fun _ _ _ h => h
              · kernel_rfl
              · intro wS hSw
                try dsimp only at hSw
                go_simp
                try with_reducible rfl
              try simp only [Act.put, List.setIfInBounds_toArray, List.set_cons_zero, List.set_cons_succ]
              refine wpAnyH_take (i := 8) (oi := { dst := some 59, op := Go.Op.move (Go.Operand.tmp 58), type := 4, pos := "law.go:146", after := #[{ on := 7, ground := Go.Ground.data }, { on := 5, ground := Go.Ground.chain }], guard := none }) (v := ?_) rfl ?_ ?_ ?_ ?_ (Or.inl ⟨?_, ?_⟩) hH4 ?_
              rotate_left
              · kernel_rfl
              · kernel_rfl
              · kernel_rfl
              · exact fun _ _ _ h => h
              · kernel_rfl
              · intro wS hSw
                try dsimp only at hSw
                go_simp
                try with_reducible rfl
              try simp only [Act.put, List.setIfInBounds_toArray, List.set_cons_zero, List.set_cons_succ]
              refine wpAnyH_take (i := 9) (oi := { dst := some 60, op := Go.Op.move (Go.Operand.tmp 10), type := 28, pos := "law.go:146", after := #[{ on := 8, ground := Go.Ground.guard }], guard := some (8, false) }) (v := ?_) rfl ?_ ?_ ?_ ?_ (Or.inl ⟨?_, ?_⟩) hH4 ?_
              rotate_left
              · kernel_rfl
              · kernel_rfl
              · kernel_rfl
              · exact fun _ _ _ h => h
              · kernel_rfl
              · intro wS hSw
                try dsimp only at hSw
                go_simp
                try with_reducible rfl
              try simp only [Act.put, List.setIfInBounds_toArray, List.set_cons_zero, List.set_cons_succ]
              refine wpAnyH_take (i := 10) (oi := { dst := some 61, op := Go.Op.binOp Go.BinOp.neq 28 (Go.Operand.tmp 60) (Go.Operand.const (Go.Value.int Go.IntKind.i64 0)) 28, type := 4, pos := "law.go:146", after := #[{ on := 9, ground := Go.Ground.data }, { on := 8, ground := Go.Ground.guard }], guard := some (8, false) }) (v := ?_) rfl ?_ ?_ ?_ ?_ (Or.inl ⟨?_, ?_⟩) hH4 ?_
              rotate_left
              · kernel_rfl
              · kernel_rfl
              · kernel_rfl
              · exact fun _ _ _ h => h
              · kernel_rfl
              · intro wS hSw
                try dsimp only at hSw
                go_simp
                try with_reducible rfl
              try simp only [Act.put, List.setIfInBounds_toArray, List.set_cons_zero, List.set_cons_succ]
              refine wpAnyH_take (i := 11) (oi := { dst := some 62, op := Go.Op.pick (Go.Operand.tmp 59) (Go.Operand.const (Go.Value.bool true)) (Go.Operand.tmp 61), type := 4, pos := "law.go:146", after := #[{ on := 8, ground := Go.Ground.data }, { on := 10, ground := Go.Ground.data }], guard := none }) (v := ?_) rfl ?_ ?_ ?_ ?_ (Or.inl ⟨?_, ?_⟩) hH4 ?_
              rotate_left
              · kernel_rfl
              · kernel_rfl
              · kernel_rfl
              · exact fun _ _ _ h => h
              · kernel_rfl
              · intro wS hSw
                try dsimp only at hSw
                go_simp
                try with_reducible rfl
              try simp only [Act.put, List.setIfInBounds_toArray, List.set_cons_zero, List.set_cons_succ]
              refine wpAnyH_take (i := 12) (oi := { dst := some 63, op := Go.Op.move (Go.Operand.tmp 62), type := 4, pos := "law.go:146", after := #[{ on := 11, ground := Go.Ground.data }, { on := 8, ground := Go.Ground.chain }], guard := none }) (v := ?_) rfl ?_ ?_ ?_ ?_ (Or.inl ⟨?_, ?_⟩) hH4 ?_
              rotate_left
              · kernel_rfl
              · kernel_rfl
              · kernel_rfl
              · exact fun _ _ _ h => h
              · kernel_rfl
              · intro wS hSw
                try dsimp only at hSw
                go_simp
                try with_reducible rfl
              try simp only [Act.put, List.setIfInBounds_toArray, List.set_cons_zero, List.set_cons_succ]
              refine wpAnyH_take (i := 13) (oi := { dst := some 64, op := Go.Op.load 25 (Go.Operand.tmp 9), type := 25, pos := "law.go:146", after := #[{ on := 12, ground := Go.Ground.guard }], guard := some (12, false) }) (v := ?_) rfl ?_ ?_ ?_ ?_ (Or.inl ⟨?_, ?_⟩) hH4 ?_
              rotate_left
              · kernel_rfl
              · kernel_rfl
              · kernel_rfl
              · exact fun _ _ _ h => h
              · kernel_rfl
              · intro wS hSw
                try dsimp only at hSw
                go_simp
                try with_reducible rfl
              try simp only [Act.put, List.setIfInBounds_toArray, List.set_cons_zero, List.set_cons_succ]
              refine wpAnyH_take (i := 15) (oi := { dst := some 66, op := Go.Op.move (Go.Operand.tmp 1), type := 3, pos := "law.go:146", after := #[{ on := 12, ground := Go.Ground.guard }], guard := some (12, false) }) (v := ?_) rfl ?_ ?_ ?_ ?_ (Or.inl ⟨?_, ?_⟩) hH4 ?_
              rotate_left
              · kernel_rfl
              · kernel_rfl
              · kernel_rfl
              · exact fun _ _ _ h => h
              · kernel_rfl
              · intro wS hSw
                try dsimp only at hSw
                go_simp
                try with_reducible rfl
              try simp only [Act.put, List.setIfInBounds_toArray, List.set_cons_zero, List.set_cons_succ]
              refine wpAnyH_take (i := 16) (oi := { dst := some 67, op := Go.Op.load 25 (Go.Operand.tmp 3), type := 25, pos := "law.go:146", after := #[{ on := 12, ground := Go.Ground.guard }], guard := some (12, false) }) (v := ?_) rfl ?_ ?_ ?_ ?_ (Or.inl ⟨?_, ?_⟩) hH4 ?_
              rotate_left
              · kernel_rfl
              · kernel_rfl
              · kernel_rfl
              · exact fun _ _ _ h => h
              · kernel_rfl
              · intro wS hSw
                try dsimp only at hSw
                go_simp
                try with_reducible rfl
              try simp only [Act.put, List.setIfInBounds_toArray, List.set_cons_zero, List.set_cons_succ]
              refine wpAnyH_ready (rs := [14]) (by kernel_rfl) (by simp) ?_
              refine AllReadyH.cons (o := { dst := some 65, op := Go.Op.call { callee := Go.Callee.value (Go.Operand.func 25), args := #[Go.Operand.tmp 64], argTypes := #[25] }, type := 3, pos := "law.go:146", after := #[{ on := 13, ground := Go.Ground.data }, { on := 12, ground := Go.Ground.chain }, { on := 12, ground := Go.Ground.guard }], guard := some (12, false) }) rfl (fun K hK => ?_) AllReadyH.nil
              · go_simp
                refine (HLb.out _ _ _ Nbf.out Rbf.out).mono ?_
                rintro eg wg ⟨rfl, bg⟩
                try go_wp2_with fail
                have Sg := Lib.hid (held6 Sf.out bg)
                have Nbg := Lib.hid (Nbf.out.keep bg)
                have Rbg := Lib.hid (Rbf.out.keep bg)
                clear bg
                refine hK.out _ _ ?_ (fun hH5 => ?_)
                · exact Sg.out
                clear hK K hH4
                try simp only [Act.put, List.setIfInBounds_toArray, List.set_cons_zero, List.set_cons_succ]
                refine wpAnyH_ready (rs := [17]) (by kernel_rfl) (by simp) ?_
                refine AllReadyH.cons (o := { dst := some 68, op := Go.Op.call { callee := Go.Callee.value (Go.Operand.func 25), args := #[Go.Operand.tmp 67], argTypes := #[25] }, type := 3, pos := "law.go:146", after := #[{ on := 16, ground := Go.Ground.data }, { on := 14, ground := Go.Ground.chain }, { on := 12, ground := Go.Ground.guard }], guard := some (12, false) }) rfl (fun K hK => ?_) AllReadyH.nil
                · go_simp
                  refine (HLc.out _ Sg.out.2.2.2.2.2.2.1).mono ?_
                  rintro eh wh ⟨rfl, bh⟩
                  try go_wp2_with fail
                  have Sh := Lib.hid (held6 Sg.out bh)
                  have Nbh := Lib.hid (Nbg.out.keep bh)
                  have Rbh := Lib.hid (Rbg.out.keep bh)
                  clear bh
                  refine hK.out _ _ ?_ (fun hH6 => ?_)
                  · exact Sh.out
                  clear hK K hH5
                  try simp only [Act.put, List.setIfInBounds_toArray, List.set_cons_zero, List.set_cons_succ]
                  refine wpAnyH_take (i := 18) (oi := { dst := some 69, op := Go.Op.binOp Go.BinOp.mul 3 (Go.Operand.tmp 66) (Go.Operand.tmp 68) 3, type := 3, pos := "law.go:146", after := #[{ on := 15, ground := Go.Ground.data }, { on := 17, ground := Go.Ground.data }, { on := 12, ground := Go.Ground.guard }], guard := some (12, false) }) (v := ?_) rfl ?_ ?_ ?_ ?_ (Or.inl ⟨?_, ?_⟩) hH6 ?_
                  rotate_left
                  · kernel_rfl
                  · kernel_rfl
                  · kernel_rfl
                  · exact fun _ _ _ h => h
                  · kernel_rfl
                  · intro wS hSw
                    try dsimp only at hSw
                    go_simp
                    try with_reducible rfl
                  try simp only [Act.put, List.setIfInBounds_toArray, List.set_cons_zero, List.set_cons_succ]
                  refine wpAnyH_take (i := 19) (oi := { dst := some 70, op := Go.Op.binOp Go.BinOp.neq 3 (Go.Operand.tmp 65) (Go.Operand.tmp 69) 3, type := 4, pos := "law.go:146", after := #[{ on := 14, ground := Go.Ground.data }, { on := 18, ground := Go.Ground.data }, { on := 12, ground := Go.Ground.guard }], guard := some (12, false) }) (v := ?_) rfl ?_ ?_ ?_ ?_ (Or.inl ⟨?_, ?_⟩) hH6 ?_
                  rotate_left
                  · kernel_rfl
                  · kernel_rfl
                  · kernel_rfl
                  · exact fun _ _ _ h => h
                  · kernel_rfl
                  · intro wS hSw
                    try dsimp only at hSw
                    go_simp
                    try with_reducible rfl
                  try simp only [Act.put, List.setIfInBounds_toArray, List.set_cons_zero, List.set_cons_succ]
                  refine wpAnyH_take (i := 20) (oi := { dst := some 71, op := Go.Op.pick (Go.Operand.tmp 63) (Go.Operand.const (Go.Value.bool true)) (Go.Operand.tmp 70), type := 4, pos := "law.go:146", after := #[{ on := 12, ground := Go.Ground.data }, { on := 19, ground := Go.Ground.data }], guard := none }) (v := ?_) rfl ?_ ?_ ?_ ?_ (Or.inl ⟨?_, ?_⟩) hH6 ?_
                  rotate_left
                  · kernel_rfl
                  · kernel_rfl
                  · kernel_rfl
                  · exact fun _ _ _ h => h
                  · kernel_rfl
                  · intro wS hSw
                    try dsimp only at hSw
                    go_simp
                    try with_reducible rfl
                  try simp only [Act.put, List.setIfInBounds_toArray, List.set_cons_zero, List.set_cons_succ]
                  refine wpAnyH_done (by kernel_rfl) ?_ _
                  obtain ⟨g0, g1, x0, x1, y0, y1, BS, l0, l1, l2⟩ := Sh.out
                  have BS := Lib.hid BS
                  go_wp2_with (first
                    | (go_at_call 25; go_must (refine (HLb.out _ _ _ Nbh.out Rbh.out).mono ?_; rintro ej wj ⟨rfl, bj⟩; have Sj := Lib.hid (held6 Sh.out bj); have Nbj := Lib.hid (Nbh.out.keep bj); have Rbj := Lib.hid (Rbh.out.keep bj); clear g0 g1 x0 x1 y0 y1; obtain ⟨g0, g1, x0, x1, y0, y1, BSj', _, _, _⟩ := Sj.out; have BSj := Lib.hid BSj'; clear bj BSj')))
                  go_returns
                  exact ⟨rfl, BSj.out⟩
          · have d6' : decide (n * lg R ≤ k) = false := decide_eq_false d6
            have k2 : k / n < lg R := Int.ediv_lt_of_lt_mul (by omega) (by rw [Int.mul_comm]; omega)
            have k3 : 0 ≤ k / n := Int.ediv_nonneg (by omega) (by omega)
            have hq : k.tdiv n = k / n := Int.tdiv_eq_ediv_of_nonneg (by omega)
            have hqn : IntKind.i64.wrap (k / n) = k / n := IntWalk.i64_in _ (by omega)
            have hqn' : IntKind.i64.wrap (k.tdiv n) = k / n := by rw [hq]; exact hqn
            have hn0 : ¬ n = 0 := by omega
            have hn0' : (n == 0) = false := by rw [beq_eq_false_iff_ne]; exact hn0
            obtain ⟨i1, r, hr, hr2⟩ := atv_in k3 hps k2
            have HAtc' := fun w' (hb : Below w.heap.size w w') => at_any N R _ _ (k / n) w' (HNH.out w' hb) hs (HRH'.out w' hb) (by omega) (by omega)
            have ea : atC N S k = ((atv R (k / n)).1, true) := by rw [atC_yes q4 (by omega), q7 k (by omega) (by omega)]; exact Prod.ext rfl i1
            have ec : atC N R (k / n) = ((atv R (k / n)).1, true) := by rw [atC_yes hc k3]; exact Prod.ext rfl i1
            rw [ea] at HAtb'
            rw [ec] at HAtc'
            have HAtb := Lib.hid (show ∀ V U w', NmArg w' V N → RnArg w' U S → Calls Try.prog 23 #[.agg #[V, U], .int .i64 k] w' fun e w'' => e = .returned (.tuple #[.int .i64 (atv R (k / n)).1, .bool true]) ∧ Below w'.heap.size w' w'' from HAtb')
            have HAtc := Lib.hid (show ∀ w', Below w.heap.size w w' → Calls Try.prog 23 #[.agg #[.slice A1 N.length c1, .slice A2 R.length c2], .int .i64 (k / n)] w' fun e w'' => e = .returned (.tuple #[.int .i64 (atv R (k / n)).1, .bool true]) ∧ Below w'.heap.size w' w'' from HAtc')
            clear HAtb' HAtc' H2' q4 q5 q6 q7 hck hps HNH HRH' hc ea ec i1 hr hr2 hq
            generalize (atv R (k / n)).1 = L at *
            generalize lg R = G at *
            generalize k / n = Q at *
            go_enter Try.func9, Try.ntmps9
            go_wp2_with (first
              | (go_at_call 10; go_must (refine (lives_any _).mono ?_; rintro e1 w1 ⟨rfl, b1⟩; have B1 := Lib.hid (B0.out.trans (b1.mono B0.out.size)); have P1 := Lib.hid (P0.out.keep b1); clear g0 g1; have g0 := P1.out.cell 0; have g1 := P1.out.cell 1; clear b1))
              | (go_at_call 11; go_must (refine (HF.out _ B1.out).mono ?_; rintro e2 w2 ⟨rfl, b2⟩; have B2 := Lib.hid (B1.out.trans (b2.mono B1.out.size)); have P2 := Lib.hid (P1.out.keep b2); clear g0 g1; have g0 := P2.out.cell 0; have g1 := P2.out.cell 1; clear b2))
              | (go_at_call 24; go_must (refine (HK.out _ B2.out).mono ?_; rintro e3 w3 ⟨rfl, b3⟩; have B3 := Lib.hid (B2.out.trans (b3.mono B2.out.size)); have P3 := Lib.hid (P2.out.keep b3); clear g0 g1; have g0 := P3.out.cell 0; have g1 := P3.out.cell 1; clear b3))
              | (go_at_call 25; go_must (refine (HLc.out _ B3.out).mono ?_; rintro e4 w4 ⟨rfl, b4⟩; have B4 := Lib.hid (B3.out.trans (b4.mono B3.out.size)); have P4 := Lib.hid (P3.out.keep b4); clear g0 g1; have g0 := P4.out.cell 0; have g1 := P4.out.cell 1; clear b4))
              | (go_at_call 21; go_must (first | (have tok := B6.out; refine (H2.out _ B6.out).mono ?_; rintro e7 w7 ⟨v7, u7, rfl, n7, r7, b7⟩; obtain ⟨CA, CC, rfl, _⟩ := n7.form; obtain ⟨DA, DC, rfl⟩ := r7.form; have B7 := Lib.hid (B6.out.trans (b7.mono B6.out.size)); have P8 := Lib.hid ((P6.out.keep b7).alloc (.cells #[.slice CA N.length CC, .slice DA S.length DC] 25)); have X8 := Lib.hid ((X6.out.keep b7).alloc (.cells #[.slice CA N.length CC, .slice DA S.length DC] 25)); have Y8 := Lib.hid (RowAt.new w7 25 #[.slice CA N.length CC, .slice DA S.length DC]); have Na8 := Lib.hid ((Na6.out.keep b7).keep (ba w7 (.cells #[.slice CA N.length CC, .slice DA S.length DC] 25))); have Ra8 := Lib.hid ((Ra6.out.keep b7).keep (ba w7 (.cells #[.slice CA N.length CC, .slice DA S.length DC] 25))); have Nb8 := Lib.hid (n7.keep (ba w7 (.cells #[.slice CA N.length CC, .slice DA S.length DC] 25))); have Rb8 := Lib.hid (r7.keep (ba w7 (.cells #[.slice CA N.length CC, .slice DA S.length DC] 25))); have B8 := Lib.hid (B7.out.alloc B7.out.size (.cells #[.slice CA N.length CC, .slice DA S.length DC] 25)); clear g0 g1 n7 r7 b7) | (refine (H1.out _ B4.out).mono ?_; rintro e5 w5 ⟨v5, u5, rfl, n5, r5, b5⟩; obtain ⟨UA, UC, rfl, _⟩ := n5.form; obtain ⟨VA, VC, rfl⟩ := r5.form; have B5 := Lib.hid (B4.out.trans (b5.mono B4.out.size)); have P6 := Lib.hid ((P4.out.keep b5).alloc (.cells #[.slice UA N.length UC, .slice VA (jn R).length VC] 25)); have X6 := Lib.hid (RowAt.new w5 25 #[.slice UA N.length UC, .slice VA (jn R).length VC]); have Na6 := Lib.hid (n5.keep (ba w5 (.cells #[.slice UA N.length UC, .slice VA (jn R).length VC] 25))); have Ra6 := Lib.hid (r5.keep (ba w5 (.cells #[.slice UA N.length UC, .slice VA (jn R).length VC] 25))); have B6 := Lib.hid (B5.out.alloc B5.out.size (.cells #[.slice UA N.length UC, .slice VA (jn R).length VC] 25)); clear g0 g1; have g0 := P6.out.cell 0; have g1 := P6.out.cell 1; clear n5 r5 b5))))
            obtain ⟨W8, hW8⟩ : ∃ W8, W8 = w7.alloc (.cells #[.slice CA N.length CC, .slice DA S.length DC] 25) := ⟨_, rfl⟩
            rw [← hW8]
            rw [← hW8] at P8 X8 Y8 Na8 Ra8 Nb8 Rb8 B8
            clear hW8 B7 Na6 Ra6 B6 P6 X6
            generalize w5.heap.size = bx at *
            generalize w7.heap.size = by' at *
            have Se := Lib.hid (show W8.drew.cell? ⟨w.heap.size, 0, none⟩ = some (.slice A1 N.length c1) ∧ W8.drew.cell? ⟨w.heap.size, 1, none⟩ = some (.slice A2 R.length c2) ∧ W8.drew.cell? ⟨bx, 0, none⟩ = some (.slice UA N.length UC) ∧ W8.drew.cell? ⟨bx, 1, none⟩ = some (.slice VA (jn R).length VC) ∧ W8.drew.cell? ⟨by', 0, none⟩ = some (.slice CA N.length CC) ∧ W8.drew.cell? ⟨by', 1, none⟩ = some (.slice DA S.length DC) ∧ Below w.heap.size w W8.drew ∧ w.heap.size < W8.drew.heap.size ∧ bx < W8.drew.heap.size ∧ by' < W8.drew.heap.size from ⟨P8.out.cell 0, P8.out.cell 1, X8.out.cell 0, X8.out.cell 1, Y8.out.cell 0, Y8.out.cell 1, B8.out.drew, P8.out.lt, X8.out.lt, Y8.out.lt⟩)
            have Nae := Lib.hid (show NmArg W8.drew _ _ from Na8.out)
            have Rae := Lib.hid (show RnArg W8.drew _ _ from Ra8.out)
            have Nbe := Lib.hid (show NmArg W8.drew _ _ from Nb8.out)
            have Rbe := Lib.hid (show RnArg W8.drew _ _ from Rb8.out)
            clear P8 X8 Y8 Na8 Ra8 Nb8 Rb8 B8
            refine wp_region_held_drew (S := fun w' => w'.cell? ⟨w.heap.size, 0, none⟩ = some (.slice A1 N.length c1) ∧ w'.cell? ⟨w.heap.size, 1, none⟩ = some (.slice A2 R.length c2) ∧ w'.cell? ⟨bx, 0, none⟩ = some (.slice UA N.length UC) ∧ w'.cell? ⟨bx, 1, none⟩ = some (.slice VA (jn R).length VC) ∧ w'.cell? ⟨by', 0, none⟩ = some (.slice CA N.length CC) ∧ w'.cell? ⟨by', 1, none⟩ = some (.slice DA S.length DC) ∧ Below w.heap.size w w' ∧ w.heap.size < w'.heap.size ∧ bx < w'.heap.size ∧ by' < w'.heap.size) (by kernel_rfl) ?_ (fun hH => ?_)
            · exact Se.out
            generalize W8.drew = we at *
            refine wpAnyH_take (i := 0) (oi := { dst := some 51, op := Go.Op.move (Go.Operand.tmp 8), type := 28, pos := "law.go:146", after := #[], guard := none }) (v := ?_) rfl ?_ ?_ ?_ ?_ (Or.inl ⟨?_, ?_⟩) hH ?_
            rotate_left
            · kernel_rfl
            · kernel_rfl
            · kernel_rfl
            · exact fun _ _ _ h => h
            · kernel_rfl
            · intro wS hSw
              try dsimp only at hSw
              go_simp
              try with_reducible rfl
            try simp only [Act.put, List.setIfInBounds_toArray, List.set_cons_zero, List.set_cons_succ]
            refine wpAnyH_take (i := 1) (oi := { dst := some 52, op := Go.Op.binOp Go.BinOp.neq 28 (Go.Operand.tmp 51) (Go.Operand.const (Go.Value.int Go.IntKind.i64 0)) 28, type := 4, pos := "law.go:146", after := #[{ on := 0, ground := Go.Ground.data }], guard := none }) (v := ?_) rfl ?_ ?_ ?_ ?_ (Or.inl ⟨?_, ?_⟩) hH ?_
            rotate_left
            · kernel_rfl
            · kernel_rfl
            · kernel_rfl
            · exact fun _ _ _ h => h
            · kernel_rfl
            · intro wS hSw
              try dsimp only at hSw
              go_simp
              try with_reducible rfl
            try simp only [Act.put, List.setIfInBounds_toArray, List.set_cons_zero, List.set_cons_succ]
            refine wpAnyH_take (i := 2) (oi := { dst := some 53, op := Go.Op.move (Go.Operand.tmp 52), type := 4, pos := "law.go:146", after := #[{ on := 1, ground := Go.Ground.data }], guard := none }) (v := ?_) rfl ?_ ?_ ?_ ?_ (Or.inl ⟨?_, ?_⟩) hH ?_
            rotate_left
            · kernel_rfl
            · kernel_rfl
            · kernel_rfl
            · exact fun _ _ _ h => h
            · kernel_rfl
            · intro wS hSw
              try dsimp only at hSw
              go_simp
              try with_reducible rfl
            try simp only [Act.put, List.setIfInBounds_toArray, List.set_cons_zero, List.set_cons_succ]
            refine wpAnyH_take (i := 3) (oi := { dst := some 54, op := Go.Op.load 25 (Go.Operand.tmp 7), type := 25, pos := "law.go:146", after := #[{ on := 2, ground := Go.Ground.guard }], guard := some (2, false) }) (v := ?_) rfl ?_ ?_ ?_ ?_ (Or.inl ⟨?_, ?_⟩) hH ?_
            rotate_left
            · kernel_rfl
            · kernel_rfl
            · kernel_rfl
            · exact fun _ _ _ h => h
            · kernel_rfl
            · intro wS hSw
              try dsimp only at hSw
              go_simp
              try with_reducible rfl
            try simp only [Act.put, List.setIfInBounds_toArray, List.set_cons_zero, List.set_cons_succ]
            refine wpAnyH_take (i := 4) (oi := { dst := some 55, op := Go.Op.load 25 (Go.Operand.tmp 3), type := 25, pos := "law.go:146", after := #[{ on := 2, ground := Go.Ground.guard }], guard := some (2, false) }) (v := ?_) rfl ?_ ?_ ?_ ?_ (Or.inl ⟨?_, ?_⟩) hH ?_
            rotate_left
            · kernel_rfl
            · kernel_rfl
            · kernel_rfl
            · exact fun _ _ _ h => h
            · kernel_rfl
            · intro wS hSw
              try dsimp only at hSw
              go_simp
              try with_reducible rfl
            try simp only [Act.put, List.setIfInBounds_toArray, List.set_cons_zero, List.set_cons_succ]
            refine wpAnyH_ready (rs := [5]) (by kernel_rfl) (by simp) ?_
            refine AllReadyH.cons (o := { dst := some 56, op := Go.Op.call { callee := Go.Callee.value (Go.Operand.func 26), args := #[Go.Operand.tmp 54, Go.Operand.tmp 55], argTypes := #[25, 25] }, type := 4, pos := "law.go:146", after := #[{ on := 3, ground := Go.Ground.data }, { on := 4, ground := Go.Ground.data }, { on := 2, ground := Go.Ground.chain }, { on := 2, ground := Go.Ground.guard }], guard := some (2, false) }) rfl (fun K hK => ?_) AllReadyH.nil
            · go_simp
              refine (HSame.out _ _ _ Se.out.2.2.2.2.2.2.1 Nae.out Rae.out).mono ?_
              rintro ef wf ⟨rfl, bf⟩
              try go_wp2_with fail
              have Sf := Lib.hid (held6 Se.out bf)
              have Nbf := Lib.hid (Nbe.out.keep bf)
              have Rbf := Lib.hid (Rbe.out.keep bf)
              clear bf
              refine hK.out _ _ ?_ (fun hH7 => ?_)
              · exact Sf.out
              clear hK K hH
              try simp only [Act.put, List.setIfInBounds_toArray, List.set_cons_zero, List.set_cons_succ]
              refine wpAnyH_take (i := 6) (oi := { dst := some 57, op := Go.Op.unOp Go.UnOp.not 4 (Go.Operand.tmp 56), type := 4, pos := "law.go:146", after := #[{ on := 5, ground := Go.Ground.data }, { on := 2, ground := Go.Ground.guard }], guard := some (2, false) }) (v := ?_) rfl ?_ ?_ ?_ ?_ (Or.inl ⟨?_, ?_⟩) hH7 ?_
              rotate_left
              · kernel_rfl
              · kernel_rfl
              · kernel_rfl
              · exact fun _ _ _ h => h
              · kernel_rfl
              · intro wS hSw
                try dsimp only at hSw
                go_simp
                try with_reducible rfl
              try simp only [Act.put, List.setIfInBounds_toArray, List.set_cons_zero, List.set_cons_succ]
              refine wpAnyH_take (i := 7) (oi := { dst := some 58, op := Go.Op.pick (Go.Operand.tmp 53) (Go.Operand.const (Go.Value.bool true)) (Go.Operand.tmp 57), type := 4, pos := "law.go:146", after := #[{ on := 2, ground := Go.Ground.data }, { on := 6, ground := Go.Ground.data }], guard := none }) (v := ?_) rfl ?_ ?_ ?_ ?_ (Or.inl ⟨?_, ?_⟩) hH7 ?_
              rotate_left
              · kernel_rfl
              · kernel_rfl
              · kernel_rfl
              · exact fun _ _ _ h => h
              · kernel_rfl
              · intro wS hSw
                try dsimp only at hSw
                go_simp
                try with_reducible rfl
              try simp only [Act.put, List.setIfInBounds_toArray, List.set_cons_zero, List.set_cons_succ]
              refine wpAnyH_take (i := 8) (oi := { dst := some 59, op := Go.Op.move (Go.Operand.tmp 58), type := 4, pos := "law.go:146", after := #[{ on := 7, ground := Go.Ground.data }, { on := 5, ground := Go.Ground.chain }], guard := none }) (v := ?_) rfl ?_ ?_ ?_ ?_ (Or.inl ⟨?_, ?_⟩) hH7 ?_
              rotate_left
              · kernel_rfl
              · kernel_rfl
              · kernel_rfl
              · exact fun _ _ _ h => h
              · kernel_rfl
              · intro wS hSw
                try dsimp only at hSw
                go_simp
                try with_reducible rfl
              try simp only [Act.put, List.setIfInBounds_toArray, List.set_cons_zero, List.set_cons_succ]
              refine wpAnyH_take (i := 9) (oi := { dst := some 60, op := Go.Op.move (Go.Operand.tmp 10), type := 28, pos := "law.go:146", after := #[{ on := 8, ground := Go.Ground.guard }], guard := some (8, false) }) (v := ?_) rfl ?_ ?_ ?_ ?_ (Or.inl ⟨?_, ?_⟩) hH7 ?_
              rotate_left
              · kernel_rfl
              · kernel_rfl
              · kernel_rfl
              · exact fun _ _ _ h => h
              · kernel_rfl
              · intro wS hSw
                try dsimp only at hSw
                go_simp
                try with_reducible rfl
              try simp only [Act.put, List.setIfInBounds_toArray, List.set_cons_zero, List.set_cons_succ]
              refine wpAnyH_take (i := 10) (oi := { dst := some 61, op := Go.Op.binOp Go.BinOp.neq 28 (Go.Operand.tmp 60) (Go.Operand.const (Go.Value.int Go.IntKind.i64 0)) 28, type := 4, pos := "law.go:146", after := #[{ on := 9, ground := Go.Ground.data }, { on := 8, ground := Go.Ground.guard }], guard := some (8, false) }) (v := ?_) rfl ?_ ?_ ?_ ?_ (Or.inl ⟨?_, ?_⟩) hH7 ?_
              rotate_left
              · kernel_rfl
              · kernel_rfl
              · kernel_rfl
              · exact fun _ _ _ h => h
              · kernel_rfl
              · intro wS hSw
                try dsimp only at hSw
                go_simp
                try with_reducible rfl
              try simp only [Act.put, List.setIfInBounds_toArray, List.set_cons_zero, List.set_cons_succ]
              refine wpAnyH_take (i := 11) (oi := { dst := some 62, op := Go.Op.pick (Go.Operand.tmp 59) (Go.Operand.const (Go.Value.bool true)) (Go.Operand.tmp 61), type := 4, pos := "law.go:146", after := #[{ on := 8, ground := Go.Ground.data }, { on := 10, ground := Go.Ground.data }], guard := none }) (v := ?_) rfl ?_ ?_ ?_ ?_ (Or.inl ⟨?_, ?_⟩) hH7 ?_
              rotate_left
              · kernel_rfl
              · kernel_rfl
              · kernel_rfl
              · exact fun _ _ _ h => h
              · kernel_rfl
              · intro wS hSw
                try dsimp only at hSw
                go_simp
                try with_reducible rfl
              try simp only [Act.put, List.setIfInBounds_toArray, List.set_cons_zero, List.set_cons_succ]
              refine wpAnyH_take (i := 12) (oi := { dst := some 63, op := Go.Op.move (Go.Operand.tmp 62), type := 4, pos := "law.go:146", after := #[{ on := 11, ground := Go.Ground.data }, { on := 8, ground := Go.Ground.chain }], guard := none }) (v := ?_) rfl ?_ ?_ ?_ ?_ (Or.inl ⟨?_, ?_⟩) hH7 ?_
              rotate_left
              · kernel_rfl
              · kernel_rfl
              · kernel_rfl
              · exact fun _ _ _ h => h
              · kernel_rfl
              · intro wS hSw
                try dsimp only at hSw
                go_simp
                try with_reducible rfl
              try simp only [Act.put, List.setIfInBounds_toArray, List.set_cons_zero, List.set_cons_succ]
              refine wpAnyH_take (i := 13) (oi := { dst := some 64, op := Go.Op.load 25 (Go.Operand.tmp 9), type := 25, pos := "law.go:146", after := #[{ on := 12, ground := Go.Ground.guard }], guard := some (12, false) }) (v := ?_) rfl ?_ ?_ ?_ ?_ (Or.inl ⟨?_, ?_⟩) hH7 ?_
              rotate_left
              · kernel_rfl
              · kernel_rfl
              · kernel_rfl
              · exact fun _ _ _ h => h
              · kernel_rfl
              · intro wS hSw
                try dsimp only at hSw
                go_simp
                try with_reducible rfl
              try simp only [Act.put, List.setIfInBounds_toArray, List.set_cons_zero, List.set_cons_succ]
              refine wpAnyH_take (i := 15) (oi := { dst := some 66, op := Go.Op.move (Go.Operand.tmp 1), type := 3, pos := "law.go:146", after := #[{ on := 12, ground := Go.Ground.guard }], guard := some (12, false) }) (v := ?_) rfl ?_ ?_ ?_ ?_ (Or.inl ⟨?_, ?_⟩) hH7 ?_
              rotate_left
              · kernel_rfl
              · kernel_rfl
              · kernel_rfl
              · exact fun _ _ _ h => h
              · kernel_rfl
              · intro wS hSw
                try dsimp only at hSw
                go_simp
                try with_reducible rfl
              try simp only [Act.put, List.setIfInBounds_toArray, List.set_cons_zero, List.set_cons_succ]
              refine wpAnyH_take (i := 16) (oi := { dst := some 67, op := Go.Op.load 25 (Go.Operand.tmp 3), type := 25, pos := "law.go:146", after := #[{ on := 12, ground := Go.Ground.guard }], guard := some (12, false) }) (v := ?_) rfl ?_ ?_ ?_ ?_ (Or.inl ⟨?_, ?_⟩) hH7 ?_
              rotate_left
              · kernel_rfl
              · kernel_rfl
              · kernel_rfl
              · exact fun _ _ _ h => h
              · kernel_rfl
              · intro wS hSw
                try dsimp only at hSw
                go_simp
                try with_reducible rfl
              try simp only [Act.put, List.setIfInBounds_toArray, List.set_cons_zero, List.set_cons_succ]
              refine wpAnyH_ready (rs := [14]) (by kernel_rfl) (by simp) ?_
              refine AllReadyH.cons (o := { dst := some 65, op := Go.Op.call { callee := Go.Callee.value (Go.Operand.func 25), args := #[Go.Operand.tmp 64], argTypes := #[25] }, type := 3, pos := "law.go:146", after := #[{ on := 13, ground := Go.Ground.data }, { on := 12, ground := Go.Ground.chain }, { on := 12, ground := Go.Ground.guard }], guard := some (12, false) }) rfl (fun K hK => ?_) AllReadyH.nil
              · go_simp
                refine (HLb.out _ _ _ Nbf.out Rbf.out).mono ?_
                rintro eg wg ⟨rfl, bg⟩
                try go_wp2_with fail
                have Sg := Lib.hid (held6 Sf.out bg)
                have Nbg := Lib.hid (Nbf.out.keep bg)
                have Rbg := Lib.hid (Rbf.out.keep bg)
                clear bg
                refine hK.out _ _ ?_ (fun hH8 => ?_)
                · exact Sg.out
                clear hK K hH7
                try simp only [Act.put, List.setIfInBounds_toArray, List.set_cons_zero, List.set_cons_succ]
                refine wpAnyH_ready (rs := [17]) (by kernel_rfl) (by simp) ?_
                refine AllReadyH.cons (o := { dst := some 68, op := Go.Op.call { callee := Go.Callee.value (Go.Operand.func 25), args := #[Go.Operand.tmp 67], argTypes := #[25] }, type := 3, pos := "law.go:146", after := #[{ on := 16, ground := Go.Ground.data }, { on := 14, ground := Go.Ground.chain }, { on := 12, ground := Go.Ground.guard }], guard := some (12, false) }) rfl (fun K hK => ?_) AllReadyH.nil
                · go_simp
                  refine (HLc.out _ Sg.out.2.2.2.2.2.2.1).mono ?_
                  rintro eh wh ⟨rfl, bh⟩
                  try go_wp2_with fail
                  have Sh := Lib.hid (held6 Sg.out bh)
                  have Nbh := Lib.hid (Nbg.out.keep bh)
                  have Rbh := Lib.hid (Rbg.out.keep bh)
                  clear bh
                  refine hK.out _ _ ?_ (fun hH9 => ?_)
                  · exact Sh.out
                  clear hK K hH8
                  try simp only [Act.put, List.setIfInBounds_toArray, List.set_cons_zero, List.set_cons_succ]
                  refine wpAnyH_take (i := 18) (oi := { dst := some 69, op := Go.Op.binOp Go.BinOp.mul 3 (Go.Operand.tmp 66) (Go.Operand.tmp 68) 3, type := 3, pos := "law.go:146", after := #[{ on := 15, ground := Go.Ground.data }, { on := 17, ground := Go.Ground.data }, { on := 12, ground := Go.Ground.guard }], guard := some (12, false) }) (v := ?_) rfl ?_ ?_ ?_ ?_ (Or.inl ⟨?_, ?_⟩) hH9 ?_
                  rotate_left
                  · kernel_rfl
                  · kernel_rfl
                  · kernel_rfl
                  · exact fun _ _ _ h => h
                  · kernel_rfl
                  · intro wS hSw
                    try dsimp only at hSw
                    go_simp
                    try with_reducible rfl
                  try simp only [Act.put, List.setIfInBounds_toArray, List.set_cons_zero, List.set_cons_succ]
                  refine wpAnyH_take (i := 19) (oi := { dst := some 70, op := Go.Op.binOp Go.BinOp.neq 3 (Go.Operand.tmp 65) (Go.Operand.tmp 69) 3, type := 4, pos := "law.go:146", after := #[{ on := 14, ground := Go.Ground.data }, { on := 18, ground := Go.Ground.data }, { on := 12, ground := Go.Ground.guard }], guard := some (12, false) }) (v := ?_) rfl ?_ ?_ ?_ ?_ (Or.inl ⟨?_, ?_⟩) hH9 ?_
                  rotate_left
                  · kernel_rfl
                  · kernel_rfl
                  · kernel_rfl
                  · exact fun _ _ _ h => h
                  · kernel_rfl
                  · intro wS hSw
                    try dsimp only at hSw
                    go_simp
                    try with_reducible rfl
                  try simp only [Act.put, List.setIfInBounds_toArray, List.set_cons_zero, List.set_cons_succ]
                  refine wpAnyH_take (i := 20) (oi := { dst := some 71, op := Go.Op.pick (Go.Operand.tmp 63) (Go.Operand.const (Go.Value.bool true)) (Go.Operand.tmp 70), type := 4, pos := "law.go:146", after := #[{ on := 12, ground := Go.Ground.data }, { on := 19, ground := Go.Ground.data }], guard := none }) (v := ?_) rfl ?_ ?_ ?_ ?_ (Or.inl ⟨?_, ?_⟩) hH9 ?_
                  rotate_left
                  · kernel_rfl
                  · kernel_rfl
                  · kernel_rfl
                  · exact fun _ _ _ h => h
                  · kernel_rfl
                  · intro wS hSw
                    try dsimp only at hSw
                    go_simp
                    try with_reducible rfl
                  try simp only [Act.put, List.setIfInBounds_toArray, List.set_cons_zero, List.set_cons_succ]
                  refine wpAnyH_done (by kernel_rfl) ?_ _
                  obtain ⟨g0, g1, x0, x1, y0, y1, BS, l0, l1, l2⟩ := Sh.out
                  have BS := Lib.hid BS
                  go_wp2_with (first
                    | (go_at_call 25; go_must (refine (HLb.out _ _ _ Nbh.out Rbh.out).mono ?_; rintro ej wj ⟨rfl, bj⟩; have Sj := Lib.hid (held6 Sh.out bj); have Nbj := Lib.hid (Nbh.out.keep bj); have Rbj := Lib.hid (Rbh.out.keep bj); clear g0 g1 x0 x1 y0 y1; obtain ⟨g0, g1, x0, x1, y0, y1, BSj', _, _, _⟩ := Sj.out; have BSj := Lib.hid BSj'; clear bj BSj'))
                    | (go_at_call 23; go_must (refine (HAtb.out _ _ _ Nbj.out Rbj.out).mono ?_; rintro ek wk ⟨rfl, bk⟩; have Sk := Lib.hid (held6 Sj.out bk); clear g0 g1 x0 x1 y0 y1 bk)))
                  have Sm := Lib.hid (show wk.drew.cell? ⟨w.heap.size, 0, none⟩ = some (.slice A1 N.length c1) ∧ wk.drew.cell? ⟨w.heap.size, 1, none⟩ = some (.slice A2 R.length c2) ∧ wk.drew.cell? ⟨bx, 0, none⟩ = some (.slice UA N.length UC) ∧ wk.drew.cell? ⟨bx, 1, none⟩ = some (.slice VA (jn R).length VC) ∧ wk.drew.cell? ⟨by', 0, none⟩ = some (.slice CA N.length CC) ∧ wk.drew.cell? ⟨by', 1, none⟩ = some (.slice DA S.length DC) ∧ Below w.heap.size w wk.drew ∧ w.heap.size < wk.drew.heap.size ∧ bx < wk.drew.heap.size ∧ by' < wk.drew.heap.size from ⟨Sk.out.1, Sk.out.2.1, Sk.out.2.2.1, Sk.out.2.2.2.1, Sk.out.2.2.2.2.1, Sk.out.2.2.2.2.2.1, Sk.out.2.2.2.2.2.2.1.drew, Sk.out.2.2.2.2.2.2.2⟩)
                  clear Sk
                  refine wp_region_held_drew (S := fun w' => w'.cell? ⟨w.heap.size, 0, none⟩ = some (.slice A1 N.length c1) ∧ w'.cell? ⟨w.heap.size, 1, none⟩ = some (.slice A2 R.length c2) ∧ w'.cell? ⟨bx, 0, none⟩ = some (.slice UA N.length UC) ∧ w'.cell? ⟨bx, 1, none⟩ = some (.slice VA (jn R).length VC) ∧ w'.cell? ⟨by', 0, none⟩ = some (.slice CA N.length CC) ∧ w'.cell? ⟨by', 1, none⟩ = some (.slice DA S.length DC) ∧ Below w.heap.size w w' ∧ w.heap.size < w'.heap.size ∧ bx < w'.heap.size ∧ by' < w'.heap.size) (by kernel_rfl) ?_ (fun hH => ?_)
                  · exact Sm.out
                  generalize wk.drew = wm at *
                  refine wpAnyH_take (i := 0) (oi := { dst := some 87, op := Go.Op.load 25 (Go.Operand.tmp 3), type := 25, pos := "law.go:153", after := #[], guard := none }) (v := ?_) rfl ?_ ?_ ?_ ?_ (Or.inl ⟨?_, ?_⟩) hH ?_
                  rotate_left
                  · kernel_rfl
                  · kernel_rfl
                  · kernel_rfl
                  · exact fun _ _ _ h => h
                  · kernel_rfl
                  · intro wS hSw
                    try dsimp only at hSw
                    go_simp
                    try with_reducible rfl
                  try simp only [Act.put, List.setIfInBounds_toArray, List.set_cons_zero, List.set_cons_succ]
                  refine wpAnyH_take (i := 1) (oi := { dst := some 88, op := Go.Op.move (Go.Operand.tmp 2), type := 3, pos := "law.go:153", after := #[], guard := none }) (v := ?_) rfl ?_ ?_ ?_ ?_ (Or.inl ⟨?_, ?_⟩) hH ?_
                  rotate_left
                  · kernel_rfl
                  · kernel_rfl
                  · kernel_rfl
                  · exact fun _ _ _ h => h
                  · kernel_rfl
                  · intro wS hSw
                    try dsimp only at hSw
                    go_simp
                    try with_reducible rfl
                  try simp only [Act.put, List.setIfInBounds_toArray, List.set_cons_zero, List.set_cons_succ]
                  refine wpAnyH_take (i := 2) (oi := { dst := some 89, op := Go.Op.move (Go.Operand.tmp 1), type := 3, pos := "law.go:153", after := #[], guard := none }) (v := ?_) rfl ?_ ?_ ?_ ?_ (Or.inl ⟨?_, ?_⟩) hH ?_
                  rotate_left
                  · kernel_rfl
                  · kernel_rfl
                  · kernel_rfl
                  · exact fun _ _ _ h => h
                  · kernel_rfl
                  · intro wS hSw
                    try dsimp only at hSw
                    go_simp
                    try with_reducible rfl
                  try simp only [Act.put, List.setIfInBounds_toArray, List.set_cons_zero, List.set_cons_succ]
                  refine wpAnyH_take (i := 3) (oi := { dst := some 90, op := Go.Op.binOp Go.BinOp.quo 3 (Go.Operand.tmp 88) (Go.Operand.tmp 89) 3, type := 3, pos := "law.go:153", after := #[{ on := 1, ground := Go.Ground.data }, { on := 2, ground := Go.Ground.data }], guard := none }) (v := ?_) rfl ?_ ?_ ?_ ?_ (Or.inl ⟨?_, ?_⟩) hH ?_
                  rotate_left
                  · kernel_rfl
                  · kernel_rfl
                  · kernel_rfl
                  · exact fun _ _ _ h => h
                  · kernel_rfl
                  · intro wS hSw
                    try dsimp only at hSw
                    go_simp
                    try with_reducible rfl
                  try simp only [Act.put, List.setIfInBounds_toArray, List.set_cons_zero, List.set_cons_succ]
                  refine wpAnyH_ready (rs := [4]) (by kernel_rfl) (by simp) ?_
                  refine AllReadyH.cons (o := { dst := some 91, op := Go.Op.call { callee := Go.Callee.value (Go.Operand.func 23), args := #[Go.Operand.tmp 87, Go.Operand.tmp 90], argTypes := #[25, 3] }, type := 41, pos := "law.go:153", after := #[{ on := 0, ground := Go.Ground.data }, { on := 3, ground := Go.Ground.data }], guard := none }) rfl (fun K hK => ?_) AllReadyH.nil
                  · go_simp
                    refine (HAtc.out _ Sm.out.2.2.2.2.2.2.1).mono ?_
                    rintro en wn ⟨rfl, bn⟩
                    try go_wp2_with fail
                    have Sn := Lib.hid (held6 Sm.out bn)
                    clear bn
                    refine hK.out _ _ ?_ (fun hH1 => ?_)
                    · exact Sn.out
                    clear hK K hH
                    try simp only [Act.put, List.setIfInBounds_toArray, List.set_cons_zero, List.set_cons_succ]
                    refine wpAnyH_take (i := 5) (oi := { dst := some 86, op := Go.Op.move (Go.Operand.tmp 91), type := 41, pos := "law.go:153", after := #[{ on := 4, ground := Go.Ground.data }], guard := none }) (v := ?_) rfl ?_ ?_ ?_ ?_ (Or.inl ⟨?_, ?_⟩) hH1 ?_
                    rotate_left
                    · kernel_rfl
                    · kernel_rfl
                    · kernel_rfl
                    · exact fun _ _ _ h => h
                    · kernel_rfl
                    · intro wS hSw
                      try dsimp only at hSw
                      go_simp
                      try with_reducible rfl
                    try simp only [Act.put, List.setIfInBounds_toArray, List.set_cons_zero, List.set_cons_succ]
                    refine wpAnyH_take (i := 6) (oi := { dst := some 92, op := Go.Op.extract (Go.Operand.tmp 86) 0, type := 3, pos := "law.go:153", after := #[{ on := 5, ground := Go.Ground.data }], guard := none }) (v := ?_) rfl ?_ ?_ ?_ ?_ (Or.inl ⟨?_, ?_⟩) hH1 ?_
                    rotate_left
                    · kernel_rfl
                    · kernel_rfl
                    · kernel_rfl
                    · exact fun _ _ _ h => h
                    · kernel_rfl
                    · intro wS hSw
                      try dsimp only at hSw
                      go_simp
                      try with_reducible rfl
                    try simp only [Act.put, List.setIfInBounds_toArray, List.set_cons_zero, List.set_cons_succ]
                    refine wpAnyH_take (i := 7) (oi := { dst := some 93, op := Go.Op.extract (Go.Operand.tmp 86) 1, type := 4, pos := "law.go:153", after := #[{ on := 5, ground := Go.Ground.data }, { on := 8, ground := Go.Ground.gcOnly Go.Departure.lateStores }], guard := none }) (v := ?_) rfl ?_ ?_ ?_ ?_ (Or.inl ⟨?_, ?_⟩) hH1 ?_
                    rotate_left
                    · kernel_rfl
                    · kernel_rfl
                    · kernel_rfl
                    · exact fun _ _ _ h => h
                    · kernel_rfl
                    · intro wS hSw
                      try dsimp only at hSw
                      go_simp
                      try with_reducible rfl
                    try simp only [Act.put, List.setIfInBounds_toArray, List.set_cons_zero, List.set_cons_succ]
                    refine wpAnyH_take (i := 8) (oi := { dst := some 13, op := Go.Op.assign (Go.Operand.tmp 92), type := 3, pos := "law.go:153", after := #[{ on := 6, ground := Go.Ground.data }, { on := 4, ground := Go.Ground.chain }, { on := 0, ground := Go.Ground.phase }, { on := 1, ground := Go.Ground.phase }, { on := 2, ground := Go.Ground.phase }, { on := 3, ground := Go.Ground.phase }, { on := 4, ground := Go.Ground.phase }, { on := 5, ground := Go.Ground.phase }, { on := 6, ground := Go.Ground.phase }, { on := 7, ground := Go.Ground.textOnly Go.Departure.lateStores }], guard := none }) (v := ?_) rfl ?_ ?_ ?_ ?_ (Or.inl ⟨?_, ?_⟩) hH1 ?_
                    rotate_left
                    · kernel_rfl
                    · kernel_rfl
                    · kernel_rfl
                    · exact fun _ _ _ h => h
                    · kernel_rfl
                    · intro wS hSw
                      try dsimp only at hSw
                      go_simp
                      try with_reducible rfl
                    try simp only [Act.put, List.setIfInBounds_toArray, List.set_cons_zero, List.set_cons_succ]
                    refine wpAnyH_take (i := 9) (oi := { dst := some 14, op := Go.Op.assign (Go.Operand.tmp 93), type := 4, pos := "law.go:153", after := #[{ on := 7, ground := Go.Ground.data }, { on := 8, ground := Go.Ground.chain }, { on := 0, ground := Go.Ground.phase }, { on := 1, ground := Go.Ground.phase }, { on := 2, ground := Go.Ground.phase }, { on := 3, ground := Go.Ground.phase }, { on := 4, ground := Go.Ground.phase }, { on := 5, ground := Go.Ground.phase }, { on := 6, ground := Go.Ground.phase }, { on := 7, ground := Go.Ground.phase }, { on := 8, ground := Go.Ground.phase }], guard := none }) (v := ?_) rfl ?_ ?_ ?_ ?_ (Or.inl ⟨?_, ?_⟩) hH1 ?_
                    rotate_left
                    · kernel_rfl
                    · kernel_rfl
                    · kernel_rfl
                    · exact fun _ _ _ h => h
                    · kernel_rfl
                    · intro wS hSw
                      try dsimp only at hSw
                      go_simp
                      try with_reducible rfl
                    try simp only [Act.put, List.setIfInBounds_toArray, List.set_cons_zero, List.set_cons_succ]
                    refine wpAnyH_done (by kernel_rfl) ?_ _
                    go_wp2
                    go_returns
                    exact ⟨rfl, Sn.out.2.2.2.2.2.2.1⟩
    · have hne : (ckC N R == 0) = false := by simpa using hc
      have hne2 : (ckC N R != 0) = true := by simpa using hc
      clear HLc HNH HRH'
      generalize ckC N R = r at *
      go_enter Try.func9, Try.ntmps9
      go_wp2_with (first
        | (go_at_call 10; go_must (refine (lives_any _).mono ?_; rintro e1 w1 ⟨rfl, b1⟩; have B1 := Lib.hid (B0.out.trans (b1.mono B0.out.size)); have P1 := Lib.hid (P0.out.keep b1); clear g0 g1; have g0 := P1.out.cell 0; have g1 := P1.out.cell 1; clear b1))
        | (go_at_call 11; go_must (refine (HF.out _ B1.out).mono ?_; rintro e2 w2 ⟨rfl, b2⟩; have B2 := Lib.hid (B1.out.trans (b2.mono B1.out.size)); have P2 := Lib.hid (P1.out.keep b2); clear g0 g1; have g0 := P2.out.cell 0; have g1 := P2.out.cell 1; clear b2))
        | (go_at_call 24; go_must (refine (HK.out _ B2.out).mono ?_; rintro e3 w3 ⟨rfl, b3⟩; have B3 := Lib.hid (B2.out.trans (b3.mono B2.out.size)); have P3 := Lib.hid (P2.out.keep b3); clear g0 g1; have g0 := P3.out.cell 0; have g1 := P3.out.cell 1; clear b3)))
      go_returns
      exact ⟨rfl, B3.out⟩
end Go.Proofs.Ytbahijhhcibfaaa
