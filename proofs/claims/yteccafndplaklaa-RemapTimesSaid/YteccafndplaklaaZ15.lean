/-
  The specification's Scale.
  The walk of the statement RemapTimes.
-/
import Derived.Test.YteccafndplaklaaZ13
import Derived.Test.YteccafndplaklaaZ11
import Derived.Deep.RegionHeld3
import Derived.Test.YteccafndplaklaaZ14
namespace Go.Proofs.Yteccafndplaklaa
open Go Go.RowKit Go.Joins
set_option linter.unusedVariables false
set_option linter.unusedSimpArgs false

theorem rscaleIn_any (n d k : Int) (w : World) (hv : Sr.validB n d = true) (hn : 0 < n) (hk0 : 0 ≤ k) (hk : k ≤ 4294967296) :
    Calls Try.prog 49 #[.agg #[.int .i64 n, .int .i64 d], .int .i64 k] w fun e w' => e = .returned (.tuple #[.int .i64 (fs n d k), .int .i64 0]) ∧ Below w.heap.size w w' := by
  have hb := Sr.valid_bd hv
  refine (Sr.rsc_any n d k w (by omega) (by omega) (by omega) (by omega) (by omega) (by omega)).mono ?_
  rintro e w' ⟨rfl, b⟩
  refine ⟨?_, b⟩
  rw [hv]
  simp only [Sr.scV, Sr.scE]
  rw [if_neg (by omega), if_neg (by omega)]
  rfl
theorem scz_nn {f : Int → Int} (hf : ∀ a b, 0 ≤ a → a ≤ b → f a ≤ f b) : ∀ (l : List Rn) (s : Int), 0 ≤ s → ps l → ∀ r ∈ scz f s l, 0 ≤ r.2 := by
  intro l
  induction l with
  | nil => intro s _ _ r hr; cases hr
  | cons x l ih =>
    intro s hs hp r hr
    obtain ⟨h1, h2⟩ := ps_cons.1 hp
    rcases List.mem_cons.1 hr with rfl | hr
    · have := hf s (s + x.2) hs (by omega)
      show 0 ≤ f (s + x.2) - f s
      omega
    · exact ih (s + x.2) (by omega) h2 r hr
theorem scz_facts {f : Int → Int} (hf : ∀ a b, 0 ≤ a → a ≤ b → f a ≤ f b) (s : Int) (hs : 0 ≤ s) {l : List Rn} (h : ps l) : (∀ r ∈ scz f s l, 0 ≤ r.2) ∧ lg (scz f s l) = f (s + lg l) - f s ∧ fl1 (scz f s l) = scr f s l := by
  have h1 := scz_nn hf l s hs h
  have h3 : fl1 (scz f s l) = scr f s l := scz_scr hf s hs h
  exact ⟨h1, by rw [← fl1_lg h1, h3, scr_lg hf s hs h], h3⟩
theorem heldS2 {w v W W' : World} {b : Nat} {x0 x1 y0 y1 : Value} (h : W.cell? ⟨b, 0, none⟩ = some x0 ∧ W.cell? ⟨b, 1, none⟩ = some x1 ∧ W.cell? ⟨b + 1, 0, none⟩ = some y0 ∧ W.cell? ⟨b + 1, 1, none⟩ = some y1 ∧ Below w.heap.size w W ∧ b + 2 < W.heap.size ∧ Below v.heap.size v W) (hb : Below W.heap.size W W') :
    W'.cell? ⟨b, 0, none⟩ = some x0 ∧ W'.cell? ⟨b, 1, none⟩ = some x1 ∧ W'.cell? ⟨b + 1, 0, none⟩ = some y0 ∧ W'.cell? ⟨b + 1, 1, none⟩ = some y1 ∧ Below w.heap.size w W' ∧ b + 2 < W'.heap.size ∧ Below v.heap.size v W' := by
  obtain ⟨h0, h1, h2, h3, h4, h5, h6⟩ := h
  have := heldS ⟨h0, h1, h2, h3, h4, h5⟩ hb
  exact ⟨this.1, this.2.1, this.2.2.1, this.2.2.2.1, this.2.2.2.2.1, this.2.2.2.2.2, h6.trans (hb.mono h6.size)⟩

set_option maxRecDepth 100000 in
set_option maxHeartbeats 8000000 in
theorem rscale12_any (N : List ByteArray) (R : List Rn) (n d : Int) (vN vR : Value) (w : World) (hN : NmArg w vN N) (hs : szs N) (hR : RnArg w vR R) (hn : R.length ≤ 16000) (hnn : N.length ≤ 4096) (hn0 : -9223372036854775808 ≤ n) (hn1 : n ≤ 9223372036854775807) (hd0 : -9223372036854775808 ≤ d) (hd1 : d ≤ 9223372036854775807) :
    Calls Try.prog 22 #[.agg #[vN, vR], .agg #[.int .i64 n, .int .i64 d]] w fun e w' => ∃ v1 v2 : Value, e = .returned (.tuple #[.agg #[v1, v2], .int .i64 (sxE N R n d)]) ∧ NmArg w' v1 (sxN N R n d) ∧ RnArg w' v2 (sxR N R n d) ∧ Below w.heap.size w w' := by
  have HK := Lib.hid (fun w' (hb : Below w.heap.size w w') => rcheck_any N R vN vR w' (hN.keep hb) hs (hR.keep hb) (by omega))
  have HL := Lib.hid (fun w' (hb : Below w.heap.size w w') => rlongC_any N R vN vR w' (hN.keep hb) hs (hR.keep hb) (by omega))
  have HV := Lib.hid (fun w' => Sr.rvalid_any n d w' hn0 hn1 hd0 hd1)
  have HNK := Lib.hid (fun w' (hb : Below w.heap.size w w') => hN.keep hb)
  have HRK := Lib.hid (fun w' (hb : Below w.heap.size w w') => hR.keep hb)
  obtain ⟨A1, c1, rfl, _⟩ := hN.form
  obtain ⟨A2, c2, rfl⟩ := hR.form
  have e1s : (w.alloc (.cells #[.slice A1 N.length c1, .slice A2 R.length c2] 25)).heap.size = w.heap.size + 1 := World.size_alloc _ _
  have e2s : ((w.alloc (.cells #[.slice A1 N.length c1, .slice A2 R.length c2] 25)).alloc (.cells #[.int .i64 n, .int .i64 d] 37)).heap.size = w.heap.size + 2 := by rw [World.size_alloc, e1s]
  have B0 := Lib.hid (((ba w (.cells #[.slice A1 N.length c1, .slice A2 R.length c2] 25)).alloc (ba w _).size (.cells #[.int .i64 n, .int .i64 d] 37)).alloc (by rw [e2s]; omega) (.cells #[.slice none 0 0, .slice none 0 0] 25))
  have P0 := Lib.hid (((RowAt.new w 25 #[.slice A1 N.length c1, .slice A2 R.length c2]).alloc (.cells #[.int .i64 n, .int .i64 d] 37)).alloc (.cells #[.slice none 0 0, .slice none 0 0] 25))
  have T0' := (RowAt.new (w.alloc (.cells #[.slice A1 N.length c1, .slice A2 R.length c2] 25)) 37 #[.int .i64 n, .int .i64 d]).alloc (.cells #[.slice none 0 0, .slice none 0 0] 25)
  have Q0' := RowAt.new ((w.alloc (.cells #[.slice A1 N.length c1, .slice A2 R.length c2] 25)).alloc (.cells #[.int .i64 n, .int .i64 d] 37)) 25 #[.slice none 0 0, .slice none 0 0]
  rw [e2s] at Q0'
  rw [e1s] at T0'
  have Q0 := Lib.hid Q0'
  have T0 := Lib.hid T0'
  clear Q0' T0' e1s e2s hN hR
  have g0 := P0.out.cell 0
  have g1 := P0.out.cell 1
  have t0 := T0.out.cell 0
  have t1 := T0.out.cell 1
  have k0 := Q0.out.cell 0
  have k1 := Q0.out.cell 1
  have z0 := Q0.out.frozen 0
  have z1 := Q0.out.frozen 1
  by_cases hz : ckC N R = 0
  · have hck := ckC_ok hz
    have hrg := vr_range hck.2.2.2.2.2
    rw [lgC_yes hz] at HL
    cases hv : Sr.validB n d with
    | false =>
      have he := sx_1 (R := R) (n := n) (d := d) hz (Or.inl hv)
      have hne : ¬ sxE N R n d = 0 := by rw [he]; exact by decide
      have HN0 := Lib.hid (sxN_no hne)
      have HR0 := Lib.hid (sxR_no hne)
      have HE := Lib.hid he
      clear hne he
      rw [hz] at HK
      rw [hv] at HV
      clear hck hz HL hrg
      go_enter Try.func22, Try.ntmps22
      go_wp2_with (first
        | (go_at_call 30; go_must (refine (HK.out _ B0.out).mono ?_; rintro e1 w1 ⟨rfl, b1⟩; have BA := Lib.hid (B0.out.trans (b1.mono B0.out.size)); have PA := Lib.hid (P0.out.keep b1); have TA := Lib.hid (T0.out.keep b1); have QA := Lib.hid (Q0.out.keep b1); clear g0 g1 t0 t1 k0 k1 z0 z1; have g0 := PA.out.cell 0; have g1 := PA.out.cell 1; have t0 := TA.out.cell 0; have t1 := TA.out.cell 1; have k0 := QA.out.cell 0; have k1 := QA.out.cell 1; have z0 := QA.out.frozen 0; have z1 := QA.out.frozen 1; clear b1))
        | (go_at_call 48; go_must (refine (HV.out _).mono ?_; rintro e2 wv ⟨rfl, b2⟩; have B1 := Lib.hid (BA.out.trans (b2.mono BA.out.size)); have P1 := Lib.hid (PA.out.keep b2); have T1 := Lib.hid (TA.out.keep b2); have Q1 := Lib.hid (QA.out.keep b2); clear g0 g1 t0 t1 k0 k1 z0 z1; have g0 := P1.out.cell 0; have g1 := P1.out.cell 1; have t0 := T1.out.cell 0; have t1 := T1.out.cell 1; have k0 := Q1.out.cell 0; have k1 := Q1.out.cell 1; have z0 := Q1.out.frozen 0; have z1 := Q1.out.frozen 1; clear b2)))
      have e0 := (two_set (v0 := .slice none 0 0) (v1 := .slice none 0 0) k0 k1).1
      have e1 := (two_set (v0 := .slice none 0 0) (v1 := .slice none 0 0) k0 k1).2
      refine bodyPost_ret (v := .tuple #[.agg #[.slice none 0 0, .slice none 0 0], .int .i64 1]) (by simp [results, Try.results22, go_sem, e0, e1]) rfl ⟨_, _, by rw [HE.out], by rw [HN0.out]; exact nm_nil _, by rw [HR0.out]; exact rn_nil _, Below.setCell (Below.setCell B1.out (by show w.heap.size ≤ w.heap.size + 2; omega) _) (by show w.heap.size ≤ w.heap.size + 2; omega) _⟩
    | true =>
      have hvb := Sr.valid_bd hv
      by_cases h1 : n < 1
      · have he := sx_1 (R := R) (d := d) hz (Or.inr h1)
        have hne : ¬ sxE N R n d = 0 := by rw [he]; exact by decide
        have HN0 := Lib.hid (sxN_no hne)
        have HR0 := Lib.hid (sxR_no hne)
        have HE := Lib.hid he
        clear hne he
        rw [hz] at HK
        rw [hv] at HV
        have d1 : n < 1 := h1
        have d1' : decide (n < 1) = true := decide_eq_true d1
        clear hck hz HL hrg
        go_enter Try.func22, Try.ntmps22
        go_wp2_with (first
          | (go_at_call 30; go_must (refine (HK.out _ B0.out).mono ?_; rintro e1 w1 ⟨rfl, b1⟩; have BA := Lib.hid (B0.out.trans (b1.mono B0.out.size)); have PA := Lib.hid (P0.out.keep b1); have TA := Lib.hid (T0.out.keep b1); have QA := Lib.hid (Q0.out.keep b1); clear g0 g1 t0 t1 k0 k1 z0 z1; have g0 := PA.out.cell 0; have g1 := PA.out.cell 1; have t0 := TA.out.cell 0; have t1 := TA.out.cell 1; have k0 := QA.out.cell 0; have k1 := QA.out.cell 1; have z0 := QA.out.frozen 0; have z1 := QA.out.frozen 1; clear b1))
          | (go_at_call 48; go_must (refine (HV.out _).mono ?_; rintro e2 wv ⟨rfl, b2⟩; have B1 := Lib.hid (BA.out.trans (b2.mono BA.out.size)); have P1 := Lib.hid (PA.out.keep b2); have T1 := Lib.hid (TA.out.keep b2); have Q1 := Lib.hid (QA.out.keep b2); clear g0 g1 t0 t1 k0 k1 z0 z1; have g0 := P1.out.cell 0; have g1 := P1.out.cell 1; have t0 := T1.out.cell 0; have t1 := T1.out.cell 1; have k0 := Q1.out.cell 0; have k1 := Q1.out.cell 1; have z0 := Q1.out.frozen 0; have z1 := Q1.out.frozen 1; clear b2)))
        have e0 := (two_set (v0 := .slice none 0 0) (v1 := .slice none 0 0) k0 k1).1
        have e1 := (two_set (v0 := .slice none 0 0) (v1 := .slice none 0 0) k0 k1).2
        refine bodyPost_ret (v := .tuple #[.agg #[.slice none 0 0, .slice none 0 0], .int .i64 1]) (by simp [results, Try.results22, go_sem, e0, e1]) rfl ⟨_, _, by rw [HE.out], by rw [HN0.out]; exact nm_nil _, by rw [HR0.out]; exact rn_nil _, Below.setCell (Below.setCell B1.out (by show w.heap.size ≤ w.heap.size + 2; omega) _) (by show w.heap.size ≤ w.heap.size + 2; omega) _⟩
      · have d1 : ¬ n < 1 := h1
        have d1' : decide (n < 1) = false := decide_eq_false d1
        have hor : ¬ (Sr.validB n d = false ∨ n < 1) := by rw [hv]; rintro (h | h); exact absurd h (by decide); exact h1 h
        have hSc := fun w' => Sr.rsc_any n d (lg R) w' hn0 hn1 hd0 hd1 (by omega) (by omega)
        rw [hv] at hSc
        by_cases h2 : 4294967296 < lg R
        · have he := sx_3 hz hor (Or.inl h2)
          have hne : ¬ sxE N R n d = 0 := by rw [he]; exact by decide
          have HN0 := Lib.hid (sxN_no hne)
          have HR0 := Lib.hid (sxR_no hne)
          have HE := Lib.hid he
          clear hne he
          have HSc := Lib.hid (show ∀ w', Calls Try.prog 49 #[.agg #[.int .i64 n, .int .i64 d], .int .i64 (lg R)] w' fun e w'' => e = .returned (.tuple #[.int .i64 0, .int .i64 3]) ∧ Below w'.heap.size w' w'' by
            intro w'
            have := hSc w'
            simp only [Sr.scV, Sr.scE] at this
            rw [if_pos (Or.inr h2), if_pos (Or.inr h2)] at this
            exact this)
          rw [hz] at HK
          rw [hv] at HV
          clear hck hz hor hSc hrg h2
          generalize lg R = G at *
          go_enter Try.func22, Try.ntmps22
          go_wp2_with (first
            | (go_at_call 30; go_must (refine (HK.out _ B0.out).mono ?_; rintro e1 w1 ⟨rfl, b1⟩; have BA := Lib.hid (B0.out.trans (b1.mono B0.out.size)); have PA := Lib.hid (P0.out.keep b1); have TA := Lib.hid (T0.out.keep b1); have QA := Lib.hid (Q0.out.keep b1); clear g0 g1 t0 t1 k0 k1 z0 z1; have g0 := PA.out.cell 0; have g1 := PA.out.cell 1; have t0 := TA.out.cell 0; have t1 := TA.out.cell 1; have k0 := QA.out.cell 0; have k1 := QA.out.cell 1; have z0 := QA.out.frozen 0; have z1 := QA.out.frozen 1; clear b1))
            | (go_at_call 48; go_must (refine (HV.out _).mono ?_; rintro e2 wv ⟨rfl, b2⟩; have B1 := Lib.hid (BA.out.trans (b2.mono BA.out.size)); have P1 := Lib.hid (PA.out.keep b2); have T1 := Lib.hid (TA.out.keep b2); have Q1 := Lib.hid (QA.out.keep b2); clear g0 g1 t0 t1 k0 k1 z0 z1; have g0 := P1.out.cell 0; have g1 := P1.out.cell 1; have t0 := T1.out.cell 0; have t1 := T1.out.cell 1; have k0 := Q1.out.cell 0; have k1 := Q1.out.cell 1; have z0 := Q1.out.frozen 0; have z1 := Q1.out.frozen 1; clear b2)))
          have S0 : wv.drew.cell? ⟨w.heap.size, 0, none⟩ = some (.slice A1 N.length c1) ∧ wv.drew.cell? ⟨w.heap.size, 1, none⟩ = some (.slice A2 R.length c2) ∧ wv.drew.cell? ⟨w.heap.size + 1, 0, none⟩ = some (.int .i64 n) ∧ wv.drew.cell? ⟨w.heap.size + 1, 1, none⟩ = some (.int .i64 d) ∧ Below w.heap.size w wv.drew ∧ w.heap.size + 2 < wv.drew.heap.size := ⟨P1.out.cell 0, P1.out.cell 1, T1.out.cell 0, T1.out.cell 1, B1.out.drew, Q1.out.lt⟩
          have BV := Lib.hid (show Below wv.heap.size wv wv.drew from (Below.refl _ _).drew)
          go_region_held3 (fun w' => w'.cell? ⟨w.heap.size, 0, none⟩ = some (.slice A1 N.length c1) ∧ w'.cell? ⟨w.heap.size, 1, none⟩ = some (.slice A2 R.length c2) ∧ w'.cell? ⟨w.heap.size + 1, 0, none⟩ = some (.int .i64 n) ∧ w'.cell? ⟨w.heap.size + 1, 1, none⟩ = some (.int .i64 d) ∧ Below w.heap.size w w' ∧ w.heap.size + 2 < w'.heap.size ∧ Below wv.heap.size wv w') (first | assumption | exact ⟨P1.out.cell 0, P1.out.cell 1, T1.out.cell 0, T1.out.cell 1, B1.out.drew, Q1.out.lt, BV.out⟩ | go_keep)
            (first
              | (go_at_call 42; refine (HL.out _ (And.left (And.right (And.right (And.right (And.right (by assumption))))))).mono ?_; rintro e2 w2 ⟨rfl, b2⟩; have h2' := heldS2 (by assumption) b2)
              | (go_at_call 49; refine (HSc.out _).mono ?_; rintro e3 w3 ⟨rfl, b3⟩; have h3' := heldS2 (by assumption) b3)
              | fail)
          have BX := Lib.hid h3'.2.2.2.2.1
          have b3v := h3'.2.2.2.2.2.2
          have P3 := Lib.hid (P1.out.keep b3v)
          have T3 := Lib.hid (T1.out.keep b3v)
          have Q3 := Lib.hid (Q1.out.keep b3v)
          clear g0 g1 t0 t1 k0 k1 z0 z1; have g0 := P3.out.cell 0; have g1 := P3.out.cell 1; have t0 := T3.out.cell 0; have t1 := T3.out.cell 1; have k0 := Q3.out.cell 0; have k1 := Q3.out.cell 1; have z0 := Q3.out.frozen 0; have z1 := Q3.out.frozen 1
          clear S0 h2' h3' b2 b3 b3v
          go_wp2
          have e0 := (two_set (v0 := .slice none 0 0) (v1 := .slice none 0 0) k0 k1).1
          have e1 := (two_set (v0 := .slice none 0 0) (v1 := .slice none 0 0) k0 k1).2
          refine bodyPost_ret (v := .tuple #[.agg #[.slice none 0 0, .slice none 0 0], .int .i64 3]) (by simp [results, Try.results22, go_sem, e0, e1]) rfl ⟨_, _, by rw [HE.out], by rw [HN0.out]; exact nm_nil _, by rw [HR0.out]; exact rn_nil _, Below.setCell (Below.setCell BX.out (by show w.heap.size ≤ w.heap.size + 2; omega) _) (by show w.heap.size ≤ w.heap.size + 2; omega) _⟩
        · have HSc := Lib.hid (show ∀ w', Calls Try.prog 49 #[.agg #[.int .i64 n, .int .i64 d], .int .i64 (lg R)] w' fun e w'' => e = .returned (.tuple #[.int .i64 (fs n d (lg R)), .int .i64 0]) ∧ Below w'.heap.size w' w'' from fun w' => rscaleIn_any n d (lg R) w' hv (by omega) (by omega) (by omega))
          by_cases h3 : 1099511627776 < fs n d (lg R)
          · have he := sx_3 hz hor (Or.inr h3)
            have hne : ¬ sxE N R n d = 0 := by rw [he]; exact by decide
            have HN0 := Lib.hid (sxN_no hne)
            have HR0 := Lib.hid (sxR_no hne)
            have HE := Lib.hid he
            have h3' : decide (1099511627776 < fs n d (lg R)) = true := decide_eq_true h3
            clear hne he
            rw [hz] at HK
            rw [hv] at HV
            clear hck hz hor hSc hrg h2
            generalize fs n d (lg R) = F at *
            generalize lg R = G at *
            go_enter Try.func22, Try.ntmps22
            go_wp2_with (first
              | (go_at_call 30; go_must (refine (HK.out _ B0.out).mono ?_; rintro e1 w1 ⟨rfl, b1⟩; have BA := Lib.hid (B0.out.trans (b1.mono B0.out.size)); have PA := Lib.hid (P0.out.keep b1); have TA := Lib.hid (T0.out.keep b1); have QA := Lib.hid (Q0.out.keep b1); clear g0 g1 t0 t1 k0 k1 z0 z1; have g0 := PA.out.cell 0; have g1 := PA.out.cell 1; have t0 := TA.out.cell 0; have t1 := TA.out.cell 1; have k0 := QA.out.cell 0; have k1 := QA.out.cell 1; have z0 := QA.out.frozen 0; have z1 := QA.out.frozen 1; clear b1))
              | (go_at_call 48; go_must (refine (HV.out _).mono ?_; rintro e2 wv ⟨rfl, b2⟩; have B1 := Lib.hid (BA.out.trans (b2.mono BA.out.size)); have P1 := Lib.hid (PA.out.keep b2); have T1 := Lib.hid (TA.out.keep b2); have Q1 := Lib.hid (QA.out.keep b2); clear g0 g1 t0 t1 k0 k1 z0 z1; have g0 := P1.out.cell 0; have g1 := P1.out.cell 1; have t0 := T1.out.cell 0; have t1 := T1.out.cell 1; have k0 := Q1.out.cell 0; have k1 := Q1.out.cell 1; have z0 := Q1.out.frozen 0; have z1 := Q1.out.frozen 1; clear b2)))
            have S0 : wv.drew.cell? ⟨w.heap.size, 0, none⟩ = some (.slice A1 N.length c1) ∧ wv.drew.cell? ⟨w.heap.size, 1, none⟩ = some (.slice A2 R.length c2) ∧ wv.drew.cell? ⟨w.heap.size + 1, 0, none⟩ = some (.int .i64 n) ∧ wv.drew.cell? ⟨w.heap.size + 1, 1, none⟩ = some (.int .i64 d) ∧ Below w.heap.size w wv.drew ∧ w.heap.size + 2 < wv.drew.heap.size := ⟨P1.out.cell 0, P1.out.cell 1, T1.out.cell 0, T1.out.cell 1, B1.out.drew, Q1.out.lt⟩
            have BV := Lib.hid (show Below wv.heap.size wv wv.drew from (Below.refl _ _).drew)
            go_region_held3 (fun w' => w'.cell? ⟨w.heap.size, 0, none⟩ = some (.slice A1 N.length c1) ∧ w'.cell? ⟨w.heap.size, 1, none⟩ = some (.slice A2 R.length c2) ∧ w'.cell? ⟨w.heap.size + 1, 0, none⟩ = some (.int .i64 n) ∧ w'.cell? ⟨w.heap.size + 1, 1, none⟩ = some (.int .i64 d) ∧ Below w.heap.size w w' ∧ w.heap.size + 2 < w'.heap.size ∧ Below wv.heap.size wv w') (first | assumption | exact ⟨P1.out.cell 0, P1.out.cell 1, T1.out.cell 0, T1.out.cell 1, B1.out.drew, Q1.out.lt, BV.out⟩ | go_keep)
              (first
                | (go_at_call 42; refine (HL.out _ (And.left (And.right (And.right (And.right (And.right (by assumption))))))).mono ?_; rintro e2 w2 ⟨rfl, b2⟩; have h2' := heldS2 (by assumption) b2)
                | (go_at_call 49; refine (HSc.out _).mono ?_; rintro e3 w3 ⟨rfl, b3⟩; have h3' := heldS2 (by assumption) b3)
                | fail)
            have BX := Lib.hid h3'.2.2.2.2.1
            have b3v := h3'.2.2.2.2.2.2
            have P3 := Lib.hid (P1.out.keep b3v)
            have T3 := Lib.hid (T1.out.keep b3v)
            have Q3 := Lib.hid (Q1.out.keep b3v)
            clear g0 g1 t0 t1 k0 k1 z0 z1; have g0 := P3.out.cell 0; have g1 := P3.out.cell 1; have t0 := T3.out.cell 0; have t1 := T3.out.cell 1; have k0 := Q3.out.cell 0; have k1 := Q3.out.cell 1; have z0 := Q3.out.frozen 0; have z1 := Q3.out.frozen 1
            clear S0 h2' h3' b2 b3 b3v
            go_wp2
            have e0 := (two_set (v0 := .slice none 0 0) (v1 := .slice none 0 0) k0 k1).1
            have e1 := (two_set (v0 := .slice none 0 0) (v1 := .slice none 0 0) k0 k1).2
            refine bodyPost_ret (v := .tuple #[.agg #[.slice none 0 0, .slice none 0 0], .int .i64 3]) (by simp [results, Try.results22, go_sem, e0, e1]) rfl ⟨_, _, by rw [HE.out], by rw [HN0.out]; exact nm_nil _, by rw [HR0.out]; exact rn_nil _, Below.setCell (Below.setCell BX.out (by show w.heap.size ≤ w.heap.size + 2; omega) _) (by show w.heap.size ≤ w.heap.size + 2; omega) _⟩
          · have he : sxE N R n d = 0 := sx_0 hz hor (by rintro (h | h); exact h2 h; exact h3 h)
            have HN0 := Lib.hid (sxN_0 he)
            have HR0 := Lib.hid (sxR_0 he)
            have HE := Lib.hid he
            have HMono := Lib.hid (fs_mono (n := n) (d := d) (by omega) (by omega))
            have HZ := Lib.hid (fs_zero n d)
            have hps := ((vr_iff _ R 0 (by omega)).1 hck.2.2.2.2.2).2.1
            have hscz := scz_facts HMono.out 0 (by omega) hps
            rw [HZ.out, Int.zero_add, Int.sub_zero] at hscz
            have HCln := Lib.hid (fun V w' (h : RnArg w' V (scz (fs n d) 0 R)) => rclean0_any (scz (fs n d) 0 R) V w' h (by rw [scz_len]; omega) hscz.1 (by rw [hscz.2.1]; omega))
            rw [hscz.2.2] at HCln
            have h3' : decide (1099511627776 < fs n d (lg R)) = false := decide_eq_false h3
            have HF := Lib.hid (show fs n d (lg R) ≤ 1099511627776 by omega)
            have HLG := Lib.hid (show lg R ≤ 4294967296 by omega)
            have HV2 := Lib.hid hck.2.2.2.2.2
            have HSC := Lib.hid (fun k w h0 h1 => rscaleIn_any n d k w hv (by omega) h0 h1)
            have HNN := Lib.hid hnn
            rw [hz] at HK
            rw [hv] at HV
            clear hck hz hor hSc hrg h2 he hps hscz hvb
            generalize hF0 : fs n d (lg R) = F at *
            generalize hG0 : lg R = G at *
            have HF0 := Lib.hid hF0
            have HG0 := Lib.hid hG0
            clear hF0 hG0
            go_enter Try.func22, Try.ntmps22
            go_wp2_with (first
              | (go_at_call 30; go_must (refine (HK.out _ B0.out).mono ?_; rintro e1 w1 ⟨rfl, b1⟩; have BA := Lib.hid (B0.out.trans (b1.mono B0.out.size)); have PA := Lib.hid (P0.out.keep b1); have TA := Lib.hid (T0.out.keep b1); have QA := Lib.hid (Q0.out.keep b1); clear g0 g1 t0 t1 k0 k1 z0 z1; have g0 := PA.out.cell 0; have g1 := PA.out.cell 1; have t0 := TA.out.cell 0; have t1 := TA.out.cell 1; have k0 := QA.out.cell 0; have k1 := QA.out.cell 1; have z0 := QA.out.frozen 0; have z1 := QA.out.frozen 1; clear b1))
              | (go_at_call 48; go_must (refine (HV.out _).mono ?_; rintro e2 wv ⟨rfl, b2⟩; have B1 := Lib.hid (BA.out.trans (b2.mono BA.out.size)); have P1 := Lib.hid (PA.out.keep b2); have T1 := Lib.hid (TA.out.keep b2); have Q1 := Lib.hid (QA.out.keep b2); clear g0 g1 t0 t1 k0 k1 z0 z1; have g0 := P1.out.cell 0; have g1 := P1.out.cell 1; have t0 := T1.out.cell 0; have t1 := T1.out.cell 1; have k0 := Q1.out.cell 0; have k1 := Q1.out.cell 1; have z0 := Q1.out.frozen 0; have z1 := Q1.out.frozen 1; clear b2)))
            have S0 : wv.drew.cell? ⟨w.heap.size, 0, none⟩ = some (.slice A1 N.length c1) ∧ wv.drew.cell? ⟨w.heap.size, 1, none⟩ = some (.slice A2 R.length c2) ∧ wv.drew.cell? ⟨w.heap.size + 1, 0, none⟩ = some (.int .i64 n) ∧ wv.drew.cell? ⟨w.heap.size + 1, 1, none⟩ = some (.int .i64 d) ∧ Below w.heap.size w wv.drew ∧ w.heap.size + 2 < wv.drew.heap.size := ⟨P1.out.cell 0, P1.out.cell 1, T1.out.cell 0, T1.out.cell 1, B1.out.drew, Q1.out.lt⟩
            have BV := Lib.hid (show Below wv.heap.size wv wv.drew from (Below.refl _ _).drew)
            go_region_held3 (fun w' => w'.cell? ⟨w.heap.size, 0, none⟩ = some (.slice A1 N.length c1) ∧ w'.cell? ⟨w.heap.size, 1, none⟩ = some (.slice A2 R.length c2) ∧ w'.cell? ⟨w.heap.size + 1, 0, none⟩ = some (.int .i64 n) ∧ w'.cell? ⟨w.heap.size + 1, 1, none⟩ = some (.int .i64 d) ∧ Below w.heap.size w w' ∧ w.heap.size + 2 < w'.heap.size ∧ Below wv.heap.size wv w') (first | assumption | exact ⟨P1.out.cell 0, P1.out.cell 1, T1.out.cell 0, T1.out.cell 1, B1.out.drew, Q1.out.lt, BV.out⟩ | go_keep)
              (first
                | (go_at_call 42; refine (HL.out _ (And.left (And.right (And.right (And.right (And.right (by assumption))))))).mono ?_; rintro e2 w2 ⟨rfl, b2⟩; have h2' := heldS2 (by assumption) b2)
                | (go_at_call 49; refine (HSc.out _).mono ?_; rintro e3 w3 ⟨rfl, b3⟩; have h3' := heldS2 (by assumption) b3)
                | fail)
            have BX := Lib.hid h3'.2.2.2.2.1
            have b3v := h3'.2.2.2.2.2.2
            have P3 := Lib.hid (P1.out.keep b3v)
            have T3 := Lib.hid (T1.out.keep b3v)
            have Q3 := Lib.hid (Q1.out.keep b3v)
            clear g0 g1 t0 t1 k0 k1 z0 z1; have g0 := P3.out.cell 0; have g1 := P3.out.cell 1; have t0 := T3.out.cell 0; have t1 := T3.out.cell 1; have k0 := Q3.out.cell 0; have k1 := Q3.out.cell 1; have z0 := Q3.out.frozen 0; have z1 := Q3.out.frozen 1
            clear S0 h2' h3' b2 b3 b3v
            have R0 := Lib.hid (KRow.lit (T := 48) rnC_size w3 w3.heap.size (Nat.le_refl _) [] #[] rfl 0 rfl (by decide))
            have C0 := Lib.hid (ba w3 (.cells #[] 48))
            clear g0 g1 t0 t1 k0 k1 z0 z1 HL HSc
            go_wp2
            go_loopw [9, 10, 11] (fun v e i wr => ∃ (j : Nat) (E : Int), j ≤ R.length ∧ i = .int .i64 j ∧ e = .int .i64 E ∧ Hid (E = lg (R.take j)) ∧ Hid (RnRow wr w3.heap.size v (scz (fs n d) 0 (R.take j))) ∧ Hid (Below w3.heap.size w3 wr)) (fun _ _ i _ => R.length - (intOf i).toNat)
            case atStart => exact ⟨0, 0, Nat.zero_le _, rfl, rfl, Lib.hid rfl, R0, C0⟩
            case round =>
              obtain ⟨j, E, hj, rfl, rfl, HE2, HR, HC⟩ := hrel
              have HB := Lib.hid (BX.out.trans (HC.out.mono BX.out.size))
              have P4 := Lib.hid (P3.out.keep HC.out)
              have T4 := Lib.hid (T3.out.keep HC.out)
              have Q4 := Lib.hid (Q3.out.keep HC.out)
              have g0 := P4.out.cell 0
              have g1 := P4.out.cell 1
              have t0 := T4.out.cell 0
              have t1 := T4.out.cell 1
              have hsz : w3.heap.size ≤ wr.heap.size := HC.out.size
              by_cases hjl : j < R.length
              · have hA := HRK.out w (Below.refl _ _)
                obtain ⟨A, c, eA, hA2⟩ := hA
                injection eA with eA1 eA2 eA3
                subst eA1
                subst eA3
                clear eA2
                obtain ⟨g, o, rfl, hg, hcell⟩ := hA2 (by omega)
                have HAC := Lib.hid (fun w' (hb : Below w.heap.size w w') => And.intro ((hb.cell (p := ⟨g, o + j * 2, none⟩) hg).trans (arg_two hcell j hjl).1) ((hb.cell (p := ⟨g, o + j * 2 + 1, none⟩) hg).trans (arg_two hcell j hjl).2))
                have hel := el_range HV2.out j hjl
                have r0 := lg_take_range HV2.out j
                have r1 := lg_take_range HV2.out (j + 1)
                have e1 := lg_take R j hjl
                have HST := Lib.hid (scz_take (fs n d) R j hjl)
                have hE := HE2.out
                have hG := HG0.out
                have hLG := HLG.out
                have m0 := HMono.out 0 (lg (R.take j)) (by omega) (by omega)
                have m1 := HMono.out (lg (R.take j)) (lg (R.take j) + R[j].2) (by omega) (by omega)
                have m2 := HMono.out (lg (R.take j) + R[j].2) (lg R) (by omega) (by omega)
                have hF1 := HF.out
                rw [hG, HF0.out] at m2
                rw [HZ.out] at m0
                have SC1 := Lib.hid (fun w => HSC.out (lg (R.take j)) w (by omega) (by omega))
                have SC2 := Lib.hid (fun w => HSC.out (lg (R.take j) + R[j].2) w (by omega) (by omega))
                have hw1 := IntWalk.i64_in (lg (R.take j) + R[j].2) (by omega)
                have hw2 := IntWalk.i64_in (fs n d (lg (R.take j) + R[j].2) - fs n d (lg (R.take j))) (by omega)
                have HEN := Lib.hid (show lg (R.take j) + R[j].2 = lg (R.take (j + 1)) from e1.symm)
                have HLEN := Lib.hid (show (scz (fs n d) 0 (R.take j)).length + 1 ≤ 4398046511104 by rw [scz_len, List.length_take]; omega)
                rw [← hE] at SC1 SC2 hw1 hw2 HEN HST m0 m1 m2 r0
                clear e1 r1 hel hE hcell hA2 hG HE2
                generalize R[j].1 = L at *
                generalize R[j].2 = T at *
                generalize fs n d (E + T) = G2 at *
                generalize fs n d E = G1 at *
                obtain ⟨UA, UN, UC, rfl, hUN⟩ := KRow.form HR.out
                clear hUN
                go_wp2_with (first
                  | (go_at_call 49; go_must (first
                      | (have tok := HC5.out; refine (SC2.out _).mono ?_; rintro e6 w6 ⟨rfl, b6⟩; have HC6 := Lib.hid (HC5.out.trans (b6.mono HC5.out.size)); have HR6 := Lib.hid (KRow.keep HR5.out b6); have P6 := Lib.hid (P5.out.keep b6); have HX6 := Lib.hid (BX.out.trans (HC6.out.mono BX.out.size)); clear g0 g1 t0 t1 f0 f1; have g0 := P6.out.cell 0; have g1 := P6.out.cell 1; have f0 := (HAC.out _ HX6.out).1; have f1 := (HAC.out _ HX6.out).2; clear b6 tok)
                      | (refine (SC1.out _).mono ?_; rintro e5 w5 ⟨rfl, b5⟩; have HC5 := Lib.hid (HC.out.trans (b5.mono HC.out.size)); have HR5 := Lib.hid (KRow.keep HR.out b5); have P5 := Lib.hid (P4.out.keep b5); have T5 := Lib.hid (T4.out.keep b5); have HX5 := Lib.hid (BX.out.trans (HC5.out.mono BX.out.size)); clear g0 g1 t0 t1; have g0 := P5.out.cell 0; have g1 := P5.out.cell 1; have t0 := T5.out.cell 0; have t1 := T5.out.cell 1; have f0 := (HAC.out _ HX5.out).1; have f1 := (HAC.out _ HX5.out).2; clear b5)))
                  | (at_builtin; go_must (refine wpList_append_rn rfl _ _ rfl rfl rfl rfl rfl HR6.out HC6.out.size HLEN.out ?_; intro v7 w7 r7 b7; rw [← HST.out] at r7; have HR7 := Lib.hid r7; have HC7 := Lib.hid (HC6.out.trans b7); clear r7 b7))
                  | fail)
                go_roundw
                case rel => exact ⟨j + 1, E + T, by omega, by go_num, rfl, HEN, HR7, HC7⟩
                case measure => simp [intOf]; omega
              · have he : R.take j = R := List.take_of_length_le (by omega)
                rw [he] at HR
                clear he
                obtain ⟨UA, UN, UC, rfl, hUN⟩ := KRow.form HR.out
                clear hUN
                have s3 : w.heap.size + 3 ≤ w3.heap.size := Q3.out.lt
                have s4 : w.heap.size + 3 ≤ wr.heap.size := Q4.out.lt
                have PWa := Lib.hid (P4.out.alloc (.cells #[] 9))
                have h0 := PWa.out.cell 0
                have h1 := PWa.out.cell 1
                have KN := Lib.hid (KRow.lit (T := 9) nmC_size wr wr.heap.size (Nat.le_refl _) [] #[] rfl 0 rfl (by decide))
                have KM := Lib.hid ((HNK.out _ HB.out).keep (ba wr (.cells #[] 9)))
                have bW := Lib.hid (ba wr (.cells #[] 9))
                go_wp2_with (first
                  | (at_builtin; go_must (refine wpList_append_arg (X := ([] : List ByteArray)) (Y := N) (o := ⟨some 89, _, _, _, _, _⟩) Try.underlying22 name_info rfl (by omega) nmC_size nmC_one rfl (.tmp 86) (.tmp 88) rfl rfl rfl KN.out KM.out.1 (ba wr _).size (by have := HNN.out; simp; omega) (by have := HNN.out; simp; omega) ?_; intro v4 w4 r4 b4; rw [List.nil_append] at r4; obtain ⟨CA, CN, CC, rfl, hCN⟩ := KRow.form r4; obtain rfl := hCN; have b4' : Below wr.heap.size wr w4 := bW.out.trans b4; have B4 := Lib.hid (HB.out.trans (b4'.mono HB.out.size)); have QQ := Lib.hid (Q4.out.keep b4'); have R4 := Lib.hid (KRow.mono r4 s4); have RR4 := Lib.hid (KRow.keep HR.out b4'); clear g0 g1 h0 h1 r4 b4))
                  | (go_at_call 32; go_must (refine (HCln.out _ _ (KRow.arg rnC_size RR4.out)).mono ?_; rintro e5 w5 ⟨v5, rfl, r5, b5⟩; obtain ⟨TA, TN, TC, rfl, hTN⟩ := KRow.form r5; clear hTN; have B5 := Lib.hid (B4.out.trans (b5.mono B4.out.size)); have s5 : w.heap.size + 3 ≤ w4.heap.size := QQ.out.lt; have R5 := Lib.hid (KRow.keep R4.out b5); have R6 := Lib.hid (KRow.mono r5 s5); have Q5 := Lib.hid (QQ.out.keep b5); have k0 := Q5.out.cell 0; have k1 := Q5.out.cell 1; have z0 := Q5.out.frozen 0; have z1 := Q5.out.frozen 1; clear r5 b5)))
                have e0 := (two_set (v0 := .slice CA N.length CC) (v1 := .slice TA TN TC) k0 k1).1
                have e1 := (two_set (v0 := .slice CA N.length CC) (v1 := .slice TA TN TC) k0 k1).2
                refine bodyPost_ret (v := .tuple #[.agg #[.slice CA N.length CC, .slice TA TN TC], .int .i64 0]) (by simp [results, Try.results22, go_sem, e0, e1]) rfl ⟨_, _, by rw [HE.out], by rw [HN0.out]; exact KRow.name (KRow.set2 R5.out (by omega) _ _), by rw [HR0.out]; exact KRow.arg rnC_size (KRow.set2 R6.out (by omega) _ _), Below.setCell (Below.setCell B5.out (by show w.heap.size ≤ w.heap.size + 2; omega) _) (by show w.heap.size ≤ w.heap.size + 2; omega) _⟩
  · have he := sx_c (n := n) (d := d) hz
    have hne : ¬ sxE N R n d = 0 := by rw [he]; exact hz
    have HN0 := Lib.hid (sxN_no hne)
    have HR0 := Lib.hid (sxR_no hne)
    have HE := Lib.hid he
    clear hne he
    have hyz : (ckC N R == 0) = false := by simpa using hz
    clear HL
    generalize ckC N R = r at *
    clear hz
    go_enter Try.func22, Try.ntmps22
    go_wp2_with (first
      | (go_at_call 30; go_must (refine (HK.out _ B0.out).mono ?_; rintro e1 w1 ⟨rfl, b1⟩; have BA := Lib.hid (B0.out.trans (b1.mono B0.out.size)); have PA := Lib.hid (P0.out.keep b1); have TA := Lib.hid (T0.out.keep b1); have QA := Lib.hid (Q0.out.keep b1); clear g0 g1 t0 t1 k0 k1 z0 z1; have g0 := PA.out.cell 0; have g1 := PA.out.cell 1; have t0 := TA.out.cell 0; have t1 := TA.out.cell 1; have k0 := QA.out.cell 0; have k1 := QA.out.cell 1; have z0 := QA.out.frozen 0; have z1 := QA.out.frozen 1; clear b1)))
    have e0 := (two_set (v0 := .slice none 0 0) (v1 := .slice none 0 0) k0 k1).1
    have e1 := (two_set (v0 := .slice none 0 0) (v1 := .slice none 0 0) k0 k1).2
    refine bodyPost_ret (v := .tuple #[.agg #[.slice none 0 0, .slice none 0 0], .int .i64 r]) (by simp [results, Try.results22, go_sem, e0, e1]) rfl ⟨_, _, by rw [HE.out], by rw [HN0.out]; exact nm_nil _, by rw [HR0.out]; exact rn_nil _, Below.setCell (Below.setCell BA.out (by show w.heap.size ≤ w.heap.size + 2; omega) _) (by show w.heap.size ≤ w.heap.size + 2; omega) _⟩
end Go.Proofs.Yteccafndplaklaa

namespace Go.Proofs.Yteccafndplaklaa
open Go Go.RowKit Go.Joins
set_option linter.unusedVariables false
set_option linter.unusedSimpArgs false

theorem sxR_len (N : List ByteArray) (R : List Rn) (n d : Int) : (sxR N R n d).length ≤ R.length := by
  unfold sxR
  split
  · exact Nat.le_trans (jn_len _) (scr_len _ _ _)
  · simp
theorem dlR_len4 (N : List ByteArray) (R : List Rn) (b : Int) : (dlR N R b).length ≤ R.length := by
  unfold dlR
  split
  · exact Nat.le_trans (jn_len _) (by rw [dl_len]; exact Nat.le_refl _)
  · simp
theorem dlN_len4 (N : List ByteArray) (R : List Rn) (b : Int) : (dlN N R b).length ≤ N.length := by
  unfold dlN
  split <;> simp
theorem sxN_len (N : List ByteArray) (R : List Rn) (n d : Int) : (sxN N R n d).length ≤ N.length := by
  unfold sxN
  split <;> simp

set_option maxRecDepth 100000 in
set_option maxHeartbeats 16000000 in
theorem law_times (N : List ByteArray) (R : List Rn) (b n d : Int) (vN vR : Value) (w : World) (hN : NmArg w vN N) (hs : szs N) (hR : RnArg w vR R) (hb1 : b ≤ 9223372036854775807) (hn0 : -9223372036854775808 ≤ n) (hn1 : n ≤ 9223372036854775807) (hd0 : -9223372036854775808 ≤ d) (hd1 : d ≤ 9223372036854775807) :
    Calls Try.prog 6 #[.agg #[vN, vR], .int .i64 b, .agg #[.int .i64 n, .int .i64 d]] w fun e w' => e = .returned (.bool true) ∧ Below w.heap.size w w' := by
  have HF := Lib.hid (fun w' (hb : Below w.heap.size w w') => few_any N R vN vR w' (hN.keep hb) (hR.keep hb))
  have H1' := fun (h1 : R.length ≤ 16000) (h2 : N.length ≤ 4096) w' (hb : Below w.heap.size w w') => delay_any N R b vN vR w' (hN.keep hb) hs (hR.keep hb) h1 h2 hb1
  have H2' := fun (h1 : R.length ≤ 16000) (h2 : N.length ≤ 4096) w' (hb : Below w.heap.size w w') => rdelay_any N R b vN vR w' (hN.keep hb) hs (hR.keep hb) h1 h2 hb1
  have H3' := fun (h1 : R.length ≤ 16000) (h2 : N.length ≤ 4096) w' (hb : Below w.heap.size w w') => scale12_any N R n d vN vR w' (hN.keep hb) hs (hR.keep hb) h1 h2 hn0 hn1 hd0 hd1
  have H4' := fun (h1 : R.length ≤ 16000) (h2 : N.length ≤ 4096) w' (hb : Below w.heap.size w w') => rscale12_any N R n d vN vR w' (hN.keep hb) hs (hR.keep hb) h1 h2 hn0 hn1 hd0 hd1
  obtain ⟨A1, c1, rfl, _⟩ := hN.form
  obtain ⟨A2, c2, rfl⟩ := hR.form
  have e1s : (w.alloc (.cells #[.slice A1 N.length c1, .slice A2 R.length c2] 25)).heap.size = w.heap.size + 1 := World.size_alloc _ _
  have B0 := Lib.hid ((ba w (.cells #[.slice A1 N.length c1, .slice A2 R.length c2] 25)).alloc (ba w _).size (.cells #[.int .i64 n, .int .i64 d] 37))
  have P0 := Lib.hid ((RowAt.new w 25 #[.slice A1 N.length c1, .slice A2 R.length c2]).alloc (.cells #[.int .i64 n, .int .i64 d] 37))
  have T0' := RowAt.new (w.alloc (.cells #[.slice A1 N.length c1, .slice A2 R.length c2] 25)) 37 #[.int .i64 n, .int .i64 d]
  rw [e1s] at T0'
  have T0 := Lib.hid T0'
  have Pc0 := P0.out.cell 0
  have Pc1 := P0.out.cell 1
  have Tc0 := T0.out.cell 0
  have Tc1 := T0.out.cell 1
  clear hN hR T0' e1s
  cases hf : fewB N R with
  | false =>
    rw [hf] at HF
    clear H1' H2' H3' H4' hf
    go_enter Try.func6, Try.ntmps6
    go_wp2_with (first
      | (go_at_call 10; go_must (refine (lives_any _).mono ?_; rintro e1 w1 ⟨rfl, b1⟩; have B1 := Lib.hid (B0.out.trans (b1.mono B0.out.size)); (try clear Pc0 Pc1 Tc0 Tc1); have P1 := Lib.hid (P0.out.keep b1); have T1 := Lib.hid (T0.out.keep b1); have Pc0 := P1.out.cell 0; have Pc1 := P1.out.cell 1; have Tc0 := T1.out.cell 0; have Tc1 := T1.out.cell 1;  clear b1))
      | (go_at_call 11; go_must (refine (HF.out _ B1.out).mono ?_; rintro e2 w2 ⟨rfl, b2⟩; have B2 := Lib.hid (B1.out.trans (b2.mono B1.out.size)); (try clear Pc0 Pc1 Tc0 Tc1); have P2 := Lib.hid (P1.out.keep b2); have T2 := Lib.hid (T1.out.keep b2); have Pc0 := P2.out.cell 0; have Pc1 := P2.out.cell 1; have Tc0 := T2.out.cell 0; have Tc1 := T2.out.cell 1;  clear b2)))
    go_returns
    exact ⟨rfl, B2.out⟩
  | true =>
    rw [hf] at HF
    obtain ⟨f1, f2⟩ := fewB_t hf
    have H1 := Lib.hid (H1' (by omega) (by omega))
    have H2 := Lib.hid (H2' (by omega) (by omega))
    have H3 := Lib.hid (H3' (by omega) (by omega))
    have H4 := Lib.hid (H4' (by omega) (by omega))
    have l1 := dlR_len4 N R b
    have l2 := dlN_len4 N R b
    have l3 := sxR_len N R n d
    have l4 := sxN_len N R n d
    have E1 := Lib.hid (fun v1 v2 u1 u2 w' h1 h2 k1 k2 => equal12_any (dlN N R b) (dlR N R b) v1 v2 u1 u2 w' h1 h2 k1 k2 (by omega) (by omega))
    have E2 := Lib.hid (fun v1 v2 u1 u2 w' h1 h2 k1 k2 => equal12_any (sxN N R n d) (sxR N R n d) v1 v2 u1 u2 w' h1 h2 k1 k2 (by omega) (by omega))
    clear H1' H2' H3' H4' hf f1 f2 l1 l2 l3 l4
    generalize dlR N R b = R1 at *
    generalize dlN N R b = N1 at *
    generalize dlE N R b = F1 at *
    generalize sxR N R n d = R2 at *
    generalize sxN N R n d = N2 at *
    generalize sxE N R n d = F2 at *
    go_enter Try.func6, Try.ntmps6
    go_wp2_with (first
      | (go_at_call 10; go_must (refine (lives_any _).mono ?_; rintro e1 w1 ⟨rfl, b1⟩; have B1 := Lib.hid (B0.out.trans (b1.mono B0.out.size)); (try clear Pc0 Pc1 Tc0 Tc1); have P1 := Lib.hid (P0.out.keep b1); have T1 := Lib.hid (T0.out.keep b1); have Pc0 := P1.out.cell 0; have Pc1 := P1.out.cell 1; have Tc0 := T1.out.cell 0; have Tc1 := T1.out.cell 1;  clear b1))
      | (go_at_call 11; go_must (refine (HF.out _ B1.out).mono ?_; rintro e2 w2 ⟨rfl, b2⟩; have B2 := Lib.hid (B1.out.trans (b2.mono B1.out.size)); (try clear Pc0 Pc1 Tc0 Tc1); have P2 := Lib.hid (P1.out.keep b2); have T2 := Lib.hid (T1.out.keep b2); have Pc0 := P2.out.cell 0; have Pc1 := P2.out.cell 1; have Tc0 := T2.out.cell 0; have Tc1 := T2.out.cell 1;  clear b2))
      | (go_at_call 19; go_must (refine (H1.out _ B2.out).mono ?_; rintro e3 w3 ⟨v1, v2, rfl, n3, r3, b3⟩; obtain ⟨UA3, UC3, rfl, _⟩ := n3.form; obtain ⟨VA3, VC3, rfl⟩ := r3.form; have BX3 := Lib.hid (B2.out.trans (b3.mono B2.out.size)); have B3 := Lib.hid (BX3.out.alloc BX3.out.size (.cells #[.slice UA3 N1.length UC3, .slice VA3 R1.length VC3] 25)); (try clear Pc0 Pc1 Tc0 Tc1); have P3 := Lib.hid ((P2.out.keep b3).alloc (.cells #[.slice UA3 N1.length UC3, .slice VA3 R1.length VC3] 25)); have T3 := Lib.hid ((T2.out.keep b3).alloc (.cells #[.slice UA3 N1.length UC3, .slice VA3 R1.length VC3] 25)); have X3 := Lib.hid (RowAt.new w3 25 #[.slice UA3 N1.length UC3, .slice VA3 R1.length VC3]); have Xn_3 := Lib.hid (n3.keep (ba w3 (.cells #[.slice UA3 N1.length UC3, .slice VA3 R1.length VC3] 25))); have Xr_3 := Lib.hid (r3.keep (ba w3 (.cells #[.slice UA3 N1.length UC3, .slice VA3 R1.length VC3] 25))); have Pc0 := P3.out.cell 0; have Pc1 := P3.out.cell 1; have Tc0 := T3.out.cell 0; have Tc1 := T3.out.cell 1; have Xc0 := X3.out.cell 0; have Xc1 := X3.out.cell 1; clear n3 r3 b3))
      | (go_at_call 20; go_must (refine (H2.out _ B3.out).mono ?_; rintro e4 w4 ⟨v1, v2, rfl, n4, r4, b4⟩; obtain ⟨UA4, UC4, rfl, _⟩ := n4.form; obtain ⟨VA4, VC4, rfl⟩ := r4.form; have BX4 := Lib.hid (B3.out.trans (b4.mono B3.out.size)); have B4 := Lib.hid (BX4.out.alloc BX4.out.size (.cells #[.slice UA4 N1.length UC4, .slice VA4 R1.length VC4] 25)); (try clear Pc0 Pc1 Tc0 Tc1 Xc0 Xc1); have P4 := Lib.hid ((P3.out.keep b4).alloc (.cells #[.slice UA4 N1.length UC4, .slice VA4 R1.length VC4] 25)); have T4 := Lib.hid ((T3.out.keep b4).alloc (.cells #[.slice UA4 N1.length UC4, .slice VA4 R1.length VC4] 25)); have X4 := Lib.hid ((X3.out.keep b4).alloc (.cells #[.slice UA4 N1.length UC4, .slice VA4 R1.length VC4] 25)); have Xn_4 := Lib.hid ((Xn_3.out.keep b4).keep (ba w4 (.cells #[.slice UA4 N1.length UC4, .slice VA4 R1.length VC4] 25))); have Xr_4 := Lib.hid ((Xr_3.out.keep b4).keep (ba w4 (.cells #[.slice UA4 N1.length UC4, .slice VA4 R1.length VC4] 25))); have Y4 := Lib.hid (RowAt.new w4 25 #[.slice UA4 N1.length UC4, .slice VA4 R1.length VC4]); have Yn_4 := Lib.hid (n4.keep (ba w4 (.cells #[.slice UA4 N1.length UC4, .slice VA4 R1.length VC4] 25))); have Yr_4 := Lib.hid (r4.keep (ba w4 (.cells #[.slice UA4 N1.length UC4, .slice VA4 R1.length VC4] 25))); have Pc0 := P4.out.cell 0; have Pc1 := P4.out.cell 1; have Tc0 := T4.out.cell 0; have Tc1 := T4.out.cell 1; have Xc0 := X4.out.cell 0; have Xc1 := X4.out.cell 1; have Yc0 := Y4.out.cell 0; have Yc1 := Y4.out.cell 1; clear n4 r4 b4))
      | (go_at_call 21; go_must (refine (H3.out _ B4.out).mono ?_; rintro e5 w5 ⟨v1, v2, rfl, n5, r5, b5⟩; obtain ⟨UA5, UC5, rfl, _⟩ := n5.form; obtain ⟨VA5, VC5, rfl⟩ := r5.form; have BX5 := Lib.hid (B4.out.trans (b5.mono B4.out.size)); have B5 := Lib.hid (BX5.out.alloc BX5.out.size (.cells #[.slice UA5 N2.length UC5, .slice VA5 R2.length VC5] 25)); (try clear Pc0 Pc1 Tc0 Tc1 Xc0 Xc1 Yc0 Yc1); have P5 := Lib.hid ((P4.out.keep b5).alloc (.cells #[.slice UA5 N2.length UC5, .slice VA5 R2.length VC5] 25)); have T5 := Lib.hid ((T4.out.keep b5).alloc (.cells #[.slice UA5 N2.length UC5, .slice VA5 R2.length VC5] 25)); have X5 := Lib.hid ((X4.out.keep b5).alloc (.cells #[.slice UA5 N2.length UC5, .slice VA5 R2.length VC5] 25)); have Y5 := Lib.hid ((Y4.out.keep b5).alloc (.cells #[.slice UA5 N2.length UC5, .slice VA5 R2.length VC5] 25)); have Xn_5 := Lib.hid ((Xn_4.out.keep b5).keep (ba w5 (.cells #[.slice UA5 N2.length UC5, .slice VA5 R2.length VC5] 25))); have Xr_5 := Lib.hid ((Xr_4.out.keep b5).keep (ba w5 (.cells #[.slice UA5 N2.length UC5, .slice VA5 R2.length VC5] 25))); have Yn_5 := Lib.hid ((Yn_4.out.keep b5).keep (ba w5 (.cells #[.slice UA5 N2.length UC5, .slice VA5 R2.length VC5] 25))); have Yr_5 := Lib.hid ((Yr_4.out.keep b5).keep (ba w5 (.cells #[.slice UA5 N2.length UC5, .slice VA5 R2.length VC5] 25))); have Z5 := Lib.hid (RowAt.new w5 25 #[.slice UA5 N2.length UC5, .slice VA5 R2.length VC5]); have Zn_5 := Lib.hid (n5.keep (ba w5 (.cells #[.slice UA5 N2.length UC5, .slice VA5 R2.length VC5] 25))); have Zr_5 := Lib.hid (r5.keep (ba w5 (.cells #[.slice UA5 N2.length UC5, .slice VA5 R2.length VC5] 25))); have Pc0 := P5.out.cell 0; have Pc1 := P5.out.cell 1; have Tc0 := T5.out.cell 0; have Tc1 := T5.out.cell 1; have Xc0 := X5.out.cell 0; have Xc1 := X5.out.cell 1; have Yc0 := Y5.out.cell 0; have Yc1 := Y5.out.cell 1; have Zc0 := Z5.out.cell 0; have Zc1 := Z5.out.cell 1; clear n5 r5 b5))
      | (go_at_call 22; go_must (refine (H4.out _ B5.out).mono ?_; rintro e6 w6 ⟨v1, v2, rfl, n6, r6, b6⟩; obtain ⟨UA6, UC6, rfl, _⟩ := n6.form; obtain ⟨VA6, VC6, rfl⟩ := r6.form; have BX6 := Lib.hid (B5.out.trans (b6.mono B5.out.size)); have B6 := Lib.hid (BX6.out.alloc BX6.out.size (.cells #[.slice UA6 N2.length UC6, .slice VA6 R2.length VC6] 25)); (try clear Pc0 Pc1 Tc0 Tc1 Xc0 Xc1 Yc0 Yc1 Zc0 Zc1); have P6 := Lib.hid ((P5.out.keep b6).alloc (.cells #[.slice UA6 N2.length UC6, .slice VA6 R2.length VC6] 25)); have T6 := Lib.hid ((T5.out.keep b6).alloc (.cells #[.slice UA6 N2.length UC6, .slice VA6 R2.length VC6] 25)); have X6 := Lib.hid ((X5.out.keep b6).alloc (.cells #[.slice UA6 N2.length UC6, .slice VA6 R2.length VC6] 25)); have Y6 := Lib.hid ((Y5.out.keep b6).alloc (.cells #[.slice UA6 N2.length UC6, .slice VA6 R2.length VC6] 25)); have Z6 := Lib.hid ((Z5.out.keep b6).alloc (.cells #[.slice UA6 N2.length UC6, .slice VA6 R2.length VC6] 25)); have Xn_6 := Lib.hid ((Xn_5.out.keep b6).keep (ba w6 (.cells #[.slice UA6 N2.length UC6, .slice VA6 R2.length VC6] 25))); have Xr_6 := Lib.hid ((Xr_5.out.keep b6).keep (ba w6 (.cells #[.slice UA6 N2.length UC6, .slice VA6 R2.length VC6] 25))); have Yn_6 := Lib.hid ((Yn_5.out.keep b6).keep (ba w6 (.cells #[.slice UA6 N2.length UC6, .slice VA6 R2.length VC6] 25))); have Yr_6 := Lib.hid ((Yr_5.out.keep b6).keep (ba w6 (.cells #[.slice UA6 N2.length UC6, .slice VA6 R2.length VC6] 25))); have Zn_6 := Lib.hid ((Zn_5.out.keep b6).keep (ba w6 (.cells #[.slice UA6 N2.length UC6, .slice VA6 R2.length VC6] 25))); have Zr_6 := Lib.hid ((Zr_5.out.keep b6).keep (ba w6 (.cells #[.slice UA6 N2.length UC6, .slice VA6 R2.length VC6] 25))); have U6 := Lib.hid (RowAt.new w6 25 #[.slice UA6 N2.length UC6, .slice VA6 R2.length VC6]); have Un_6 := Lib.hid (n6.keep (ba w6 (.cells #[.slice UA6 N2.length UC6, .slice VA6 R2.length VC6] 25))); have Ur_6 := Lib.hid (r6.keep (ba w6 (.cells #[.slice UA6 N2.length UC6, .slice VA6 R2.length VC6] 25))); have Pc0 := P6.out.cell 0; have Pc1 := P6.out.cell 1; have Tc0 := T6.out.cell 0; have Tc1 := T6.out.cell 1; have Xc0 := X6.out.cell 0; have Xc1 := X6.out.cell 1; have Yc0 := Y6.out.cell 0; have Yc1 := Y6.out.cell 1; have Zc0 := Z6.out.cell 0; have Zc1 := Z6.out.cell 1; have Uc0 := U6.out.cell 0; have Uc1 := U6.out.cell 1; clear n6 r6 b6))
      | (go_at_call 14; go_must (first | (have tok := B7.out; refine (E2.out _ _ _ _ _ Zn_7.out Zr_7.out Un_7.out Ur_7.out).mono ?_; rintro e8 w8 ⟨rfl, b8⟩; have B8 := Lib.hid (B7.out.trans (b8.mono B7.out.size)); (try clear Pc0 Pc1 Tc0 Tc1 Xc0 Xc1 Yc0 Yc1 Zc0 Zc1 Uc0 Uc1); have P8 := Lib.hid (P7.out.keep b8); have T8 := Lib.hid (T7.out.keep b8); have X8 := Lib.hid (X7.out.keep b8); have Y8 := Lib.hid (Y7.out.keep b8); have Z8 := Lib.hid (Z7.out.keep b8); have U8 := Lib.hid (U7.out.keep b8); have Xn_8 := Lib.hid (Xn_7.out.keep b8); have Xr_8 := Lib.hid (Xr_7.out.keep b8); have Yn_8 := Lib.hid (Yn_7.out.keep b8); have Yr_8 := Lib.hid (Yr_7.out.keep b8); have Zn_8 := Lib.hid (Zn_7.out.keep b8); have Zr_8 := Lib.hid (Zr_7.out.keep b8); have Un_8 := Lib.hid (Un_7.out.keep b8); have Ur_8 := Lib.hid (Ur_7.out.keep b8); have Pc0 := P8.out.cell 0; have Pc1 := P8.out.cell 1; have Tc0 := T8.out.cell 0; have Tc1 := T8.out.cell 1; have Xc0 := X8.out.cell 0; have Xc1 := X8.out.cell 1; have Yc0 := Y8.out.cell 0; have Yc1 := Y8.out.cell 1; have Zc0 := Z8.out.cell 0; have Zc1 := Z8.out.cell 1; have Uc0 := U8.out.cell 0; have Uc1 := U8.out.cell 1;  clear b8; clear tok) | (have tok := B6.out; refine (E1.out _ _ _ _ _ Xn_6.out Xr_6.out Yn_6.out Yr_6.out).mono ?_; rintro e7 w7 ⟨rfl, b7⟩; have B7 := Lib.hid (B6.out.trans (b7.mono B6.out.size)); (try clear Pc0 Pc1 Tc0 Tc1 Xc0 Xc1 Yc0 Yc1 Zc0 Zc1 Uc0 Uc1); have P7 := Lib.hid (P6.out.keep b7); have T7 := Lib.hid (T6.out.keep b7); have X7 := Lib.hid (X6.out.keep b7); have Y7 := Lib.hid (Y6.out.keep b7); have Z7 := Lib.hid (Z6.out.keep b7); have U7 := Lib.hid (U6.out.keep b7); have Xn_7 := Lib.hid (Xn_6.out.keep b7); have Xr_7 := Lib.hid (Xr_6.out.keep b7); have Yn_7 := Lib.hid (Yn_6.out.keep b7); have Yr_7 := Lib.hid (Yr_6.out.keep b7); have Zn_7 := Lib.hid (Zn_6.out.keep b7); have Zr_7 := Lib.hid (Zr_6.out.keep b7); have Un_7 := Lib.hid (Un_6.out.keep b7); have Ur_7 := Lib.hid (Ur_6.out.keep b7); have Pc0 := P7.out.cell 0; have Pc1 := P7.out.cell 1; have Tc0 := T7.out.cell 0; have Tc1 := T7.out.cell 1; have Xc0 := X7.out.cell 0; have Xc1 := X7.out.cell 1; have Yc0 := Y7.out.cell 0; have Yc1 := Y7.out.cell 1; have Zc0 := Z7.out.cell 0; have Zc1 := Z7.out.cell 1; have Uc0 := U7.out.cell 0; have Uc1 := U7.out.cell 1;  clear b7; clear tok))))
    go_returns
    exact ⟨rfl, B8.out⟩
end Go.Proofs.Yteccafndplaklaa
