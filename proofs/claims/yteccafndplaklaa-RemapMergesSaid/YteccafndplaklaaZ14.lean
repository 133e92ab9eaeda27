/-
  Merge.
  The specification's upto: the runs kept at their last level up to a length.
-/
import Derived.Test.YteccafndplaklaaZ13
import Derived.Test.YteccafndplaklaaZ11
namespace Go.Proofs.Yteccafndplaklaa
open Go Go.RowKit Go.Joins
set_option linter.unusedVariables false
set_option linter.unusedSimpArgs false

/-- A slice that came in does not lie in a box of two slices. -/
theorem KArg.box {α : Type} {enc : α → Array Value} {k : Nat} {w w' : World} {v : Value} {l : List α} {b : Nat} {T : TypeId} {cs : Array Value} (h : KArg enc k w v l) (hk : 0 < k) (hx : RowAt w b T cs) (hd : ∀ (x : α) (j : Nat), (enc x)[0]? ≠ cs[j]?) (ho : ∀ q, q ≠ b → w'.heap[q]? = w.heap[q]?) (hs : w.heap.size ≤ w'.heap.size) : KArg enc k w' v l := by
  obtain ⟨A, c, e, h1⟩ := h
  refine ⟨A, c, e, fun hl => ?_⟩
  obtain ⟨g, o, e1, e2, e3⟩ := h1 hl
  refine ⟨g, o, e1, by omega, fun j hj i hi => ?_⟩
  have hg : g ≠ b := by
    intro hgb
    subst hgb
    have := e3 0 hl 0 hk
    rw [hx.cell] at this
    exact hd _ _ this.symm
  rw [World.cell?_of_block (ho g hg)]
  exact e3 j hj i hi
theorem NmArg.box {w w' : World} {v : Value} {l : List ByteArray} {b : Nat} {T : TypeId} {a a' : Option Addr} {n n' c c' : Nat} (h : NmArg w v l) (hx : RowAt w b T #[.slice a n c, .slice a' n' c']) (ho : ∀ q, q ≠ b → w'.heap[q]? = w.heap[q]?) (hs : w.heap.size ≤ w'.heap.size) : NmArg w' v l :=
  ⟨KArg.box h.1 (by omega) hx (fun x j => by match j with | 0 => simp [nmC] | 1 => simp [nmC] | j + 2 => simp [nmC]) ho hs, h.2⟩
theorem RnArg.box {w w' : World} {v : Value} {l : List Rn} {b : Nat} {T : TypeId} {a a' : Option Addr} {n n' c c' : Nat} (h : RnArg w v l) (hx : RowAt w b T #[.slice a n c, .slice a' n' c']) (ho : ∀ q, q ≠ b → w'.heap[q]? = w.heap[q]?) (hs : w.heap.size ≤ w'.heap.size) : RnArg w' v l :=
  KArg.box h (by omega) hx (fun x j => by match j with | 0 => simp [rnC] | 1 => simp [rnC] | j + 2 => simp [rnC]) ho hs
theorem heldT3 {w W W' : World} {b : Nat} {x0 x1 y0 y1 : Value} (h : W.cell? ⟨b, 0, none⟩ = some x0 ∧ W.cell? ⟨b, 1, none⟩ = some x1 ∧ W.cell? ⟨b + 1, 0, none⟩ = some y0 ∧ W.cell? ⟨b + 1, 1, none⟩ = some y1 ∧ Below w.heap.size w W ∧ b + 2 < W.heap.size) (hk : ∀ k, k ≠ b + 2 → W'.heap[k]? = W.heap[k]?) (hb : Below (b + 2) W W') (hw : w.heap.size ≤ b + 2 := by omega) :
    W'.cell? ⟨b, 0, none⟩ = some x0 ∧ W'.cell? ⟨b, 1, none⟩ = some x1 ∧ W'.cell? ⟨b + 1, 0, none⟩ = some y0 ∧ W'.cell? ⟨b + 1, 1, none⟩ = some y1 ∧ Below w.heap.size w W' ∧ b + 2 < W'.heap.size := by
  obtain ⟨h0, h1, h2, h3, h4, h5⟩ := h
  have := hb.size
  exact ⟨(World.cell?_of_block (hk b (by omega))).trans h0, (World.cell?_of_block (hk b (by omega))).trans h1, (World.cell?_of_block (hk (b + 1) (by omega))).trans h2, (World.cell?_of_block (hk (b + 1) (by omega))).trans h3, h4.trans (hb.mono hw), by omega⟩

/-- A region whose orders all end in one frame: what stands behind it is walked once. -/
theorem wp_cut8 {P : Program} {c : Code} {Q : Exit → Act → World → Prop} {a : Act} {w : World} (Φ : Option Addr → Nat → Option Addr → Nat → Option Addr → Nat → Option Addr → Nat → World → Prop) (F : Option Addr → Nat → Option Addr → Nat → Option Addr → Nat → Option Addr → Nat → Act)
    (h1 : c.wp P (fun e a' w' => e = .normal ∧ ∃ x1 x2 x3 x4 x5 x6 x7 x8, a' = F x1 x2 x3 x4 x5 x6 x7 x8 ∧ Φ x1 x2 x3 x4 x5 x6 x7 x8 w') a w)
    (h2 : ∀ x1 x2 x3 x4 x5 x6 x7 x8 w', Φ x1 x2 x3 x4 x5 x6 x7 x8 w' → Q .normal (F x1 x2 x3 x4 x5 x6 x7 x8) w') : c.wp P Q a w :=
  Code.wp_mono (fun e a w h => by obtain ⟨rfl, x1, x2, x3, x4, x5, x6, x7, x8, rfl, h⟩ := h; exact h2 _ _ _ _ _ _ _ _ _ h) h1

set_option maxRecDepth 100000 in
set_option maxHeartbeats 16000000 in
theorem merge_any (A : List ByteArray) (X : List Rn) (B : List ByteArray) (Y : List Rn) (vA vX vB vY : Value) (w : World) (hA : NmArg w vA A) (hsA : szs A) (hX : RnArg w vX X) (hB : NmArg w vB B) (hsB : szs B) (hY : RnArg w vY Y) (ha : A.length ≤ 2000) (hb' : B.length ≤ 2000) (hx : X.length ≤ 8000) (hy : Y.length ≤ 8000) :
    Calls Try.prog 17 #[.agg #[vA, vX], .agg #[vB, vY]] w fun e w' => ∃ v1 v2 : Value, e = .returned (.tuple #[.agg #[v1, v2], .int .i64 (mgE A X B Y)]) ∧ NmArg w' v1 (mgN A X B Y) ∧ RnArg w' v2 (mgR A X B Y) ∧ Below w.heap.size w w' := by
  have HKa := Lib.hid (fun w' (hb : Below w.heap.size w w') => check_any A X vA vX w' (hA.keep hb) hsA (hX.keep hb) (by omega))
  have HKb := Lib.hid (fun w' (hb : Below w.heap.size w w') => check_any B Y vB vY w' (hB.keep hb) hsB (hY.keep hb) (by omega))
  have HLa := Lib.hid (fun w' (hb : Below w.heap.size w w') => longC_any A X vA vX w' (hA.keep hb) hsA (hX.keep hb) (by omega))
  have HLb := Lib.hid (fun w' (hb : Below w.heap.size w w') => longC_any B Y vB vY w' (hB.keep hb) hsB (hY.keep hb) (by omega))
  have HCat := Lib.hid (fun T w' (hb : Below w.heap.size w w') => concatN_any A B vA vB w'.heap.size (w'.alloc (.cells #[vA, vB] T)) (by simp) (by simp) (by simp) (hA.keep (hb.alloc hb.size _)) (hB.keep (hb.alloc hb.size _)) (by omega) (by omega))
  have hsAB : szs (A ++ B) := fun s hs => by rcases List.mem_append.1 hs with h | h; exact hsA s h; exact hsB s h
  have HAny := Lib.hid (fun V w' (h : NmArg w' V (A ++ B)) => anyTwice_any (A ++ B) V w' h hsAB (by rw [List.length_append]; omega))
  have HXa' := fun (h : ckC A X = 0) L h1 h2 w' (hb : Below w.heap.size w w') => extended_any A X vA vX L w' (hA.keep hb) hsA (hX.keep hb) h h1 h2
  have HXb' := fun (h : ckC B Y = 0) L h1 h2 w' (hb : Below w.heap.size w w') => extended_any B Y vB vY L w' (hB.keep hb) hsB (hY.keep hb) h h1 h2
  obtain ⟨A1, c1, rfl, _⟩ := hA.form
  obtain ⟨A2, c2, rfl⟩ := hX.form
  obtain ⟨B1, d1, rfl, _⟩ := hB.form
  obtain ⟨B2, d2, rfl⟩ := hY.form
  have e1s : (w.alloc (.cells #[.slice A1 A.length c1, .slice A2 X.length c2] 25)).heap.size = w.heap.size + 1 := World.size_alloc _ _
  have e2s : ((w.alloc (.cells #[.slice A1 A.length c1, .slice A2 X.length c2] 25)).alloc (.cells #[.slice B1 B.length d1, .slice B2 Y.length d2] 25)).heap.size = w.heap.size + 2 := by rw [World.size_alloc, e1s]
  have B0 := Lib.hid (((ba w (.cells #[.slice A1 A.length c1, .slice A2 X.length c2] 25)).alloc (ba w _).size (.cells #[.slice B1 B.length d1, .slice B2 Y.length d2] 25)).alloc (by rw [e2s]; omega) (.cells #[.slice none 0 0, .slice none 0 0] 25))
  have P0 := Lib.hid (((RowAt.new w 25 #[.slice A1 A.length c1, .slice A2 X.length c2]).alloc (.cells #[.slice B1 B.length d1, .slice B2 Y.length d2] 25)).alloc (.cells #[.slice none 0 0, .slice none 0 0] 25))
  have T0' := (RowAt.new (w.alloc (.cells #[.slice A1 A.length c1, .slice A2 X.length c2] 25)) 25 #[.slice B1 B.length d1, .slice B2 Y.length d2]).alloc (.cells #[.slice none 0 0, .slice none 0 0] 25)
  have Q0' := RowAt.new ((w.alloc (.cells #[.slice A1 A.length c1, .slice A2 X.length c2] 25)).alloc (.cells #[.slice B1 B.length d1, .slice B2 Y.length d2] 25)) 25 #[.slice none 0 0, .slice none 0 0]
  rw [e2s] at Q0'
  rw [e1s] at T0'
  have Q0 := Lib.hid Q0'
  have T0 := Lib.hid T0'
  clear Q0' T0' e1s e2s hA hX hB hY
  have g0 := P0.out.cell 0
  have g1 := P0.out.cell 1
  have t0 := T0.out.cell 0
  have t1 := T0.out.cell 1
  have k0 := Q0.out.cell 0
  have k1 := Q0.out.cell 1
  have z0 := Q0.out.frozen 0
  have z1 := Q0.out.frozen 1
  by_cases hz : ckC A X = 0
  · rw [hz] at HKa
    rw [lgC_yes hz] at HLa
    by_cases hz2 : ckC B Y = 0
    · rw [hz2] at HKb
      rw [lgC_yes hz2] at HLb
      have hck := ckC_ok hz
      have hck2 := ckC_ok hz2
      have hdp := dp_two (ckN_nodup hck.2.1) (ckN_nodup hck2.2.1)
      have hrx := vr_range hck.2.2.2.2.2
      have hry := vr_range hck2.2.2.2.2.2
      cases hin : anyIn A B with
      | true =>
        have he := mg_9 hz hz2 hin
        have hne : ¬ mgE A X B Y = 0 := by rw [he]; exact by decide
        have HN0 := Lib.hid (mgN_no hne)
        have HR0 := Lib.hid (mgR_no hne)
        have HE := Lib.hid he
        clear hne he
        rw [hdp, hin] at HAny
        clear HXa' HXb' hck hck2 hdp hrx hry hin hz hz2
        generalize A ++ B = M at *
        go_enter Try.func17, Try.ntmps17
        go_wp2_with (first
          | (go_at_call 24; go_must (first | (have tok := Ba.out; refine (HKb.out _ Ba.out).mono ?_; rintro e2 wb ⟨rfl, b2⟩; have Bb := Lib.hid (Ba.out.trans (b2.mono Ba.out.size)); have Pb := Lib.hid (Pa.out.keep b2); have Tb := Lib.hid (Ta.out.keep b2); have Qb := Lib.hid (Qa.out.keep b2); clear g0 g1 t0 t1 k0 k1 z0 z1; have g0 := Pb.out.cell 0; have g1 := Pb.out.cell 1; have t0 := Tb.out.cell 0; have t1 := Tb.out.cell 1; have k0 := Qb.out.cell 0; have k1 := Qb.out.cell 1; have z0 := Qb.out.frozen 0; have z1 := Qb.out.frozen 1; clear b2) | (refine (HKa.out _ B0.out).mono ?_; rintro e1 wa ⟨rfl, b1⟩; have Ba := Lib.hid (B0.out.trans (b1.mono B0.out.size)); have Pa := Lib.hid (P0.out.keep b1); have Ta := Lib.hid (T0.out.keep b1); have Qa := Lib.hid (Q0.out.keep b1); clear g0 g1 t0 t1 k0 k1 z0 z1; have g0 := Pa.out.cell 0; have g1 := Pa.out.cell 1; have t0 := Ta.out.cell 0; have t1 := Ta.out.cell 1; have k0 := Qa.out.cell 0; have k1 := Qa.out.cell 1; have z0 := Qa.out.frozen 0; have z1 := Qa.out.frozen 1; clear b1)))
          | (go_at_call 39; go_must (refine (HCat.out _ _ Bb.out).mono ?_; rintro e3 wc ⟨v3, rfl, r3, b3'⟩; obtain ⟨UA, UN, UC, rfl, hUN⟩ := KRow.form r3; have b3 := (ba wb _).trans (b3'.mono (ba wb _).size); have hs3 : w.heap.size + 3 ≤ wb.heap.size := Qb.out.lt; have Rc := Lib.hid (KRow.mono r3 (Nat.le_trans hs3 (ba wb _).size)); have Bc := Lib.hid (Bb.out.trans (b3.mono Bb.out.size)); have Pc := Lib.hid (Pb.out.keep b3); have Tc := Lib.hid (Tb.out.keep b3); have Qc := Lib.hid (Qb.out.keep b3); obtain rfl : UN = M.length := hUN; clear g0 g1 t0 t1 k0 k1 z0 z1; have g0 := Pc.out.cell 0; have g1 := Pc.out.cell 1; have t0 := Tc.out.cell 0; have t1 := Tc.out.cell 1; have k0 := Qc.out.cell 0; have k1 := Qc.out.cell 1; have z0 := Qc.out.frozen 0; have z1 := Qc.out.frozen 1; clear b3 b3' r3 hs3))
          | (go_at_call 37; go_must (refine (HAny.out _ _ (KRow.name Rc.out)).mono ?_; rintro e4 wd ⟨rfl, b4⟩; have Bd := Lib.hid (Bc.out.trans (b4.mono Bc.out.size)); have Pd := Lib.hid (Pc.out.keep b4); have Td := Lib.hid (Tc.out.keep b4); have Qd := Lib.hid (Qc.out.keep b4); have Rd := Lib.hid (KRow.keep Rc.out b4); clear g0 g1 t0 t1 k0 k1 z0 z1; have g0 := Pd.out.cell 0; have g1 := Pd.out.cell 1; have t0 := Td.out.cell 0; have t1 := Td.out.cell 1; have k0 := Qd.out.cell 0; have k1 := Qd.out.cell 1; have z0 := Qd.out.frozen 0; have z1 := Qd.out.frozen 1; clear b4)))
        have e0 := (two_set (v0 := .slice none 0 0) (v1 := .slice none 0 0) k0 k1).1
        have e1 := (two_set (v0 := .slice none 0 0) (v1 := .slice none 0 0) k0 k1).2
        refine bodyPost_ret (v := .tuple #[.agg #[.slice none 0 0, .slice none 0 0], .int .i64 9]) (by simp [results, Try.results17, go_sem, e0, e1]) rfl ⟨_, _, by rw [HE.out], by rw [HN0.out]; exact nm_nil _, by rw [HR0.out]; exact rn_nil _, Below.setCell (Below.setCell Bd.out (by show w.heap.size ≤ w.heap.size + 2; omega) _) (by show w.heap.size ≤ w.heap.size + 2; omega) _⟩
      | false =>
        rw [hdp, hin] at HAny
        by_cases hl : 16 < A.length + B.length
        · have he := mg_6 hz hz2 hin hl
          have hne : ¬ mgE A X B Y = 0 := by rw [he]; exact by decide
          have HN0 := Lib.hid (mgN_no hne)
          have HR0 := Lib.hid (mgR_no hne)
          have HE := Lib.hid he
          clear hne he
          have d16 : decide (16 < (((A ++ B).length : Nat) : Int)) = true := decide_eq_true (by rw [List.length_append]; omega)
          clear HXa' HXb' hck hck2 hdp hrx hry hin hz hz2 hl
          generalize A ++ B = M at *
          go_enter Try.func17, Try.ntmps17
          go_wp2_with (first
            | (go_at_call 24; go_must (first | (have tok := Ba.out; refine (HKb.out _ Ba.out).mono ?_; rintro e2 wb ⟨rfl, b2⟩; have Bb := Lib.hid (Ba.out.trans (b2.mono Ba.out.size)); have Pb := Lib.hid (Pa.out.keep b2); have Tb := Lib.hid (Ta.out.keep b2); have Qb := Lib.hid (Qa.out.keep b2); clear g0 g1 t0 t1 k0 k1 z0 z1; have g0 := Pb.out.cell 0; have g1 := Pb.out.cell 1; have t0 := Tb.out.cell 0; have t1 := Tb.out.cell 1; have k0 := Qb.out.cell 0; have k1 := Qb.out.cell 1; have z0 := Qb.out.frozen 0; have z1 := Qb.out.frozen 1; clear b2) | (refine (HKa.out _ B0.out).mono ?_; rintro e1 wa ⟨rfl, b1⟩; have Ba := Lib.hid (B0.out.trans (b1.mono B0.out.size)); have Pa := Lib.hid (P0.out.keep b1); have Ta := Lib.hid (T0.out.keep b1); have Qa := Lib.hid (Q0.out.keep b1); clear g0 g1 t0 t1 k0 k1 z0 z1; have g0 := Pa.out.cell 0; have g1 := Pa.out.cell 1; have t0 := Ta.out.cell 0; have t1 := Ta.out.cell 1; have k0 := Qa.out.cell 0; have k1 := Qa.out.cell 1; have z0 := Qa.out.frozen 0; have z1 := Qa.out.frozen 1; clear b1)))
            | (go_at_call 39; go_must (refine (HCat.out _ _ Bb.out).mono ?_; rintro e3 wc ⟨v3, rfl, r3, b3'⟩; obtain ⟨UA, UN, UC, rfl, hUN⟩ := KRow.form r3; have b3 := (ba wb _).trans (b3'.mono (ba wb _).size); have hs3 : w.heap.size + 3 ≤ wb.heap.size := Qb.out.lt; have Rc := Lib.hid (KRow.mono r3 (Nat.le_trans hs3 (ba wb _).size)); have Bc := Lib.hid (Bb.out.trans (b3.mono Bb.out.size)); have Pc := Lib.hid (Pb.out.keep b3); have Tc := Lib.hid (Tb.out.keep b3); have Qc := Lib.hid (Qb.out.keep b3); obtain rfl : UN = M.length := hUN; clear g0 g1 t0 t1 k0 k1 z0 z1; have g0 := Pc.out.cell 0; have g1 := Pc.out.cell 1; have t0 := Tc.out.cell 0; have t1 := Tc.out.cell 1; have k0 := Qc.out.cell 0; have k1 := Qc.out.cell 1; have z0 := Qc.out.frozen 0; have z1 := Qc.out.frozen 1; clear b3 b3' r3 hs3))
            | (go_at_call 37; go_must (refine (HAny.out _ _ (KRow.name Rc.out)).mono ?_; rintro e4 wd ⟨rfl, b4⟩; have Bd := Lib.hid (Bc.out.trans (b4.mono Bc.out.size)); have Pd := Lib.hid (Pc.out.keep b4); have Td := Lib.hid (Tc.out.keep b4); have Qd := Lib.hid (Qc.out.keep b4); have Rd := Lib.hid (KRow.keep Rc.out b4); clear g0 g1 t0 t1 k0 k1 z0 z1; have g0 := Pd.out.cell 0; have g1 := Pd.out.cell 1; have t0 := Td.out.cell 0; have t1 := Td.out.cell 1; have k0 := Qd.out.cell 0; have k1 := Qd.out.cell 1; have z0 := Qd.out.frozen 0; have z1 := Qd.out.frozen 1; clear b4)))
          have e0 := (two_set (v0 := .slice none 0 0) (v1 := .slice none 0 0) k0 k1).1
          have e1 := (two_set (v0 := .slice none 0 0) (v1 := .slice none 0 0) k0 k1).2
          refine bodyPost_ret (v := .tuple #[.agg #[.slice none 0 0, .slice none 0 0], .int .i64 6]) (by simp [results, Try.results17, go_sem, e0, e1]) rfl ⟨_, _, by rw [HE.out], by rw [HN0.out]; exact nm_nil _, by rw [HR0.out]; exact rn_nil _, Below.setCell (Below.setCell Bd.out (by show w.heap.size ≤ w.heap.size + 2; omega) _) (by show w.heap.size ≤ w.heap.size + 2; omega) _⟩
        · have he := mg_0 hz hz2 hin (by omega)
          have d16 : decide (16 < (((A ++ B).length : Nat) : Int)) = false := decide_eq_false (by rw [List.length_append]; omega)
          obtain ⟨X', eX⟩ : ∃ X', X' = exP X (max (lg X) (lg Y) - lg X) := ⟨_, rfl⟩
          obtain ⟨Y', eY⟩ : ∃ Y', Y' = exP Y (max (lg X) (lg Y) - lg Y) := ⟨_, rfl⟩
          obtain ⟨q1, q2, q3, q4, q5, q6, q7⟩ := mg_build he eX eY
          have lX : X'.length ≤ X.length + 1 := by rw [eX]; exact exP_len _ _
          have lY : Y'.length ≤ Y.length + 1 := by rw [eY]; exact exP_len _ _
          have HXa := Lib.hid (HXa' hz (max (lg X) (lg Y)) (by omega) (by omega))
          have HXb := Lib.hid (HXb' hz2 (max (lg X) (lg Y)) (by omega) (by omega))
          rw [← eX] at HXa
          rw [← eY] at HXb
          have HWa := Lib.hid (fun vN vR vM w' (h0 : vM = vN) (h1 : NmArg w' vN A) (h2 : RnArg w' vR X') => h0 ▸ waves_any A X' A vN vR vN w' h1 hsA h2 (by omega) h1 (by omega))
          have HWb := Lib.hid (fun vN vR vM w' (h0 : vM = vN) (h1 : NmArg w' vN B) (h2 : RnArg w' vR Y') => h0 ▸ waves_any B Y' B vN vR vN w' h1 hsB h2 (by omega) h1 (by omega))
          have HBld := Lib.hid (show ∀ V U w', NmArg w' V (A ++ B) → WvArg w' U (wvs A X' A ++ wvs B Y' B) → Calls Try.prog 28 #[V, U] w' fun e w'' => ∃ v1 v2 : Value, e = .returned (.tuple #[.agg #[v1, v2], .int .i64 0]) ∧ NmRow w'' w'.heap.size v1 (mgN A X B Y) ∧ RnRow w'' w'.heap.size v2 (mgR A X B Y) ∧ Below w'.heap.size w' w'' by
            intro V U w' h1 h2
            refine (build_any (A ++ B) _ V U w' h1 hsAB h2 (fun _ _ => by omega)).mono ?_
            rintro e w'' ⟨v1, v2, N', out, rfl, hBd, b⟩
            rw [q5]
            obtain ⟨x1, x2, x3, _, _⟩ := hBd
            obtain ⟨y1, y2⟩ := x3 q5
            refine ⟨v1, v2, rfl, ?_, ?_, b⟩
            · rw [mgN_0 he, ← y1]; exact x1
            · rw [← q7 out y2]; exact x2)
          have HE := Lib.hid he
          have LWS := Lib.hid (wvs_len A X' A)
          have LUS := Lib.hid (wvs_len B Y' B)
          have hA16 : A.length ≤ 16 := by omega
          have hB16 : B.length ≤ 16 := by omega
          clear HXa' HXb' hck hck2 hdp hin hz hz2 hl q1 q2 q3 q4 q5 q6 q7 lX lY eX eY he hrx hry
          generalize wvs A X' A = WS at *
          generalize wvs B Y' B = US at *
          obtain ⟨WU, hWU⟩ : ∃ WU, WU = WS ++ US := ⟨_, rfl⟩
          rw [← hWU] at HBld
          have hWUh := Lib.hid hWU
          clear hWU
          generalize lg X = SX at *
          generalize lg Y = SY at *
          generalize A ++ B = M at *
          go_enter Try.func17, Try.ntmps17
          go_wp2_with (first
            | (go_at_call 24; go_must (first | (have tok := Ba.out; refine (HKb.out _ Ba.out).mono ?_; rintro e2 wb ⟨rfl, b2⟩; have Bb := Lib.hid (Ba.out.trans (b2.mono Ba.out.size)); have Pb := Lib.hid (Pa.out.keep b2); have Tb := Lib.hid (Ta.out.keep b2); have Qb := Lib.hid (Qa.out.keep b2); clear g0 g1 t0 t1 k0 k1 z0 z1; have g0 := Pb.out.cell 0; have g1 := Pb.out.cell 1; have t0 := Tb.out.cell 0; have t1 := Tb.out.cell 1; have k0 := Qb.out.cell 0; have k1 := Qb.out.cell 1; have z0 := Qb.out.frozen 0; have z1 := Qb.out.frozen 1; clear b2) | (refine (HKa.out _ B0.out).mono ?_; rintro e1 wa ⟨rfl, b1⟩; have Ba := Lib.hid (B0.out.trans (b1.mono B0.out.size)); have Pa := Lib.hid (P0.out.keep b1); have Ta := Lib.hid (T0.out.keep b1); have Qa := Lib.hid (Q0.out.keep b1); clear g0 g1 t0 t1 k0 k1 z0 z1; have g0 := Pa.out.cell 0; have g1 := Pa.out.cell 1; have t0 := Ta.out.cell 0; have t1 := Ta.out.cell 1; have k0 := Qa.out.cell 0; have k1 := Qa.out.cell 1; have z0 := Qa.out.frozen 0; have z1 := Qa.out.frozen 1; clear b1)))
            | (go_at_call 39; go_must (refine (HCat.out _ _ Bb.out).mono ?_; rintro e3 wc ⟨v3, rfl, r3, b3'⟩; obtain ⟨UA, UN, UC, rfl, hUN⟩ := KRow.form r3; have b3 := (ba wb _).trans (b3'.mono (ba wb _).size); have hs3 : w.heap.size + 3 ≤ wb.heap.size := Qb.out.lt; have Rc := Lib.hid (KRow.mono r3 (Nat.le_trans hs3 (ba wb _).size)); have Bc := Lib.hid (Bb.out.trans (b3.mono Bb.out.size)); have Pc := Lib.hid (Pb.out.keep b3); have Tc := Lib.hid (Tb.out.keep b3); have Qc := Lib.hid (Qb.out.keep b3); obtain rfl : UN = M.length := hUN; clear g0 g1 t0 t1 k0 k1 z0 z1; have g0 := Pc.out.cell 0; have g1 := Pc.out.cell 1; have t0 := Tc.out.cell 0; have t1 := Tc.out.cell 1; have k0 := Qc.out.cell 0; have k1 := Qc.out.cell 1; have z0 := Qc.out.frozen 0; have z1 := Qc.out.frozen 1; clear b3 b3' r3 hs3))
            | (go_at_call 37; go_must (refine (HAny.out _ _ (KRow.name Rc.out)).mono ?_; rintro e4 wd ⟨rfl, b4⟩; have Bd := Lib.hid (Bc.out.trans (b4.mono Bc.out.size)); have Pd := Lib.hid (Pc.out.keep b4); have Td := Lib.hid (Tc.out.keep b4); have Qd := Lib.hid (Qc.out.keep b4); have Rd := Lib.hid (KRow.keep Rc.out b4); clear g0 g1 t0 t1 k0 k1 z0 z1; have g0 := Pd.out.cell 0; have g1 := Pd.out.cell 1; have t0 := Td.out.cell 0; have t1 := Td.out.cell 1; have k0 := Qd.out.cell 0; have k1 := Qd.out.cell 1; have z0 := Qd.out.frozen 0; have z1 := Qd.out.frozen 1; clear b4)))
          have Be := Lib.hid (show Below w.heap.size w wd.drew from Bd.out.drew)
          have Pe := Lib.hid (show RowAt wd.drew _ _ _ from Pd.out)
          have Te := Lib.hid (show RowAt wd.drew _ _ _ from Td.out)
          have Qe := Lib.hid (show RowAt wd.drew _ _ _ from Qd.out)
          have Re := Lib.hid (show NmRow wd.drew _ _ _ from Rd.out)
          have Se := Lib.hid (show wd.drew.cell? ⟨w.heap.size, 0, none⟩ = some (.slice A1 A.length c1) ∧ wd.drew.cell? ⟨w.heap.size, 1, none⟩ = some (.slice A2 X.length c2) ∧ wd.drew.cell? ⟨w.heap.size + 1, 0, none⟩ = some (.slice B1 B.length d1) ∧ wd.drew.cell? ⟨w.heap.size + 1, 1, none⟩ = some (.slice B2 Y.length d2) ∧ Below w.heap.size w wd.drew ∧ w.heap.size + 2 < wd.drew.heap.size from ⟨Pe.out.cell 0, Pe.out.cell 1, Te.out.cell 0, Te.out.cell 1, Be.out, Qe.out.lt⟩)
          clear g0 g1 t0 t1 k0 k1 z0 z1
          clear Bd Pd Td Qd Rd
          refine wp_region_held_drew (S := fun w' => w'.cell? ⟨w.heap.size, 0, none⟩ = some (.slice A1 A.length c1) ∧ w'.cell? ⟨w.heap.size, 1, none⟩ = some (.slice A2 X.length c2) ∧ w'.cell? ⟨w.heap.size + 1, 0, none⟩ = some (.slice B1 B.length d1) ∧ w'.cell? ⟨w.heap.size + 1, 1, none⟩ = some (.slice B2 Y.length d2) ∧ Below w.heap.size w w' ∧ w.heap.size + 2 < w'.heap.size) (by kernel_rfl) ?_ (fun hH => ?_)
          · exact Se.out
          generalize wd.drew = we at *
          refine wpAnyH_take (i := 0) (oi := { dst := some 35, op := Go.Op.load 25 (Go.Operand.tmp 2), type := 25, pos := "remap.go:60", after := #[], guard := none }) (v := ?_) rfl ?_ ?_ ?_ ?_ (Or.inl ⟨?_, ?_⟩) hH ?_
          rotate_left
          · kernel_rfl
          · kernel_rfl
          · kernel_rfl
          · exact fun _ _ _ h => h
          · kernel_rfl
          · intro wS hSw
            try dsimp only at hSw
            go_simp
            try with_reducible rfl
          try simp only [Act.put, List.setIfInBounds_toArray, List.set_cons_zero, List.set_cons_succ]
          refine wpAnyH_take (i := 2) (oi := { dst := some 37, op := Go.Op.load 25 (Go.Operand.tmp 3), type := 25, pos := "remap.go:60", after := #[], guard := none }) (v := ?_) rfl ?_ ?_ ?_ ?_ (Or.inl ⟨?_, ?_⟩) hH ?_
          rotate_left
          · kernel_rfl
          · kernel_rfl
          · kernel_rfl
          · exact fun _ _ _ h => h
          · kernel_rfl
          · intro wS hSw
            try dsimp only at hSw
            go_simp
            try with_reducible rfl
          try simp only [Act.put, List.setIfInBounds_toArray, List.set_cons_zero, List.set_cons_succ]
          refine wpAnyH_ready (rs := [1]) (by kernel_rfl) (by simp) ?_
          refine AllReadyH.cons (o := { dst := some 36, op := Go.Op.call { callee := Go.Callee.value (Go.Operand.func 25), args := #[Go.Operand.tmp 35], argTypes := #[25] }, type := 3, pos := "remap.go:60", after := #[{ on := 0, ground := Go.Ground.data }], guard := none }) rfl (fun K hK => ?_) AllReadyH.nil
          · go_simp
            refine (HLa.out _ Se.out.2.2.2.2.1).mono ?_
            rintro ef wf ⟨rfl, bf⟩
            try go_wp2_with fail
            have Sf := Lib.hid (heldS Se.out bf)
            have Bf := Lib.hid (Be.out.trans (bf.mono Be.out.size))
            have Pf := Lib.hid (Pe.out.keep bf)
            have Tf := Lib.hid (Te.out.keep bf)
            have Qf := Lib.hid (Qe.out.keep bf)
            have Rf := Lib.hid (KRow.keep Re.out bf)
            clear bf
            refine hK.out _ _ ?_ (fun hH1 => ?_)
            · exact Sf.out
            clear hK K hH
            try simp only [Act.put, List.setIfInBounds_toArray, List.set_cons_zero, List.set_cons_succ]
            refine wpAnyH_ready (rs := [3]) (by kernel_rfl) (by simp) ?_
            refine AllReadyH.cons (o := { dst := some 38, op := Go.Op.call { callee := Go.Callee.value (Go.Operand.func 25), args := #[Go.Operand.tmp 37], argTypes := #[25] }, type := 3, pos := "remap.go:60", after := #[{ on := 2, ground := Go.Ground.data }, { on := 1, ground := Go.Ground.chain }], guard := none }) rfl (fun K hK => ?_) AllReadyH.nil
            · go_simp
              refine (HLb.out _ Sf.out.2.2.2.2.1).mono ?_
              rintro eg wg ⟨rfl, bg⟩
              try go_wp2_with fail
              have Sg := Lib.hid (heldS Sf.out bg)
              have Bg := Lib.hid (Bf.out.trans (bg.mono Bf.out.size))
              have Pg := Lib.hid (Pf.out.keep bg)
              have Tg := Lib.hid (Tf.out.keep bg)
              have Qg := Lib.hid (Qf.out.keep bg)
              have Rg := Lib.hid (KRow.keep Rf.out bg)
              clear bg
              refine hK.out _ _ ?_ (fun hH2 => ?_)
              · exact Sg.out
              clear hK K hH1
              try simp only [Act.put, List.setIfInBounds_toArray, List.set_cons_zero, List.set_cons_succ]
              refine wpAnyH_take (i := 4) (oi := { dst := some 39, op := Go.Op.call { callee := Go.Callee.builtin Go.Builtin.max, args := #[Go.Operand.tmp 36, Go.Operand.tmp 38], argTypes := #[3, 3] }, type := 3, pos := "remap.go:60", after := #[{ on := 1, ground := Go.Ground.data }, { on := 3, ground := Go.Ground.data }], guard := none }) (v := ?_) rfl ?_ ?_ ?_ ?_ (Or.inl ⟨?_, ?_⟩) hH2 ?_
              rotate_left
              · kernel_rfl
              · kernel_rfl
              · kernel_rfl
              · exact fun _ _ _ h => h
              · kernel_rfl
              · intro wS hSw
                try dsimp only at hSw
                go_simp
                try with_reducible rfl
              try simp only [Act.put, List.setIfInBounds_toArray, List.set_cons_zero, List.set_cons_succ]
              refine wpAnyH_take (i := 5) (oi := { dst := some 9, op := Go.Op.assign (Go.Operand.tmp 39), type := 3, pos := "remap.go:60", after := #[{ on := 4, ground := Go.Ground.data }, { on := 3, ground := Go.Ground.chain }, { on := 0, ground := Go.Ground.phase }, { on := 1, ground := Go.Ground.phase }, { on := 2, ground := Go.Ground.phase }, { on := 3, ground := Go.Ground.phase }, { on := 4, ground := Go.Ground.phase }], guard := none }) (v := ?_) rfl ?_ ?_ ?_ ?_ (Or.inl ⟨?_, ?_⟩) hH2 ?_
              rotate_left
              · kernel_rfl
              · kernel_rfl
              · kernel_rfl
              · exact fun _ _ _ h => h
              · kernel_rfl
              · intro wS hSw
                try dsimp only at hSw
                go_simp
                try with_reducible rfl
              try simp only [Act.put, List.setIfInBounds_toArray, List.set_cons_zero, List.set_cons_succ]
              refine wpAnyH_done (by kernel_rfl) ?_ _
              go_wp2
              refine wp_cut8 (fun EA EC FA FC GA GC HA HC wl => Below w.heap.size w wl ∧ RowAt wl w.heap.size 25 #[.slice EA A.length EC, .slice FA X'.length FC] ∧ RowAt wl (w.heap.size + 1) 25 #[.slice GA B.length GC, .slice HA Y'.length HC] ∧ RowAt wl (w.heap.size + 2) 25 #[.slice none 0 0, .slice none 0 0] ∧ NmRow wl (w.heap.size + 3) (.slice UA M.length UC) M ∧ NmArg wl (.slice EA A.length EC) A ∧ RnArg wl (.slice FA X'.length FC) X' ∧ NmArg wl (.slice GA B.length GC) B ∧ RnArg wl (.slice HA Y'.length HC) Y') (fun EA EC FA FC GA GC HA HC => ({ tmps := #[Value.agg #[Value.slice A1 A.length c1, Value.slice A2 X.length c2], Value.agg #[Value.slice B1 B.length d1, Value.slice B2 Y.length d2], Value.pointer (some { block := w.heap.size, off := 0 }), Value.pointer (some { block := w.heap.size + 1, off := 0 }), Value.pointer (some { block := w.heap.size + 1 + 1, off := 0 }), Value.int IntKind.i64 0, Value.int IntKind.i64 0, Value.int IntKind.i64 0, Value.slice UA M.length UC, Value.int IntKind.i64 (max SX SY), Value.agg #[Value.slice A1 A.length c1, Value.slice A2 X.length c2], Value.int IntKind.i64 0, Value.int IntKind.i64 0, Value.bool false, undef, undef, Value.agg #[Value.slice B1 B.length d1, Value.slice B2 Y.length d2], Value.int IntKind.i64 0, Value.int IntKind.i64 0, Value.bool false, undef, undef, Value.pointer (some { block := w.heap.size, off := 0 }), Value.slice A1 A.length c1, Value.pointer (some { block := w.heap.size + 1, off := 0 }), Value.slice B1 B.length d1, Value.slice (some { block := wb.heap.size, off := 0 }) 2 2, Value.slice UA M.length UC, Value.slice UA M.length UC, Value.bool false, undef, Value.slice UA M.length UC, Value.int IntKind.i64 ↑M.length, Value.bool false, undef, Value.agg #[Value.slice A1 A.length c1, Value.slice A2 X.length c2], Value.int IntKind.i64 SX, Value.agg #[Value.slice B1 B.length d1, Value.slice B2 Y.length d2], Value.int IntKind.i64 SY, Value.int IntKind.i64 (max SX SY), Value.agg #[Value.slice A1 A.length c1, Value.slice A2 X.length c2], Value.int IntKind.i64 (max SX SY), Value.agg #[Value.slice EA A.length EC, Value.slice FA X'.length FC], Value.agg #[Value.slice B1 B.length d1, Value.slice B2 Y.length d2], Value.int IntKind.i64 (max SX SY), Value.agg #[Value.slice GA B.length GC, Value.slice HA Y'.length HC], undef, undef, undef, undef, undef, undef, undef, undef, undef, undef, undef, undef, undef, undef], defers := [] } : Act)) ?h1 ?h2
              case h1 =>
                have Bh := Lib.hid (show Below w.heap.size w wg.drew from Bg.out.drew)
                have Ph := Lib.hid (show RowAt wg.drew _ _ _ from Pg.out)
                have Th := Lib.hid (show RowAt wg.drew _ _ _ from Tg.out)
                have Qh := Lib.hid (show RowAt wg.drew _ _ _ from Qg.out)
                have Rh := Lib.hid (show NmRow wg.drew _ _ _ from Rg.out)
                clear Bg Pg Tg Qg Rg Sg
                refine wp_region_held_drew (S := fun _ => True) (by kernel_rfl) trivial (fun hH => ?_)
                generalize wg.drew = wh at *
                have g0 := Ph.out.cell 0
                have g1 := Ph.out.cell 1
                have t0 := Th.out.cell 0
                have t1 := Th.out.cell 1
                refine wpAnyH_take (i := 1) (oi := { dst := some 41, op := Go.Op.move (Go.Operand.tmp 9), type := 3, pos := "remap.go:61", after := #[], guard := none }) (v := ?_) rfl ?_ ?_ ?_ ?_ (Or.inl ⟨?_, ?_⟩) hH ?_
                rotate_left
                · kernel_rfl
                · kernel_rfl
                · kernel_rfl
                · exact fun _ _ _ h => absurd h.1 (by simp)
                · kernel_rfl
                · intro wS hSw
                  try dsimp only at hSw
                  go_simp
                  try with_reducible rfl
                try simp only [Act.put, List.setIfInBounds_toArray, List.set_cons_zero, List.set_cons_succ]
                refine wpAnyH_take (i := 4) (oi := { dst := some 44, op := Go.Op.move (Go.Operand.tmp 9), type := 3, pos := "remap.go:61", after := #[], guard := none }) (v := ?_) rfl ?_ ?_ ?_ ?_ (Or.inl ⟨?_, ?_⟩) hH ?_
                rotate_left
                · kernel_rfl
                · kernel_rfl
                · kernel_rfl
                · exact fun _ _ _ h => absurd h.1 (by simp)
                · kernel_rfl
                · intro wS hSw
                  try dsimp only at hSw
                  go_simp
                  try with_reducible rfl
                try simp only [Act.put, List.setIfInBounds_toArray, List.set_cons_zero, List.set_cons_succ]
                refine wpAnyH_ready (rs := [0, 3]) (by kernel_rfl) (by simp) ?_
                refine AllReadyH.cons (o := { dst := some 40, op := Go.Op.load 25 (Go.Operand.tmp 2), type := 25, pos := "remap.go:61", after := #[], guard := none }) rfl (fun K hK => ?_) (AllReadyH.cons (o := { dst := some 43, op := Go.Op.load 25 (Go.Operand.tmp 3), type := 25, pos := "remap.go:61", after := #[], guard := none }) rfl (fun K hK => ?_) AllReadyH.nil)
                · go_simp
                  refine hK.out _ _ ?_ (fun hH1 => ?_)
                  · exact trivial
                  clear hK K hH
                  try simp only [Act.put, List.setIfInBounds_toArray, List.set_cons_zero, List.set_cons_succ]
                  refine wpAnyH_ready (rs := [2, 3]) (by kernel_rfl) (by simp) ?_
                  refine AllReadyH.cons (o := { dst := some 42, op := Go.Op.call { callee := Go.Callee.value (Go.Operand.func 40), args := #[Go.Operand.tmp 40, Go.Operand.tmp 41], argTypes := #[25, 3] }, type := 25, pos := "remap.go:61", after := #[{ on := 0, ground := Go.Ground.data }, { on := 1, ground := Go.Ground.data }], guard := none }) rfl (fun K hK => ?_) (AllReadyH.cons (o := { dst := some 43, op := Go.Op.load 25 (Go.Operand.tmp 3), type := 25, pos := "remap.go:61", after := #[], guard := none }) rfl (fun K hK => ?_) AllReadyH.nil)
                  · go_simp
                    refine (HXa.out _ Bh.out).mono ?_
                    rintro ei wi ⟨q1, q2, rfl, ni, ri, bi⟩
                    obtain ⟨EA, EC, rfl, _⟩ := ni.form
                    obtain ⟨FA, FC, rfl⟩ := ri.form
                    try go_wp2_with fail
                    have Bi := Lib.hid (Bh.out.trans (bi.mono Bh.out.size))
                    have Pi := Lib.hid (Ph.out.keep bi)
                    have Ti := Lib.hid (Th.out.keep bi)
                    have Qi := Lib.hid (Qh.out.keep bi)
                    have Ri := Lib.hid (KRow.keep Rh.out bi)
                    have NAi := Lib.hid ni
                    have RAi := Lib.hid ri
                    clear g0 g1 t0 t1
                    have g0 := Pi.out.cell 0
                    have g1 := Pi.out.cell 1
                    have t0 := Ti.out.cell 0
                    have t1 := Ti.out.cell 1
                    clear bi ni ri
                    refine hK.out _ _ ?_ (fun hH2 => ?_)
                    · exact trivial
                    clear hK K hH1
                    try simp only [Act.put, List.setIfInBounds_toArray, List.set_cons_zero, List.set_cons_succ]
                    refine wpAnyH_ready (rs := [3]) (by kernel_rfl) (by simp) ?_
                    refine AllReadyH.cons (o := { dst := some 43, op := Go.Op.load 25 (Go.Operand.tmp 3), type := 25, pos := "remap.go:61", after := #[], guard := none }) rfl (fun K hK => ?_) AllReadyH.nil
                    · go_simp
                      refine hK.out _ _ ?_ (fun hH3 => ?_)
                      · exact trivial
                      clear hK K hH2
                      try simp only [Act.put, List.setIfInBounds_toArray, List.set_cons_zero, List.set_cons_succ]
                      refine wpAnyH_ready (rs := [5]) (by kernel_rfl) (by simp) ?_
                      refine AllReadyH.cons (o := { dst := some 45, op := Go.Op.call { callee := Go.Callee.value (Go.Operand.func 40), args := #[Go.Operand.tmp 43, Go.Operand.tmp 44], argTypes := #[25, 3] }, type := 25, pos := "remap.go:61", after := #[{ on := 3, ground := Go.Ground.data }, { on := 4, ground := Go.Ground.data }, { on := 2, ground := Go.Ground.chain }], guard := none }) rfl (fun K hK => ?_) AllReadyH.nil
                      · go_simp
                        refine (HXb.out _ Bi.out).mono ?_
                        rintro ej wj ⟨q1, q2, rfl, nj, rj, bj⟩
                        obtain ⟨GA, GC, rfl, _⟩ := nj.form
                        obtain ⟨HA, HC, rfl⟩ := rj.form
                        try go_wp2_with fail
                        have Bj := Lib.hid (Bi.out.trans (bj.mono Bi.out.size))
                        have Pj := Lib.hid (Pi.out.keep bj)
                        have Tj := Lib.hid (Ti.out.keep bj)
                        have Qj := Lib.hid (Qi.out.keep bj)
                        have Rj := Lib.hid (KRow.keep Ri.out bj)
                        have NAj := Lib.hid nj
                        have RAj := Lib.hid rj
                        have NBj := Lib.hid (NAi.out.keep bj)
                        have RBj := Lib.hid (RAi.out.keep bj)
                        clear g0 g1 t0 t1
                        have g0 := Pj.out.cell 0
                        have g1 := Pj.out.cell 1
                        have t0 := Tj.out.cell 0
                        have t1 := Tj.out.cell 1
                        clear bj nj rj
                        refine hK.out _ _ ?_ (fun hH4 => ?_)
                        · exact trivial
                        clear hK K hH3
                        try simp only [Act.put, List.setIfInBounds_toArray, List.set_cons_zero, List.set_cons_succ]
                        refine wpAnyH_ready (rs := [6]) (by kernel_rfl) (by simp) ?_
                        refine AllReadyH.cons (o := { dst := none, op := Go.Op.store 25 (Go.Operand.tmp 2) (Go.Operand.tmp 42), type := 0, pos := "remap.go:61", after := #[{ on := 2, ground := Go.Ground.data }, { on := 5, ground := Go.Ground.chain }, { on := 0, ground := Go.Ground.phase }, { on := 1, ground := Go.Ground.phase }, { on := 2, ground := Go.Ground.phase }, { on := 3, ground := Go.Ground.textOnly Go.Departure.lateStores }, { on := 4, ground := Go.Ground.textOnly Go.Departure.lateStores }, { on := 5, ground := Go.Ground.textOnly Go.Departure.lateStoresUnsure }], guard := none }) rfl (fun K hK => ?_) AllReadyH.nil
                        · refine step_store_at2 Pj.out #[.slice EA A.length EC, .slice FA X'.length FC] (.tmp 2) (.tmp 42) 25 rfl rfl rfl rfl (by kernel_rfl) rfl rfl ?_
                          intro wk rk bk kk
                          have Bk := Lib.hid (Bj.out.trans (bk.mono (show w.heap.size ≤ w.heap.size by omega)))
                          have Pk := Lib.hid rk
                          have Tk := Lib.hid (show RowAt wk _ _ _ from (kk _ (by omega)).trans Tj.out)
                          have Qk := Lib.hid (show RowAt wk _ _ _ from (kk _ (by omega)).trans Qj.out)
                          have Rk := Lib.hid (KRow.others Rj.out kk (show w.heap.size < w.heap.size + 3 by omega))
                          have NAk := Lib.hid (NmArg.box NAj.out Pj.out kk bk.size)
                          have NBk := Lib.hid (NmArg.box NBj.out Pj.out kk bk.size)
                          have RAk := Lib.hid (RnArg.box RAj.out Pj.out kk bk.size)
                          have RBk := Lib.hid (RnArg.box RBj.out Pj.out kk bk.size)
                          clear rk bk kk
                          refine hK.out _ _ ?_ (fun hH5 => ?_)
                          · exact trivial
                          clear hK K hH4
                          try simp only [Act.put, List.setIfInBounds_toArray, List.set_cons_zero, List.set_cons_succ]
                          refine wpAnyH_ready (rs := [7]) (by kernel_rfl) (by simp) ?_
                          refine AllReadyH.cons (o := { dst := none, op := Go.Op.store 25 (Go.Operand.tmp 3) (Go.Operand.tmp 45), type := 0, pos := "remap.go:61", after := #[{ on := 5, ground := Go.Ground.data }, { on := 6, ground := Go.Ground.chain }, { on := 0, ground := Go.Ground.phase }, { on := 1, ground := Go.Ground.phase }, { on := 2, ground := Go.Ground.phase }, { on := 3, ground := Go.Ground.phase }, { on := 4, ground := Go.Ground.phase }, { on := 5, ground := Go.Ground.phase }, { on := 6, ground := Go.Ground.phase }], guard := none }) rfl (fun K hK => ?_) AllReadyH.nil
                          · refine step_store_at2 Tk.out #[.slice GA B.length GC, .slice HA Y'.length HC] (.tmp 3) (.tmp 45) 25 rfl rfl rfl rfl (by kernel_rfl) rfl rfl ?_
                            intro wl rl bl kl
                            have Bl := Lib.hid (Bk.out.trans (bl.mono (show w.heap.size ≤ (w.heap.size + 1) by omega)))
                            have Tl := Lib.hid rl
                            have Pl := Lib.hid (show RowAt wl _ _ _ from (kl _ (by omega)).trans Pk.out)
                            have Ql := Lib.hid (show RowAt wl _ _ _ from (kl _ (by omega)).trans Qk.out)
                            have Rl := Lib.hid (KRow.others Rk.out kl (show (w.heap.size + 1) < w.heap.size + 3 by omega))
                            have NAl := Lib.hid (NmArg.box NAk.out Tk.out kl bl.size)
                            have NBl := Lib.hid (NmArg.box NBk.out Tk.out kl bl.size)
                            have RAl := Lib.hid (RnArg.box RAk.out Tk.out kl bl.size)
                            have RBl := Lib.hid (RnArg.box RBk.out Tk.out kl bl.size)
                            clear rl bl kl
                            refine hK.out _ _ ?_ (fun hH6 => ?_)
                            · exact trivial
                            clear hK K hH5
                            try simp only [Act.put, List.setIfInBounds_toArray, List.set_cons_zero, List.set_cons_succ]
                            refine wpAnyH_done (by kernel_rfl) ?_ _
                            exact ⟨rfl, EA, EC, FA, FC, GA, GC, HA, HC, rfl, Bl.out, Pl.out, Tl.out, Ql.out, Rl.out, NBl.out, RBl.out, NAl.out, RAl.out⟩
                  · go_simp
                    refine hK.out _ _ ?_ (fun hH7 => ?_)
                    · exact trivial
                    clear hK K hH1
                    try simp only [Act.put, List.setIfInBounds_toArray, List.set_cons_zero, List.set_cons_succ]
                    refine wpAnyH_ready (rs := [2]) (by kernel_rfl) (by simp) ?_
                    refine AllReadyH.cons (o := { dst := some 42, op := Go.Op.call { callee := Go.Callee.value (Go.Operand.func 40), args := #[Go.Operand.tmp 40, Go.Operand.tmp 41], argTypes := #[25, 3] }, type := 25, pos := "remap.go:61", after := #[{ on := 0, ground := Go.Ground.data }, { on := 1, ground := Go.Ground.data }], guard := none }) rfl (fun K hK => ?_) AllReadyH.nil
                    · go_simp
                      refine (HXa.out _ Bh.out).mono ?_
                      rintro ei wi ⟨q1, q2, rfl, ni, ri, bi⟩
                      obtain ⟨EA, EC, rfl, _⟩ := ni.form
                      obtain ⟨FA, FC, rfl⟩ := ri.form
                      try go_wp2_with fail
                      have Bi := Lib.hid (Bh.out.trans (bi.mono Bh.out.size))
                      have Pi := Lib.hid (Ph.out.keep bi)
                      have Ti := Lib.hid (Th.out.keep bi)
                      have Qi := Lib.hid (Qh.out.keep bi)
                      have Ri := Lib.hid (KRow.keep Rh.out bi)
                      have NAi := Lib.hid ni
                      have RAi := Lib.hid ri
                      clear g0 g1 t0 t1
                      have g0 := Pi.out.cell 0
                      have g1 := Pi.out.cell 1
                      have t0 := Ti.out.cell 0
                      have t1 := Ti.out.cell 1
                      clear bi ni ri
                      refine hK.out _ _ ?_ (fun hH8 => ?_)
                      · exact trivial
                      clear hK K hH7
                      try simp only [Act.put, List.setIfInBounds_toArray, List.set_cons_zero, List.set_cons_succ]
                      refine wpAnyH_ready (rs := [5]) (by kernel_rfl) (by simp) ?_
                      refine AllReadyH.cons (o := { dst := some 45, op := Go.Op.call { callee := Go.Callee.value (Go.Operand.func 40), args := #[Go.Operand.tmp 43, Go.Operand.tmp 44], argTypes := #[25, 3] }, type := 25, pos := "remap.go:61", after := #[{ on := 3, ground := Go.Ground.data }, { on := 4, ground := Go.Ground.data }, { on := 2, ground := Go.Ground.chain }], guard := none }) rfl (fun K hK => ?_) AllReadyH.nil
                      · go_simp
                        refine (HXb.out _ Bi.out).mono ?_
                        rintro ej wj ⟨q1, q2, rfl, nj, rj, bj⟩
                        obtain ⟨GA, GC, rfl, _⟩ := nj.form
                        obtain ⟨HA, HC, rfl⟩ := rj.form
                        try go_wp2_with fail
                        have Bj := Lib.hid (Bi.out.trans (bj.mono Bi.out.size))
                        have Pj := Lib.hid (Pi.out.keep bj)
                        have Tj := Lib.hid (Ti.out.keep bj)
                        have Qj := Lib.hid (Qi.out.keep bj)
                        have Rj := Lib.hid (KRow.keep Ri.out bj)
                        have NAj := Lib.hid nj
                        have RAj := Lib.hid rj
                        have NBj := Lib.hid (NAi.out.keep bj)
                        have RBj := Lib.hid (RAi.out.keep bj)
                        clear g0 g1 t0 t1
                        have g0 := Pj.out.cell 0
                        have g1 := Pj.out.cell 1
                        have t0 := Tj.out.cell 0
                        have t1 := Tj.out.cell 1
                        clear bj nj rj
                        refine hK.out _ _ ?_ (fun hH9 => ?_)
                        · exact trivial
                        clear hK K hH8
                        try simp only [Act.put, List.setIfInBounds_toArray, List.set_cons_zero, List.set_cons_succ]
                        refine wpAnyH_ready (rs := [6]) (by kernel_rfl) (by simp) ?_
                        refine AllReadyH.cons (o := { dst := none, op := Go.Op.store 25 (Go.Operand.tmp 2) (Go.Operand.tmp 42), type := 0, pos := "remap.go:61", after := #[{ on := 2, ground := Go.Ground.data }, { on := 5, ground := Go.Ground.chain }, { on := 0, ground := Go.Ground.phase }, { on := 1, ground := Go.Ground.phase }, { on := 2, ground := Go.Ground.phase }, { on := 3, ground := Go.Ground.textOnly Go.Departure.lateStores }, { on := 4, ground := Go.Ground.textOnly Go.Departure.lateStores }, { on := 5, ground := Go.Ground.textOnly Go.Departure.lateStoresUnsure }], guard := none }) rfl (fun K hK => ?_) AllReadyH.nil
                        · refine step_store_at2 Pj.out #[.slice EA A.length EC, .slice FA X'.length FC] (.tmp 2) (.tmp 42) 25 rfl rfl rfl rfl (by kernel_rfl) rfl rfl ?_
                          intro wk rk bk kk
                          have Bk := Lib.hid (Bj.out.trans (bk.mono (show w.heap.size ≤ w.heap.size by omega)))
                          have Pk := Lib.hid rk
                          have Tk := Lib.hid (show RowAt wk _ _ _ from (kk _ (by omega)).trans Tj.out)
                          have Qk := Lib.hid (show RowAt wk _ _ _ from (kk _ (by omega)).trans Qj.out)
                          have Rk := Lib.hid (KRow.others Rj.out kk (show w.heap.size < w.heap.size + 3 by omega))
                          have NAk := Lib.hid (NmArg.box NAj.out Pj.out kk bk.size)
                          have NBk := Lib.hid (NmArg.box NBj.out Pj.out kk bk.size)
                          have RAk := Lib.hid (RnArg.box RAj.out Pj.out kk bk.size)
                          have RBk := Lib.hid (RnArg.box RBj.out Pj.out kk bk.size)
                          clear rk bk kk
                          refine hK.out _ _ ?_ (fun hH10 => ?_)
                          · exact trivial
                          clear hK K hH9
                          try simp only [Act.put, List.setIfInBounds_toArray, List.set_cons_zero, List.set_cons_succ]
                          refine wpAnyH_ready (rs := [7]) (by kernel_rfl) (by simp) ?_
                          refine AllReadyH.cons (o := { dst := none, op := Go.Op.store 25 (Go.Operand.tmp 3) (Go.Operand.tmp 45), type := 0, pos := "remap.go:61", after := #[{ on := 5, ground := Go.Ground.data }, { on := 6, ground := Go.Ground.chain }, { on := 0, ground := Go.Ground.phase }, { on := 1, ground := Go.Ground.phase }, { on := 2, ground := Go.Ground.phase }, { on := 3, ground := Go.Ground.phase }, { on := 4, ground := Go.Ground.phase }, { on := 5, ground := Go.Ground.phase }, { on := 6, ground := Go.Ground.phase }], guard := none }) rfl (fun K hK => ?_) AllReadyH.nil
                          · refine step_store_at2 Tk.out #[.slice GA B.length GC, .slice HA Y'.length HC] (.tmp 3) (.tmp 45) 25 rfl rfl rfl rfl (by kernel_rfl) rfl rfl ?_
                            intro wl rl bl kl
                            have Bl := Lib.hid (Bk.out.trans (bl.mono (show w.heap.size ≤ (w.heap.size + 1) by omega)))
                            have Tl := Lib.hid rl
                            have Pl := Lib.hid (show RowAt wl _ _ _ from (kl _ (by omega)).trans Pk.out)
                            have Ql := Lib.hid (show RowAt wl _ _ _ from (kl _ (by omega)).trans Qk.out)
                            have Rl := Lib.hid (KRow.others Rk.out kl (show (w.heap.size + 1) < w.heap.size + 3 by omega))
                            have NAl := Lib.hid (NmArg.box NAk.out Tk.out kl bl.size)
                            have NBl := Lib.hid (NmArg.box NBk.out Tk.out kl bl.size)
                            have RAl := Lib.hid (RnArg.box RAk.out Tk.out kl bl.size)
                            have RBl := Lib.hid (RnArg.box RBk.out Tk.out kl bl.size)
                            clear rl bl kl
                            refine hK.out _ _ ?_ (fun hH11 => ?_)
                            · exact trivial
                            clear hK K hH10
                            try simp only [Act.put, List.setIfInBounds_toArray, List.set_cons_zero, List.set_cons_succ]
                            refine wpAnyH_done (by kernel_rfl) ?_ _
                            exact ⟨rfl, EA, EC, FA, FC, GA, GC, HA, HC, rfl, Bl.out, Pl.out, Tl.out, Ql.out, Rl.out, NBl.out, RBl.out, NAl.out, RAl.out⟩
                · go_simp
                  refine hK.out _ _ ?_ (fun hH12 => ?_)
                  · exact trivial
                  clear hK K hH
                  try simp only [Act.put, List.setIfInBounds_toArray, List.set_cons_zero, List.set_cons_succ]
                  refine wpAnyH_ready (rs := [0]) (by kernel_rfl) (by simp) ?_
                  refine AllReadyH.cons (o := { dst := some 40, op := Go.Op.load 25 (Go.Operand.tmp 2), type := 25, pos := "remap.go:61", after := #[], guard := none }) rfl (fun K hK => ?_) AllReadyH.nil
                  · go_simp
                    refine hK.out _ _ ?_ (fun hH13 => ?_)
                    · exact trivial
                    clear hK K hH12
                    try simp only [Act.put, List.setIfInBounds_toArray, List.set_cons_zero, List.set_cons_succ]
                    refine wpAnyH_ready (rs := [2]) (by kernel_rfl) (by simp) ?_
                    refine AllReadyH.cons (o := { dst := some 42, op := Go.Op.call { callee := Go.Callee.value (Go.Operand.func 40), args := #[Go.Operand.tmp 40, Go.Operand.tmp 41], argTypes := #[25, 3] }, type := 25, pos := "remap.go:61", after := #[{ on := 0, ground := Go.Ground.data }, { on := 1, ground := Go.Ground.data }], guard := none }) rfl (fun K hK => ?_) AllReadyH.nil
                    · go_simp
                      refine (HXa.out _ Bh.out).mono ?_
                      rintro ei wi ⟨q1, q2, rfl, ni, ri, bi⟩
                      obtain ⟨EA, EC, rfl, _⟩ := ni.form
                      obtain ⟨FA, FC, rfl⟩ := ri.form
                      try go_wp2_with fail
                      have Bi := Lib.hid (Bh.out.trans (bi.mono Bh.out.size))
                      have Pi := Lib.hid (Ph.out.keep bi)
                      have Ti := Lib.hid (Th.out.keep bi)
                      have Qi := Lib.hid (Qh.out.keep bi)
                      have Ri := Lib.hid (KRow.keep Rh.out bi)
                      have NAi := Lib.hid ni
                      have RAi := Lib.hid ri
                      clear g0 g1 t0 t1
                      have g0 := Pi.out.cell 0
                      have g1 := Pi.out.cell 1
                      have t0 := Ti.out.cell 0
                      have t1 := Ti.out.cell 1
                      clear bi ni ri
                      refine hK.out _ _ ?_ (fun hH14 => ?_)
                      · exact trivial
                      clear hK K hH13
                      try simp only [Act.put, List.setIfInBounds_toArray, List.set_cons_zero, List.set_cons_succ]
                      refine wpAnyH_ready (rs := [5]) (by kernel_rfl) (by simp) ?_
                      refine AllReadyH.cons (o := { dst := some 45, op := Go.Op.call { callee := Go.Callee.value (Go.Operand.func 40), args := #[Go.Operand.tmp 43, Go.Operand.tmp 44], argTypes := #[25, 3] }, type := 25, pos := "remap.go:61", after := #[{ on := 3, ground := Go.Ground.data }, { on := 4, ground := Go.Ground.data }, { on := 2, ground := Go.Ground.chain }], guard := none }) rfl (fun K hK => ?_) AllReadyH.nil
                      · go_simp
                        refine (HXb.out _ Bi.out).mono ?_
                        rintro ej wj ⟨q1, q2, rfl, nj, rj, bj⟩
                        obtain ⟨GA, GC, rfl, _⟩ := nj.form
                        obtain ⟨HA, HC, rfl⟩ := rj.form
                        try go_wp2_with fail
                        have Bj := Lib.hid (Bi.out.trans (bj.mono Bi.out.size))
                        have Pj := Lib.hid (Pi.out.keep bj)
                        have Tj := Lib.hid (Ti.out.keep bj)
                        have Qj := Lib.hid (Qi.out.keep bj)
                        have Rj := Lib.hid (KRow.keep Ri.out bj)
                        have NAj := Lib.hid nj
                        have RAj := Lib.hid rj
                        have NBj := Lib.hid (NAi.out.keep bj)
                        have RBj := Lib.hid (RAi.out.keep bj)
                        clear g0 g1 t0 t1
                        have g0 := Pj.out.cell 0
                        have g1 := Pj.out.cell 1
                        have t0 := Tj.out.cell 0
                        have t1 := Tj.out.cell 1
                        clear bj nj rj
                        refine hK.out _ _ ?_ (fun hH15 => ?_)
                        · exact trivial
                        clear hK K hH14
                        try simp only [Act.put, List.setIfInBounds_toArray, List.set_cons_zero, List.set_cons_succ]
                        refine wpAnyH_ready (rs := [6]) (by kernel_rfl) (by simp) ?_
                        refine AllReadyH.cons (o := { dst := none, op := Go.Op.store 25 (Go.Operand.tmp 2) (Go.Operand.tmp 42), type := 0, pos := "remap.go:61", after := #[{ on := 2, ground := Go.Ground.data }, { on := 5, ground := Go.Ground.chain }, { on := 0, ground := Go.Ground.phase }, { on := 1, ground := Go.Ground.phase }, { on := 2, ground := Go.Ground.phase }, { on := 3, ground := Go.Ground.textOnly Go.Departure.lateStores }, { on := 4, ground := Go.Ground.textOnly Go.Departure.lateStores }, { on := 5, ground := Go.Ground.textOnly Go.Departure.lateStoresUnsure }], guard := none }) rfl (fun K hK => ?_) AllReadyH.nil
                        · refine step_store_at2 Pj.out #[.slice EA A.length EC, .slice FA X'.length FC] (.tmp 2) (.tmp 42) 25 rfl rfl rfl rfl (by kernel_rfl) rfl rfl ?_
                          intro wk rk bk kk
                          have Bk := Lib.hid (Bj.out.trans (bk.mono (show w.heap.size ≤ w.heap.size by omega)))
                          have Pk := Lib.hid rk
                          have Tk := Lib.hid (show RowAt wk _ _ _ from (kk _ (by omega)).trans Tj.out)
                          have Qk := Lib.hid (show RowAt wk _ _ _ from (kk _ (by omega)).trans Qj.out)
                          have Rk := Lib.hid (KRow.others Rj.out kk (show w.heap.size < w.heap.size + 3 by omega))
                          have NAk := Lib.hid (NmArg.box NAj.out Pj.out kk bk.size)
                          have NBk := Lib.hid (NmArg.box NBj.out Pj.out kk bk.size)
                          have RAk := Lib.hid (RnArg.box RAj.out Pj.out kk bk.size)
                          have RBk := Lib.hid (RnArg.box RBj.out Pj.out kk bk.size)
                          clear rk bk kk
                          refine hK.out _ _ ?_ (fun hH16 => ?_)
                          · exact trivial
                          clear hK K hH15
                          try simp only [Act.put, List.setIfInBounds_toArray, List.set_cons_zero, List.set_cons_succ]
                          refine wpAnyH_ready (rs := [7]) (by kernel_rfl) (by simp) ?_
                          refine AllReadyH.cons (o := { dst := none, op := Go.Op.store 25 (Go.Operand.tmp 3) (Go.Operand.tmp 45), type := 0, pos := "remap.go:61", after := #[{ on := 5, ground := Go.Ground.data }, { on := 6, ground := Go.Ground.chain }, { on := 0, ground := Go.Ground.phase }, { on := 1, ground := Go.Ground.phase }, { on := 2, ground := Go.Ground.phase }, { on := 3, ground := Go.Ground.phase }, { on := 4, ground := Go.Ground.phase }, { on := 5, ground := Go.Ground.phase }, { on := 6, ground := Go.Ground.phase }], guard := none }) rfl (fun K hK => ?_) AllReadyH.nil
                          · refine step_store_at2 Tk.out #[.slice GA B.length GC, .slice HA Y'.length HC] (.tmp 3) (.tmp 45) 25 rfl rfl rfl rfl (by kernel_rfl) rfl rfl ?_
                            intro wl rl bl kl
                            have Bl := Lib.hid (Bk.out.trans (bl.mono (show w.heap.size ≤ (w.heap.size + 1) by omega)))
                            have Tl := Lib.hid rl
                            have Pl := Lib.hid (show RowAt wl _ _ _ from (kl _ (by omega)).trans Pk.out)
                            have Ql := Lib.hid (show RowAt wl _ _ _ from (kl _ (by omega)).trans Qk.out)
                            have Rl := Lib.hid (KRow.others Rk.out kl (show (w.heap.size + 1) < w.heap.size + 3 by omega))
                            have NAl := Lib.hid (NmArg.box NAk.out Tk.out kl bl.size)
                            have NBl := Lib.hid (NmArg.box NBk.out Tk.out kl bl.size)
                            have RAl := Lib.hid (RnArg.box RAk.out Tk.out kl bl.size)
                            have RBl := Lib.hid (RnArg.box RBk.out Tk.out kl bl.size)
                            clear rl bl kl
                            refine hK.out _ _ ?_ (fun hH17 => ?_)
                            · exact trivial
                            clear hK K hH16
                            try simp only [Act.put, List.setIfInBounds_toArray, List.set_cons_zero, List.set_cons_succ]
                            refine wpAnyH_done (by kernel_rfl) ?_ _
                            exact ⟨rfl, EA, EC, FA, FC, GA, GC, HA, HC, rfl, Bl.out, Pl.out, Tl.out, Ql.out, Rl.out, NBl.out, RBl.out, NAl.out, RAl.out⟩
              case h2 =>
                intro EA EC FA FC GA GC HA HC wl hPhi
                obtain ⟨p1, p2, p3, p4, p5, p6, p7, p8, p9⟩ := hPhi
                have Bl := Lib.hid p1; have Pl := Lib.hid p2; have Tl := Lib.hid p3; have Ql := Lib.hid p4; have Rl := Lib.hid p5; have NBl := Lib.hid p6; have RBl := Lib.hid p7; have NAl := Lib.hid p8; have RAl := Lib.hid p9
                clear p1 p2 p3 p4 p5 p6 p7 p8 p9 Bg Pg Tg Qg Rg Sg
                go_wp2
                have Bm := Lib.hid (show Below w.heap.size w wl.drew from Bl.out.drew)
                have Pm := Lib.hid (show RowAt wl.drew _ _ _ from Pl.out)
                have Tm := Lib.hid (show RowAt wl.drew _ _ _ from Tl.out)
                have Qm := Lib.hid (show RowAt wl.drew _ _ _ from Ql.out)
                have Rm := Lib.hid (show NmRow wl.drew _ _ _ from Rl.out)
                have NBm := Lib.hid (show NmArg wl.drew _ _ from NBl.out)
                have RBm := Lib.hid (show RnArg wl.drew _ _ from RBl.out)
                have NAm := Lib.hid (show NmArg wl.drew _ _ from NAl.out)
                have RAm := Lib.hid (show RnArg wl.drew _ _ from RAl.out)
                have Sm := Lib.hid (show wl.drew.cell? ⟨w.heap.size, 0, none⟩ = some (.slice EA A.length EC) ∧ wl.drew.cell? ⟨w.heap.size, 1, none⟩ = some ((.slice FA X'.length FC)) ∧ wl.drew.cell? ⟨w.heap.size + 1, 0, none⟩ = some (.slice GA B.length GC) ∧ wl.drew.cell? ⟨w.heap.size + 1, 1, none⟩ = some (.slice HA Y'.length HC) ∧ Below w.heap.size w wl.drew ∧ w.heap.size + 2 < wl.drew.heap.size from ⟨Pm.out.cell 0, Pm.out.cell 1, Tm.out.cell 0, Tm.out.cell 1, Bm.out, Qm.out.lt⟩)
                clear Bl Pl Tl Ql Rl NAl NBl RAl RBl
                refine wp_region_held_drew (S := fun w' => w'.cell? ⟨w.heap.size, 0, none⟩ = some (.slice EA A.length EC) ∧ w'.cell? ⟨w.heap.size, 1, none⟩ = some ((.slice FA X'.length FC)) ∧ w'.cell? ⟨w.heap.size + 1, 0, none⟩ = some (.slice GA B.length GC) ∧ w'.cell? ⟨w.heap.size + 1, 1, none⟩ = some (.slice HA Y'.length HC) ∧ Below w.heap.size w w' ∧ w.heap.size + 2 < w'.heap.size) (by kernel_rfl) ?_ (fun hH => ?_)
                · exact Sm.out
                generalize wl.drew = wm at *
                refine wpAnyH_take (i := 0) (oi := { dst := some 46, op := Go.Op.move (Go.Operand.tmp 8), type := 22, pos := "remap.go:62", after := #[], guard := none }) (v := ?_) rfl ?_ ?_ ?_ ?_ (Or.inl ⟨?_, ?_⟩) hH ?_
                rotate_left
                · kernel_rfl
                · kernel_rfl
                · kernel_rfl
                · exact fun _ _ _ h => h
                · kernel_rfl
                · intro wS hSw
                  try dsimp only at hSw
                  go_simp
                  try with_reducible rfl
                try simp only [Act.put, List.setIfInBounds_toArray, List.set_cons_zero, List.set_cons_succ]
                refine wpAnyH_take (i := 1) (oi := { dst := some 47, op := Go.Op.load 25 (Go.Operand.tmp 2), type := 25, pos := "remap.go:62", after := #[], guard := none }) (v := ?_) rfl ?_ ?_ ?_ ?_ (Or.inl ⟨?_, ?_⟩) hH ?_
                rotate_left
                · kernel_rfl
                · kernel_rfl
                · kernel_rfl
                · exact fun _ _ _ h => h
                · kernel_rfl
                · intro wS hSw
                  try dsimp only at hSw
                  go_simp
                  try with_reducible rfl
                try simp only [Act.put, List.setIfInBounds_toArray, List.set_cons_zero, List.set_cons_succ]
                refine wpAnyH_take (i := 2) (oi := { dst := some 48, op := Go.Op.fieldAddr 25 (Go.Operand.tmp 2) 0, type := 0, pos := "remap.go:62", after := #[], guard := none }) (v := ?_) rfl ?_ ?_ ?_ ?_ (Or.inl ⟨?_, ?_⟩) hH ?_
                rotate_left
                · kernel_rfl
                · kernel_rfl
                · kernel_rfl
                · exact fun _ _ _ h => h
                · kernel_rfl
                · intro wS hSw
                  try dsimp only at hSw
                  go_simp
                  try with_reducible rfl
                try simp only [Act.put, List.setIfInBounds_toArray, List.set_cons_zero, List.set_cons_succ]
                refine wpAnyH_take (i := 3) (oi := { dst := some 49, op := Go.Op.load 22 (Go.Operand.tmp 48), type := 22, pos := "remap.go:62", after := #[{ on := 2, ground := Go.Ground.data }], guard := none }) (v := ?_) rfl ?_ ?_ ?_ ?_ (Or.inl ⟨?_, ?_⟩) hH ?_
                rotate_left
                · kernel_rfl
                · kernel_rfl
                · kernel_rfl
                · exact fun _ _ _ h => h
                · kernel_rfl
                · intro wS hSw
                  try dsimp only at hSw
                  go_simp
                  try with_reducible rfl
                try simp only [Act.put, List.setIfInBounds_toArray, List.set_cons_zero, List.set_cons_succ]
                refine wpAnyH_take (i := 5) (oi := { dst := some 51, op := Go.Op.load 25 (Go.Operand.tmp 3), type := 25, pos := "remap.go:62", after := #[], guard := none }) (v := ?_) rfl ?_ ?_ ?_ ?_ (Or.inl ⟨?_, ?_⟩) hH ?_
                rotate_left
                · kernel_rfl
                · kernel_rfl
                · kernel_rfl
                · exact fun _ _ _ h => h
                · kernel_rfl
                · intro wS hSw
                  try dsimp only at hSw
                  go_simp
                  try with_reducible rfl
                try simp only [Act.put, List.setIfInBounds_toArray, List.set_cons_zero, List.set_cons_succ]
                refine wpAnyH_take (i := 6) (oi := { dst := some 52, op := Go.Op.fieldAddr 25 (Go.Operand.tmp 3) 0, type := 0, pos := "remap.go:62", after := #[], guard := none }) (v := ?_) rfl ?_ ?_ ?_ ?_ (Or.inl ⟨?_, ?_⟩) hH ?_
                rotate_left
                · kernel_rfl
                · kernel_rfl
                · kernel_rfl
                · exact fun _ _ _ h => h
                · kernel_rfl
                · intro wS hSw
                  try dsimp only at hSw
                  go_simp
                  try with_reducible rfl
                try simp only [Act.put, List.setIfInBounds_toArray, List.set_cons_zero, List.set_cons_succ]
                refine wpAnyH_take (i := 7) (oi := { dst := some 53, op := Go.Op.load 22 (Go.Operand.tmp 52), type := 22, pos := "remap.go:62", after := #[{ on := 6, ground := Go.Ground.data }], guard := none }) (v := ?_) rfl ?_ ?_ ?_ ?_ (Or.inl ⟨?_, ?_⟩) hH ?_
                rotate_left
                · kernel_rfl
                · kernel_rfl
                · kernel_rfl
                · exact fun _ _ _ h => h
                · kernel_rfl
                · intro wS hSw
                  try dsimp only at hSw
                  go_simp
                  try with_reducible rfl
                try simp only [Act.put, List.setIfInBounds_toArray, List.set_cons_zero, List.set_cons_succ]
                refine wpAnyH_ready (rs := [4]) (by kernel_rfl) (by simp) ?_
                refine AllReadyH.cons (o := { dst := some 50, op := Go.Op.call { callee := Go.Callee.value (Go.Operand.func 29), args := #[Go.Operand.tmp 47, Go.Operand.tmp 49], argTypes := #[25, 22] }, type := 51, pos := "remap.go:62", after := #[{ on := 1, ground := Go.Ground.data }, { on := 3, ground := Go.Ground.data }], guard := none }) rfl (fun K hK => ?_) AllReadyH.nil
                · go_simp
                  refine (HWa.out _ _ _ _ rfl NBm.out RBm.out).mono ?_
                  rintro en wn ⟨vn, rfl, rn, bn⟩
                  obtain ⟨WnA, WnC, hWn, _⟩ := rn.arg.form
                  subst hWn
                  try go_wp2_with fail
                  have Sn := Lib.hid (heldS Sm.out bn)
                  have Bn := Lib.hid (Bm.out.trans (bn.mono Bm.out.size))
                  have Pn := Lib.hid (Pm.out.keep bn)
                  have Tn := Lib.hid (Tm.out.keep bn)
                  have Qn := Lib.hid (Qm.out.keep bn)
                  have Rn := Lib.hid (KRow.keep Rm.out bn)
                  have Wn := Lib.hid rn.arg
                  have NBn := Lib.hid (NAm.out.keep bn)
                  have RBn := Lib.hid (RAm.out.keep bn)
                  clear bn rn
                  refine hK.out _ _ ?_ (fun hH1 => ?_)
                  · exact Sn.out
                  clear hK K hH
                  try simp only [Act.put, List.setIfInBounds_toArray, List.set_cons_zero, List.set_cons_succ]
                  refine wpAnyH_ready (rs := [8]) (by kernel_rfl) (by simp) ?_
                  refine AllReadyH.cons (o := { dst := some 54, op := Go.Op.call { callee := Go.Callee.value (Go.Operand.func 29), args := #[Go.Operand.tmp 51, Go.Operand.tmp 53], argTypes := #[25, 22] }, type := 51, pos := "remap.go:62", after := #[{ on := 5, ground := Go.Ground.data }, { on := 7, ground := Go.Ground.data }, { on := 4, ground := Go.Ground.chain }], guard := none }) rfl (fun K hK => ?_) AllReadyH.nil
                  · go_simp
                    refine (HWb.out _ _ _ _ rfl NBn.out RBn.out).mono ?_
                    rintro eo wo ⟨vo, rfl, ro, bo⟩
                    obtain ⟨WoA, WoC, hWo, _⟩ := ro.arg.form
                    subst hWo
                    try go_wp2_with fail
                    have So := Lib.hid (heldS Sn.out bo)
                    have Bo := Lib.hid (Bn.out.trans (bo.mono Bn.out.size))
                    have Po := Lib.hid (Pn.out.keep bo)
                    have To := Lib.hid (Tn.out.keep bo)
                    have Qo := Lib.hid (Qn.out.keep bo)
                    have Ro := Lib.hid (KRow.keep Rn.out bo)
                    have Wo := Lib.hid ro.arg
                    have Vo := Lib.hid (WvArg.keep Wn.out bo)
                    clear bo ro
                    refine hK.out _ _ ?_ (fun hH2 => ?_)
                    · exact So.out
                    clear hK K hH1
                    try simp only [Act.put, List.setIfInBounds_toArray, List.set_cons_zero, List.set_cons_succ]
                    refine wpAnyH_ready (rs := [9]) (by kernel_rfl) (by simp) ?_
                    refine AllReadyH.cons (o := { dst := some 55, op := Go.Op.buildSlice 87 2 #[(0, Go.Operand.tmp 50), (1, Go.Operand.tmp 54)], type := 87, pos := "remap.go:62", after := #[{ on := 4, ground := Go.Ground.data }, { on := 8, ground := Go.Ground.data }], guard := none }) rfl (fun K hK => ?_) AllReadyH.nil
                    · obtain ⟨wp, hp⟩ : ∃ wp, wp = wo.alloc (.cells #[.slice WnA WS.length WnC, .slice WoA US.length WoC] 51) := ⟨_, rfl⟩
                      have bp : Below wo.heap.size wo wp := by rw [hp]; exact ba _ _
                      have Sp := Lib.hid (heldS So.out bp)
                      have Bp := Lib.hid (Bo.out.trans (bp.mono Bo.out.size))
                      have Pp := Lib.hid (Po.out.keep bp)
                      have Tp := Lib.hid (To.out.keep bp)
                      have Qp := Lib.hid (Qo.out.keep bp)
                      have Rp := Lib.hid (KRow.keep Ro.out bp)
                      have Vp := Lib.hid (WvArg.keep Vo.out bp)
                      have Wp := Lib.hid (WvArg.keep Wo.out bp)
                      have Xp := Lib.hid (show RowAt wp wo.heap.size 51 #[.slice WnA WS.length WnC, .slice WoA US.length WoC] by rw [hp]; exact RowAt.new _ _ _)
                      go_simp
                      rw [← hp]
                      clear hp bp
                      generalize wo.heap.size = bx at *
                      refine hK.out _ _ ?_ (fun hH3 => ?_)
                      · exact Sp.out
                      clear hK K hH2
                      try simp only [Act.put, List.setIfInBounds_toArray, List.set_cons_zero, List.set_cons_succ]
                      refine wpAnyH_ready (rs := [10]) (by kernel_rfl) (by simp) ?_
                      refine AllReadyH.cons (o := { dst := some 56, op := Go.Op.call { callee := Go.Callee.value (Go.Operand.func 41), args := #[Go.Operand.tmp 55], argTypes := #[87] }, type := 51, pos := "remap.go:62", after := #[{ on := 9, ground := Go.Ground.data }, { on := 8, ground := Go.Ground.chain }], guard := none }) rfl (fun K hK => ?_) AllReadyH.nil
                      · go_simp
                        refine (concatW_any _ _ _ _ bx wp (Xp.out.cell 0) (Xp.out.cell 1) Xp.out.lt Vp.out Wp.out (by rw [LWS.out]; omega) (by rw [LUS.out]; omega)).mono ?_
                        rintro eq wq ⟨vq, rfl, rq, bq⟩
                        rw [← hWUh.out] at rq
                        obtain ⟨WqA, WqC, hWq, _⟩ := rq.form
                        subst hWq
                        try go_wp2_with fail
                        have Sq := Lib.hid (heldS Sp.out bq)
                        have Bq := Lib.hid (Bp.out.trans (bq.mono Bp.out.size))
                        have Pq := Lib.hid (Pp.out.keep bq)
                        have Tq := Lib.hid (Tp.out.keep bq)
                        have Qq := Lib.hid (Qp.out.keep bq)
                        have Rq := Lib.hid (KRow.keep Rp.out bq)
                        have Wq := Lib.hid rq
                        clear bq rq
                        refine hK.out _ _ ?_ (fun hH4 => ?_)
                        · exact Sq.out
                        clear hK K hH3
                        try simp only [Act.put, List.setIfInBounds_toArray, List.set_cons_zero, List.set_cons_succ]
                        refine wpAnyH_ready (rs := [11]) (by kernel_rfl) (by simp) ?_
                        refine AllReadyH.cons (o := { dst := some 57, op := Go.Op.call { callee := Go.Callee.value (Go.Operand.func 28), args := #[Go.Operand.tmp 46, Go.Operand.tmp 56], argTypes := #[22, 51] }, type := 29, pos := "remap.go:62", after := #[{ on := 0, ground := Go.Ground.data }, { on := 10, ground := Go.Ground.data }, { on := 10, ground := Go.Ground.chain }], guard := none }) rfl (fun K hK => ?_) AllReadyH.nil
                        · go_simp
                          refine (HBld.out _ _ _ (KRow.name Rq.out) Wq.out).mono ?_
                          rintro er wr ⟨v1, v2, rfl, r1, r2, br⟩
                          obtain ⟨IA, IN, IC, rfl, hIN⟩ := KRow.form r1
                          obtain ⟨JA, JN, JC, rfl, hJN⟩ := KRow.form r2
                          clear hIN hJN
                          try go_wp2_with fail
                          have Sr := Lib.hid (heldS Sq.out br)
                          have hsq : w.heap.size + 3 ≤ wq.heap.size := Qq.out.lt
                          have N1 := Lib.hid (KRow.mono r1 hsq)
                          have N2 := Lib.hid (KRow.mono r2 hsq)
                          have Br := Lib.hid (Bq.out.trans (br.mono Bq.out.size))
                          have Pr := Lib.hid (Pq.out.keep br)
                          have Tr := Lib.hid (Tq.out.keep br)
                          have Qr := Lib.hid (Qq.out.keep br)
                          have Rr := Lib.hid (KRow.keep Rq.out br)
                          clear br r1 r2
                          refine hK.out _ _ ?_ (fun hH5 => ?_)
                          · exact Sr.out
                          clear hK K hH4
                          try simp only [Act.put, List.setIfInBounds_toArray, List.set_cons_zero, List.set_cons_succ]
                          refine wpAnyH_take (i := 12) (oi := { dst := some 58, op := Go.Op.extract (Go.Operand.tmp 57) 0, type := 25, pos := "remap.go:62", after := #[{ on := 11, ground := Go.Ground.data }], guard := none }) (v := ?_) rfl ?_ ?_ ?_ ?_ (Or.inl ⟨?_, ?_⟩) hH5 ?_
                          rotate_left
                          · kernel_rfl
                          · kernel_rfl
                          · kernel_rfl
                          · exact fun _ _ _ h => h
                          · kernel_rfl
                          · intro wS hSw
                            try dsimp only at hSw
                            go_simp
                            try with_reducible rfl
                          try simp only [Act.put, List.setIfInBounds_toArray, List.set_cons_zero, List.set_cons_succ]
                          refine wpAnyH_take (i := 13) (oi := { dst := some 59, op := Go.Op.extract (Go.Operand.tmp 57) 1, type := 28, pos := "remap.go:62", after := #[{ on := 11, ground := Go.Ground.data }], guard := none }) (v := ?_) rfl ?_ ?_ ?_ ?_ (Or.inl ⟨?_, ?_⟩) hH5 ?_
                          rotate_left
                          · kernel_rfl
                          · kernel_rfl
                          · kernel_rfl
                          · exact fun _ _ _ h => h
                          · kernel_rfl
                          · intro wS hSw
                            try dsimp only at hSw
                            go_simp
                            try with_reducible rfl
                          try simp only [Act.put, List.setIfInBounds_toArray, List.set_cons_zero, List.set_cons_succ]
                          refine wpAnyH_ready (rs := [14]) (by kernel_rfl) (by simp) ?_
                          refine AllReadyH.cons (o := { dst := none, op := Go.Op.store 25 (Go.Operand.tmp 4) (Go.Operand.tmp 58), type := 0, pos := "remap.go:62", after := #[{ on := 12, ground := Go.Ground.data }, { on := 11, ground := Go.Ground.chain }, { on := 0, ground := Go.Ground.phase }, { on := 1, ground := Go.Ground.phase }, { on := 2, ground := Go.Ground.phase }, { on := 3, ground := Go.Ground.phase }, { on := 4, ground := Go.Ground.phase }, { on := 5, ground := Go.Ground.phase }, { on := 6, ground := Go.Ground.phase }, { on := 7, ground := Go.Ground.phase }, { on := 8, ground := Go.Ground.phase }, { on := 9, ground := Go.Ground.phase }, { on := 10, ground := Go.Ground.phase }, { on := 11, ground := Go.Ground.phase }, { on := 12, ground := Go.Ground.phase }, { on := 13, ground := Go.Ground.phase }], guard := none }) rfl (fun K hK => ?_) AllReadyH.nil
                          · refine step_store_at2 Qr.out #[.slice IA IN IC, .slice JA JN JC] (.tmp 4) (.tmp 58) 25 rfl rfl rfl rfl (by kernel_rfl) rfl rfl ?_
                            intro ws rs bs ks
                            have Ss := Lib.hid (heldT3 Sr.out ks bs)
                            have M1 := Lib.hid (KRow.others N1.out ks (Nat.lt_succ_self _))
                            have M2 := Lib.hid (KRow.others N2.out ks (Nat.lt_succ_self _))
                            have e0 : ws.cell? ⟨w.heap.size + 2, 0, none⟩ = some (.slice IA IN IC) := RowAt.cell rs 0
                            have e1 : ws.cell? ⟨w.heap.size + 2, 1, none⟩ = some (.slice JA JN JC) := RowAt.cell rs 1
                            clear rs bs ks
                            refine hK.out _ _ ?_ (fun hH6 => ?_)
                            · exact Ss.out
                            clear hK K hH5
                            try simp only [Act.put, List.setIfInBounds_toArray, List.set_cons_zero, List.set_cons_succ]
                            refine wpAnyH_take (i := 15) (oi := { dst := some 5, op := Go.Op.assign (Go.Operand.tmp 59), type := 28, pos := "remap.go:62", after := #[{ on := 13, ground := Go.Ground.data }, { on := 14, ground := Go.Ground.chain }, { on := 0, ground := Go.Ground.phase }, { on := 1, ground := Go.Ground.phase }, { on := 2, ground := Go.Ground.phase }, { on := 3, ground := Go.Ground.phase }, { on := 4, ground := Go.Ground.phase }, { on := 5, ground := Go.Ground.phase }, { on := 6, ground := Go.Ground.phase }, { on := 7, ground := Go.Ground.phase }, { on := 8, ground := Go.Ground.phase }, { on := 9, ground := Go.Ground.phase }, { on := 10, ground := Go.Ground.phase }, { on := 11, ground := Go.Ground.phase }, { on := 12, ground := Go.Ground.phase }, { on := 13, ground := Go.Ground.phase }, { on := 14, ground := Go.Ground.phase }], guard := none }) (v := ?_) rfl ?_ ?_ ?_ ?_ (Or.inl ⟨?_, ?_⟩) hH6 ?_
                            rotate_left
                            · kernel_rfl
                            · kernel_rfl
                            · kernel_rfl
                            · exact fun _ _ _ h => h
                            · kernel_rfl
                            · intro wS hSw
                              try dsimp only at hSw
                              go_simp
                              try with_reducible rfl
                            try simp only [Act.put, List.setIfInBounds_toArray, List.set_cons_zero, List.set_cons_succ]
                            refine wpAnyH_done (by kernel_rfl) ?_ _
                            try go_wp2
                            refine bodyPost_ret (v := .tuple #[.agg #[.slice IA IN IC, .slice JA JN JC], .int .i64 0]) (by simp [results, Try.results17, go_sem, e0, e1]) rfl ⟨_, _, by rw [HE.out], KRow.name M1.out, KRow.arg rnC_size M2.out, Ss.out.2.2.2.2.1⟩
    · have he := mg_b hz hz2
      have hne : ¬ mgE A X B Y = 0 := by rw [he]; exact hz2
      have HN0 := Lib.hid (mgN_no hne)
      have HR0 := Lib.hid (mgR_no hne)
      have HE := Lib.hid he
      clear hne he
      have hyz : (ckC B Y == 0) = false := by simpa using hz2
      clear HXa' HXb' HLa HLb HCat HAny
      generalize ckC B Y = r at *
      clear hz2 hz
      go_enter Try.func17, Try.ntmps17
      go_wp2_with (first
        | (go_at_call 24; go_must (first | (have tok := Ba.out; refine (HKb.out _ Ba.out).mono ?_; rintro e2 wb ⟨rfl, b2⟩; have Bb := Lib.hid (Ba.out.trans (b2.mono Ba.out.size)); have Pb := Lib.hid (Pa.out.keep b2); have Tb := Lib.hid (Ta.out.keep b2); have Qb := Lib.hid (Qa.out.keep b2); clear g0 g1 t0 t1 k0 k1 z0 z1; have g0 := Pb.out.cell 0; have g1 := Pb.out.cell 1; have t0 := Tb.out.cell 0; have t1 := Tb.out.cell 1; have k0 := Qb.out.cell 0; have k1 := Qb.out.cell 1; have z0 := Qb.out.frozen 0; have z1 := Qb.out.frozen 1; clear b2) | (refine (HKa.out _ B0.out).mono ?_; rintro e1 wa ⟨rfl, b1⟩; have Ba := Lib.hid (B0.out.trans (b1.mono B0.out.size)); have Pa := Lib.hid (P0.out.keep b1); have Ta := Lib.hid (T0.out.keep b1); have Qa := Lib.hid (Q0.out.keep b1); clear g0 g1 t0 t1 k0 k1 z0 z1; have g0 := Pa.out.cell 0; have g1 := Pa.out.cell 1; have t0 := Ta.out.cell 0; have t1 := Ta.out.cell 1; have k0 := Qa.out.cell 0; have k1 := Qa.out.cell 1; have z0 := Qa.out.frozen 0; have z1 := Qa.out.frozen 1; clear b1))))
      have e0 := (two_set (v0 := .slice none 0 0) (v1 := .slice none 0 0) k0 k1).1
      have e1 := (two_set (v0 := .slice none 0 0) (v1 := .slice none 0 0) k0 k1).2
      refine bodyPost_ret (v := .tuple #[.agg #[.slice none 0 0, .slice none 0 0], .int .i64 r]) (by simp [results, Try.results17, go_sem, e0, e1]) rfl ⟨_, _, by rw [HE.out], by rw [HN0.out]; exact nm_nil _, by rw [HR0.out]; exact rn_nil _, Below.setCell (Below.setCell Bb.out (by show w.heap.size ≤ w.heap.size + 2; omega) _) (by show w.heap.size ≤ w.heap.size + 2; omega) _⟩
  · have he := mg_a (B := B) (Y := Y) hz
    have hne : ¬ mgE A X B Y = 0 := by rw [he]; exact hz
    have HN0 := Lib.hid (mgN_no hne)
    have HR0 := Lib.hid (mgR_no hne)
    have HE := Lib.hid he
    clear hne he
    have hyz : (ckC A X == 0) = false := by simpa using hz
    clear HXa' HXb' HLa HLb HCat HAny HKb
    generalize ckC A X = r at *
    clear hz
    go_enter Try.func17, Try.ntmps17
    go_wp2_with (first
      | (go_at_call 24; go_must (refine (HKa.out _ B0.out).mono ?_; rintro e1 wa ⟨rfl, b1⟩; have Ba := Lib.hid (B0.out.trans (b1.mono B0.out.size)); have Pa := Lib.hid (P0.out.keep b1); have Ta := Lib.hid (T0.out.keep b1); have Qa := Lib.hid (Q0.out.keep b1); clear g0 g1 t0 t1 k0 k1 z0 z1; have g0 := Pa.out.cell 0; have g1 := Pa.out.cell 1; have t0 := Ta.out.cell 0; have t1 := Ta.out.cell 1; have k0 := Qa.out.cell 0; have k1 := Qa.out.cell 1; have z0 := Qa.out.frozen 0; have z1 := Qa.out.frozen 1; clear b1)))
    have e0 := (two_set (v0 := .slice none 0 0) (v1 := .slice none 0 0) k0 k1).1
    have e1 := (two_set (v0 := .slice none 0 0) (v1 := .slice none 0 0) k0 k1).2
    refine bodyPost_ret (v := .tuple #[.agg #[.slice none 0 0, .slice none 0 0], .int .i64 r]) (by simp [results, Try.results17, go_sem, e0, e1]) rfl ⟨_, _, by rw [HE.out], by rw [HN0.out]; exact nm_nil _, by rw [HR0.out]; exact rn_nil _, Below.setCell (Below.setCell Ba.out (by show w.heap.size ≤ w.heap.size + 2; omega) _) (by show w.heap.size ≤ w.heap.size + 2; omega) _⟩
end Go.Proofs.Yteccafndplaklaa

namespace Go.Proofs.Yteccafndplaklaa
open Go Go.RowKit Go.Joins
set_option linter.unusedVariables false
set_option linter.unusedSimpArgs false

set_option maxRecDepth 100000 in
set_option maxHeartbeats 8000000 in
theorem upto_any (N : List ByteArray) (R : List Rn) (vN vR : Value) (L : Int) (w : World) (hN : NmArg w vN N) (hs : szs N) (hR : RnArg w vR R) (h : ckC N R = 0) (hL : lg R ≤ L) (hm : L ≤ 1099511627776) (hn : R.length ≤ 16000) :
    Calls Try.prog 43 #[.agg #[vN, vR], .int .i64 L] w fun e w' => ∃ v : Value, e = .returned v ∧ RnRow w' w.heap.size v (exS R (L - lg R)) ∧ Below w.heap.size w w' := by
  have HL := Lib.hid (fun w' (hb : Below w.heap.size w w') => rlongC_any N R vN vR w' (hN.keep hb) hs (hR.keep hb) (by omega))
  rw [lgC_yes h] at HL
  have HRK := Lib.hid (fun w' (hb : Below w.heap.size w w') => hR.keep hb)
  have hrg := vr_range (ckC_ok h).2.2.2.2.2
  obtain ⟨A1, c1, rfl, _⟩ := hN.form
  obtain ⟨A2, c2, rfl⟩ := hR.form
  obtain ⟨W0, hW0⟩ : ∃ W0, W0 = w.alloc (.cells #[.slice A1 N.length c1, .slice A2 R.length c2] 25) := ⟨_, rfl⟩
  have B0 := Lib.hid (show Below w.heap.size w W0 by rw [hW0]; exact ba w _)
  have P0 := Lib.hid (show RowAt W0 w.heap.size 25 #[.slice A1 N.length c1, .slice A2 R.length c2] by rw [hW0]; exact RowAt.new w _ _)
  have g0 := P0.out.cell 0
  have g1 := P0.out.cell 1
  have P0a := Lib.hid (P0.out.alloc (.cells #[] 48))
  have h1' := P0a.out.cell 1
  have KL := Lib.hid (KRow.lit (T := 48) rnC_size W0 (w.heap.size + 1) P0.out.lt [] #[] rfl 0 rfl (by decide))
  have KA := Lib.hid ((HRK.out _ B0.out).keep (ba W0 (.cells #[] 48)))
  have hsz : w.heap.size + 1 ≤ (W0.alloc (.cells #[] 48)).heap.size := Nat.le_trans P0.out.lt (ba W0 _).size
  have hw := IntWalk.i64_in (L - lg R) (by omega)
  have bW := Lib.hid ((ba W0 (.cells #[] 48)).mono (show w.heap.size + 1 ≤ W0.heap.size from P0.out.lt))
  have HS := Lib.hid (fun (v : Value) W (hr : RnRow W (w.heap.size + 1) v (exS R (L - lg R))) => show RnRow W w.heap.size v (exS R (L - lg R)) from KRow.mono hr (Nat.le_succ _))
  have HM0 := Lib.hid (show L = lg R → exS R (L - lg R) = R from fun e => by rw [e, Int.sub_self]; exact exS_zero R)
  have HMn := Lib.hid (show lg R < L → R = [] → exS R (L - lg R) = [(0, L - lg R)] from fun e e2 => by subst e2; exact exS_nil (by omega))
  have HMs := Lib.hid (show lg R < L → ∀ o x, R = o ++ [x] → exS R (L - lg R) = R ++ [(x.1, L - lg R)] from fun e o x e2 => by rw [e2] at e ⊢; exact exS_snoc (by omega))
  have hs0 : W0.heap.size = w.heap.size + 1 := by rw [hW0]; exact World.size_alloc _ _
  rw [hs0] at KL
  subst hW0
  clear hN hR h hs0
  generalize hX : exS R (L - lg R) = X at *
  clear hX
  generalize lg R = G at *
  by_cases hGL : L = G
  · have HX := Lib.hid (HM0.out hGL)
    subst hGL
    have d1 : decide ((0 : Int) < L - L) = false := decide_eq_false (by omega)
    clear hw
    have hw : IntKind.i64.wrap (L - L) = 0 := by rw [Int.sub_self]; rfl
    clear HM0 HMn HMs
    go_enter Try.func43, Try.ntmps43
    go_wp2_with (first
      | (at_builtin; go_must (refine wpList_append_arg (X := ([] : List Rn)) (Y := R) (o := ⟨some 10, _, _, _, _, _⟩) Try.underlying23 run_info rfl (by omega) rnC_size rnC_one rfl (.tmp 7) (.tmp 9) rfl rfl rfl KL.out KA.out hsz (by simp; omega) (by simp; omega) ?_; intro v3 w3 r3 b3; rw [List.nil_append] at r3; obtain ⟨VA, VN, VC, rfl, hVN⟩ := KRow.form r3; clear hVN; have b3' := bW.out.trans b3; have B3 := Lib.hid (B0.out.trans (b3'.mono (Nat.le_succ _))); have P3 := Lib.hid (P0.out.below b3' (Nat.lt_succ_self _)); have R3 := Lib.hid r3; clear g0 g1 h1'; have g0 := P3.out.cell 0; have g1 := P3.out.cell 1; clear r3 b3 b3'))
      | (go_at_call 42; go_must (refine (HL.out _ B3.out).mono ?_; rintro e4 w4 ⟨rfl, b4⟩; have B4 := Lib.hid (B3.out.trans (b4.mono B3.out.size)); have R4 := Lib.hid (KRow.keep R3.out b4); clear b4)))
    go_returns
    exact ⟨_, rfl, by have := KRow.mono R4.out (Nat.le_succ w.heap.size); rw [HX.out]; exact this, B4.out⟩
  · have hlt : G < L := by omega
    have d1 : decide ((0 : Int) < L - G) = true := decide_eq_true (by omega)
    have d1' : (0 : Int) < L - G := by omega
    rcases nil_or_snoc R with hR0 | ⟨o, ⟨x0, x1⟩, hRs⟩
    · have HX := Lib.hid (HMn.out hlt hR0)
      subst hR0
      clear HM0 HMn HMs hGL hlt
      go_enter Try.func43, Try.ntmps43
      go_wp2_with (first
        | (at_builtin; go_must (refine wpList_append_arg (X := ([] : List Rn)) (Y := ([] : List Rn)) (o := ⟨some 10, _, _, _, _, _⟩) Try.underlying23 run_info rfl (by omega) rnC_size rnC_one rfl (.tmp 7) (.tmp 9) rfl rfl rfl KL.out KA.out hsz (by simp) (by simp) ?_; intro v3 w3 r3 b3; rw [List.nil_append] at r3; obtain ⟨VA, VN, VC, rfl, hVN⟩ := KRow.form r3; obtain rfl := hVN; have b3' := bW.out.trans b3; have B3 := Lib.hid (B0.out.trans (b3'.mono (Nat.le_succ _))); have P3 := Lib.hid (P0.out.below b3' (Nat.lt_succ_self _)); clear g0 g1 h1'; have g0 := P3.out.cell 0; have g1 := P3.out.cell 1; clear r3 b3 b3'))
        | (go_at_call 42; go_must (refine (HL.out _ B3.out).mono ?_; rintro e4 w4 ⟨rfl, b4⟩; have B4 := Lib.hid (B3.out.trans (b4.mono B3.out.size)); have KL4 := Lib.hid (KRow.lit (T := 48) rnC_size w4 w.heap.size B4.out.size [(0, L - G)] #[.int .i64 0, .int .i64 (L - G)] rfl 1 rfl (by simp)); have B5 := Lib.hid (B4.out.alloc B4.out.size (.cells #[.int .i64 0, .int .i64 (L - G)] 48)); clear b4)))
      go_returns
      exact ⟨_, rfl, by rw [HX.out]; exact KL4.out, B5.out⟩
    · have HX := Lib.hid (HMs.out hlt o (x0, x1) hRs)
      have hRl : R.length = o.length + 1 := by rw [hRs]; simp
      have HRl := Lib.hid hRl
      have HRx := Lib.hid (show ∀ hq : o.length < R.length, R[o.length] = (x0, x1) by intro hq; subst hRs; simp)
      have hR0 : 0 < R.length := by omega
      have hK0 : decide ((0 : Int) ≤ (o.length : Int)) = true := decide_eq_true (by omega)
      have hn2 : o.length + 1 ≤ 16000 := by omega
      have HX2 := Lib.hid (show ∀ W B v, RnRow W B v R → (o.length * 2 : Nat) = o.length * 2 → W.cell? ⟨(match v.ownBlock with | some q => q | none => 0), o.length * 2, none⟩ = some (.int .i64 x0) from fun W B v hr _ => by
        obtain ⟨g, c, rfl⟩ := KRow.full hr hR0
        have := (RnRow.two hr o.length (by omega)).1
        rw [HRx.out] at this
        exact this)
      have HLe := Lib.hid (show R.length + 1 ≤ 4398046511104 by omega)
      have HRe := Lib.hid (show R.length + 0 = o.length + 1 by omega)
      clear HM0 HMn HMs hGL hlt hRs hn HRx
      rw [hRl] at P0 g0 g1 P0a h1' HRK HL ⊢
      have KA2 := Lib.hid (show RnArg ((w.alloc (.cells #[.slice A1 N.length c1, .slice A2 R.length c2] 25)).alloc (.cells #[] 48)) (.slice A2 (o.length + 1) c2) R by rw [← hRl]; exact KA.out)
      rw [hRl] at KA2 B0 KL hsz bW
      clear KA hRl hR0
      generalize o.length = K at *
      go_enter Try.func43, Try.ntmps43
      go_wp2_with (first
        | (at_builtin; go_must (first
            | (have tok := B4.out; refine wpList_append_rn (o := ⟨some 38, _, _, _, _, _⟩) rfl _ _ rfl rfl rfl rfl rfl R4.out hs4 HLe.out ?_; intro v6 w6 r6 b6; have R6 := Lib.hid r6; have B6 := Lib.hid (B4.out.trans (b6.mono (Nat.le_succ _))); clear r6 b6)
            | (refine wpList_append_arg (X := ([] : List Rn)) (Y := R) (o := ⟨some 10, _, _, _, _, _⟩) Try.underlying23 run_info rfl (by omega) rnC_size rnC_one rfl (.tmp 7) (.tmp 9) rfl rfl rfl KL.out KA2.out hsz (by have := HRl.out; simp; omega) (by have := HRl.out; simp; omega) ?_; intro v3 w3 r3 b3; rw [List.nil_append] at r3; obtain ⟨g, VC, rfl⟩ := KRow.full r3 (by have := HRl.out; omega); have f0 := HX2.out _ _ _ r3 rfl; rw [HRl.out] at r3 ⊢; have b3' := bW.out.trans b3; have B3 := Lib.hid (B0.out.trans (b3'.mono (Nat.le_succ _))); have P3 := Lib.hid (P0.out.below b3' (Nat.lt_succ_self _)); have R3 := Lib.hid r3; clear g0 g1 h1'; have g0 := P3.out.cell 0; have g1 := P3.out.cell 1; clear b3 b3')))
        | (go_at_call 42; go_must (refine (HL.out _ B3.out).mono ?_; rintro e4 w4 ⟨rfl, b4⟩; have B4 := Lib.hid (B3.out.trans (b4.mono B3.out.size)); have R4 := Lib.hid (KRow.keep R3.out b4); have hs4 : w.heap.size + 1 ≤ w4.heap.size := Nat.lt_of_lt_of_le P3.out.lt b4.size; have f4 := (b4.cell (p := ⟨g, K * 2, none⟩) (KRow.len r3).2.2.2).trans f0; clear b4)))
      go_returns
      exact ⟨_, rfl, by have := KRow.mono R6.out (Nat.le_succ w.heap.size); rw [HX.out]; exact this, B6.out⟩
end Go.Proofs.Yteccafndplaklaa
