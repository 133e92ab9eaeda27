/-
  The specification's Slice.
-/
import Derived.Test.YtmfceiioigmnlaaW20
import Derived.Test.YtmfceiioigmnlaaW11
namespace Go.Proofs.Ytmfceiioigmnlaa
open Go Go.RowKit Go.Joins
set_option linter.unusedVariables false
set_option linter.unusedSimpArgs false

theorem heldR {w W W' : World} {x0 x1 : Value} (h : W.cell? ⟨w.heap.size, 0, none⟩ = some x0 ∧ W.cell? ⟨w.heap.size, 1, none⟩ = some x1 ∧ Below w.heap.size w W ∧ w.heap.size < W.heap.size) (hb : Below (w.heap.size + 2) W W') :
    W'.cell? ⟨w.heap.size, 0, none⟩ = some x0 ∧ W'.cell? ⟨w.heap.size, 1, none⟩ = some x1 ∧ Below w.heap.size w W' ∧ w.heap.size < W'.heap.size := by
  obtain ⟨h0, h1, h2, h3⟩ := h
  have := hb.size
  exact ⟨(hb.cell (p := ⟨w.heap.size, 0, none⟩) (show w.heap.size < w.heap.size + 2 by omega)).trans h0, (hb.cell (p := ⟨w.heap.size, 1, none⟩) (show w.heap.size < w.heap.size + 2 by omega)).trans h1, h2.trans (hb.mono (by omega)), by omega⟩

set_option maxRecDepth 20000 in
set_option maxHeartbeats 8000000 in
theorem rslice_any (N : List ByteArray) (R : List Rn) (vN vR : Value) (F T : Int) (w : World) (hN : NmArg w vN N) (hs : szs N) (hR : RnArg w vR R) (hn : R.length ≤ 1099511627776) :
    Calls Try.prog 21 #[.agg #[vN, vR], .int .i64 F, .int .i64 T] w fun e w' => ∃ v1 v2 : Value, e = .returned (.tuple #[.agg #[v1, v2], .int .i64 (slE N R F T)]) ∧ NmRow w' w.heap.size v1 (slN N R F T) ∧ RnRow w' w.heap.size v2 (slR N R F T) ∧ Below w.heap.size w w' := by
  have HK := Lib.hid (fun w' (hb : Below w.heap.size w w') => rcheck_any N R vN vR w' (hN.keep hb) hs (hR.keep hb) hn)
  have HL := Lib.hid (fun h w' (hb : Below w.heap.size w w') => total_any (mk N.length) R vR w' (hR.keep hb) hn (ckC_ok h).2.2.2.2.2)
  have HP := Lib.hid (fun h w' (hb : Below w.heap.size w w') h1 h2 h3 h4 => rpart_any (mk N.length) R vR F T w' (hR.keep hb) (ckC_ok h).1 (ckC_ok h).2.2.2.2.2 h1 h2 h3 h4)
  have HNk := Lib.hid (fun w' (hb : Below w.heap.size w w') => hN.keep hb)
  obtain ⟨A1, c1, rfl, hA1, hA1'⟩ := hN.form
  obtain ⟨A2, c2, rfl⟩ := hR.form
  clear hA1' hN hR hA1 hs
  have B0 := Lib.hid ((ba w (.cells #[.slice A1 N.length c1, .slice A2 R.length c2] 25)).alloc (ba w _).size (.cells #[.slice none 0 0, .slice none 0 0] 25))
  have P0 := Lib.hid ((RowAt.new w 25 #[.slice A1 N.length c1, .slice A2 R.length c2]).alloc (.cells #[.slice none 0 0, .slice none 0 0] 25))
  have Q0' := RowAt.new (w.alloc (.cells #[.slice A1 N.length c1, .slice A2 R.length c2] 25)) 25 #[.slice none 0 0, .slice none 0 0]
  rw [World.size_alloc] at Q0'
  have Q0 := Lib.hid Q0'
  clear Q0'
  by_cases hz : ckC N R = 0
  · have hck := ckC_ok hz
    have HL2 := Lib.hid (HL.out hz)
    have HP2 := Lib.hid (HP.out hz)
    have hNl : N.length ≤ 16 := hck.2.2.2.1
    have hrg := vr_range hck.2.2.2.2.2
    have E2 := Lib.hid (fun h => slE_2 (f := F) (t := T) hz h); have E0 := Lib.hid (fun h => slE_0 (f := F) (t := T) hz h)
    rw [hz] at HK
    clear hz HL HP hck
    by_cases hbad : F < 0 ∨ T ≤ F ∨ lg R < T
    · have he := E2.out hbad
      have hs := slN_n (N := N) (R := R) (f := F) (t := T) (by rw [he]; decide)
      have HE := Lib.hid he; have HS1 := Lib.hid hs.1; have HS2 := Lib.hid hs.2
      clear he hs E0 E2 HP2
      generalize lg R = S at *
      by_cases d1 : F < 0
      · clear hbad
        go_enter Try.func21, Try.ntmps21
        go_wp2_with (first
          | (go_at_call 15; go_must (refine (HK.out _ B0.out).mono ?_; rintro e1 w1 ⟨rfl, b1⟩; have B1 := Lib.hid (B0.out.trans (b1.mono B0.out.size)); have P1 := Lib.hid (P0.out.keep b1); have Q1 := Lib.hid (Q0.out.keep b1); have g0 := P1.out.cell 0; have g1 := P1.out.cell 1; have k0 := Q1.out.cell 0; have k1 := Q1.out.cell 1; have z0 := Q1.out.frozen 0; have z1 := Q1.out.frozen 1; clear b1)))
        have e0 : ((w1.setCell ⟨w.heap.size + 1, 0, none⟩ (.slice none 0 0)).setCell ⟨w.heap.size + 1, 1, none⟩ (.slice none 0 0)).cell? ⟨w.heap.size + 1, 0, none⟩ = some (.slice none 0 0) := (two_set k0 k1).1
        have e1 : ((w1.setCell ⟨w.heap.size + 1, 0, none⟩ (.slice none 0 0)).setCell ⟨w.heap.size + 1, 1, none⟩ (.slice none 0 0)).cell? ⟨w.heap.size + 1, 1, none⟩ = some (.slice none 0 0) := (two_set k0 k1).2
        refine bodyPost_ret (v := .tuple #[.agg #[.slice none 0 0, .slice none 0 0], .int .i64 2]) (by simp [results, Try.results21, go_sem, e0, e1]) rfl ⟨_, _, by rw [HE.out], by rw [HS1.out]; exact KRow.nil _ _, by rw [HS2.out]; exact KRow.nil _ _, Below.setCell (Below.setCell B1.out (Nat.le_succ _) _) (Nat.le_succ _) _⟩
      by_cases d2 : T ≤ F
      · have d1' : decide (T ≤ F) = true := decide_eq_true d2
        clear hbad
        go_enter Try.func21, Try.ntmps21
        go_wp2_with (first
          | (go_at_call 15; go_must (refine (HK.out _ B0.out).mono ?_; rintro e1 w1 ⟨rfl, b1⟩; have B1 := Lib.hid (B0.out.trans (b1.mono B0.out.size)); have P1 := Lib.hid (P0.out.keep b1); have Q1 := Lib.hid (Q0.out.keep b1); have g0 := P1.out.cell 0; have g1 := P1.out.cell 1; have k0 := Q1.out.cell 0; have k1 := Q1.out.cell 1; have z0 := Q1.out.frozen 0; have z1 := Q1.out.frozen 1; clear b1)))
        have e0 : ((w1.setCell ⟨w.heap.size + 1, 0, none⟩ (.slice none 0 0)).setCell ⟨w.heap.size + 1, 1, none⟩ (.slice none 0 0)).cell? ⟨w.heap.size + 1, 0, none⟩ = some (.slice none 0 0) := (two_set k0 k1).1
        have e1 : ((w1.setCell ⟨w.heap.size + 1, 0, none⟩ (.slice none 0 0)).setCell ⟨w.heap.size + 1, 1, none⟩ (.slice none 0 0)).cell? ⟨w.heap.size + 1, 1, none⟩ = some (.slice none 0 0) := (two_set k0 k1).2
        refine bodyPost_ret (v := .tuple #[.agg #[.slice none 0 0, .slice none 0 0], .int .i64 2]) (by simp [results, Try.results21, go_sem, e0, e1]) rfl ⟨_, _, by rw [HE.out], by rw [HS1.out]; exact KRow.nil _ _, by rw [HS2.out]; exact KRow.nil _ _, Below.setCell (Below.setCell B1.out (Nat.le_succ _) _) (Nat.le_succ _) _⟩
      · have d1' : decide (T ≤ F) = false := decide_eq_false d2
        have d3 : S < T := by omega
        clear hbad
        go_enter Try.func21, Try.ntmps21
        go_wp2_with (first
          | (go_at_call 15; go_must (refine (HK.out _ B0.out).mono ?_; rintro e1 w1 ⟨rfl, b1⟩; have B1 := Lib.hid (B0.out.trans (b1.mono B0.out.size)); have P1 := Lib.hid (P0.out.keep b1); have Q1 := Lib.hid (Q0.out.keep b1); have g0 := P1.out.cell 0; have g1 := P1.out.cell 1; clear b1))
          | (go_at_call 31; go_must (refine (HL2.out _ B1.out).mono ?_; rintro e2 w2 ⟨rfl, rfl⟩; have k0 := Q1.out.cell 0; have k1 := Q1.out.cell 1; have z0 := Q1.out.frozen 0; have z1 := Q1.out.frozen 1)))
        have e0 : ((w1.setCell ⟨w.heap.size + 1, 0, none⟩ (.slice none 0 0)).setCell ⟨w.heap.size + 1, 1, none⟩ (.slice none 0 0)).cell? ⟨w.heap.size + 1, 0, none⟩ = some (.slice none 0 0) := (two_set k0 k1).1
        have e1 : ((w1.setCell ⟨w.heap.size + 1, 0, none⟩ (.slice none 0 0)).setCell ⟨w.heap.size + 1, 1, none⟩ (.slice none 0 0)).cell? ⟨w.heap.size + 1, 1, none⟩ = some (.slice none 0 0) := (two_set k0 k1).2
        refine bodyPost_ret (v := .tuple #[.agg #[.slice none 0 0, .slice none 0 0], .int .i64 2]) (by simp [results, Try.results21, go_sem, e0, e1]) rfl ⟨_, _, by rw [HE.out], by rw [HS1.out]; exact KRow.nil _ _, by rw [HS2.out]; exact KRow.nil _ _, Below.setCell (Below.setCell B1.out (Nat.le_succ _) _) (Nat.le_succ _) _⟩
    · have he := E0.out hbad
      have hs := slN_0 (N := N) (R := R) (f := F) (t := T) he
      have HE := Lib.hid he; have HS1 := Lib.hid hs.1; have HS2 := Lib.hid hs.2
      have HP3 := Lib.hid (fun w' hb => HP2.out w' hb (by omega) (by omega) (by omega) (by omega))
      clear he hs E0 E2 HP2
      generalize lg R = S at *
      have d0 : ¬ F < 0 := by omega
      have d1 : decide (T ≤ F) = false := decide_eq_false (by omega)
      have d3 : ¬ S < T := by omega
      clear hbad
      go_enter Try.func21, Try.ntmps21
      go_wp2_with (first
        | (go_at_call 15; go_must (refine (HK.out _ B0.out).mono ?_; rintro e1 w1 ⟨rfl, b1⟩; have B1 := Lib.hid (B0.out.trans (b1.mono B0.out.size)); have P1 := Lib.hid (P0.out.keep b1); have Q1 := Lib.hid (Q0.out.keep b1); have g0 := P1.out.cell 0; have g1 := P1.out.cell 1; clear b1))
        | (go_at_call 31; go_must (refine (HL2.out _ B1.out).mono ?_; rintro e2 w2 ⟨rfl, rfl⟩; clear g0 g1)))
      have S0 := Lib.hid (show w1.drew.cell? ⟨w.heap.size, 0, none⟩ = some (.slice A1 N.length c1) ∧ w1.drew.cell? ⟨w.heap.size, 1, none⟩ = some (.slice A2 R.length c2) ∧ Below w.heap.size w w1.drew ∧ w.heap.size < w1.drew.heap.size from ⟨P1.out.cell 0, P1.out.cell 1, B1.out.drew, P1.out.lt⟩)
      have q2 := Lib.hid (show RowAt w1.drew (w.heap.size + 1) 25 #[.slice none 0 0, .slice none 0 0] from Q1.out)
      have s2 := Lib.hid (show w.heap.size + 2 ≤ w1.drew.heap.size from Q1.out.lt)
      have HPX := Lib.hid (fun w' (h : w'.cell? ⟨w.heap.size, 0, none⟩ = some (.slice A1 N.length c1) ∧ w'.cell? ⟨w.heap.size, 1, none⟩ = some (.slice A2 R.length c2) ∧ Below w.heap.size w w' ∧ w.heap.size < w'.heap.size) => HP3.out w' h.2.2.1)
      refine wp_region_held_drew (S := fun w' => w'.cell? ⟨w.heap.size, 0, none⟩ = some (.slice A1 N.length c1) ∧ w'.cell? ⟨w.heap.size, 1, none⟩ = some (.slice A2 R.length c2) ∧ Below w.heap.size w w' ∧ w.heap.size < w'.heap.size) (by kernel_rfl) ?_ (fun hH => ?_)
      · exact S0.out
      refine wpAnyH_take (i := 1) (oi := { dst := some 31, op := Go.Op.fieldAddr 25 (Go.Operand.tmp 3) 0, type := 0, pos := "ref.go:251", after := #[], guard := none }) (v := ?_) rfl ?_ ?_ ?_ ?_ (Or.inl ⟨?_, ?_⟩) hH ?_
      rotate_left
      · kernel_rfl
      · kernel_rfl
      · kernel_rfl
      · exact fun _ _ _ h => h
      · kernel_rfl
      · intro wS hSw
        try dsimp only at hSw
        go_simp
        try with_reducible rfl
      try simp only [Act.put, List.setIfInBounds_toArray, List.set_cons_zero, List.set_cons_succ]
      refine wpAnyH_take (i := 2) (oi := { dst := some 32, op := Go.Op.load 22 (Go.Operand.tmp 31), type := 22, pos := "ref.go:251", after := #[{ on := 1, ground := Go.Ground.data }], guard := none }) (v := ?_) rfl ?_ ?_ ?_ ?_ (Or.inl ⟨?_, ?_⟩) hH ?_
      rotate_left
      · kernel_rfl
      · kernel_rfl
      · kernel_rfl
      · exact fun _ _ _ h => h
      · kernel_rfl
      · intro wS hSw
        try dsimp only at hSw
        go_simp
        try with_reducible rfl
      try simp only [Act.put, List.setIfInBounds_toArray, List.set_cons_zero, List.set_cons_succ]
      refine wpAnyH_take (i := 4) (oi := { dst := some 34, op := Go.Op.fieldAddr 25 (Go.Operand.tmp 3) 1, type := 0, pos := "ref.go:251", after := #[], guard := none }) (v := ?_) rfl ?_ ?_ ?_ ?_ (Or.inl ⟨?_, ?_⟩) hH ?_
      rotate_left
      · kernel_rfl
      · kernel_rfl
      · kernel_rfl
      · exact fun _ _ _ h => h
      · kernel_rfl
      · intro wS hSw
        try dsimp only at hSw
        go_simp
        try with_reducible rfl
      try simp only [Act.put, List.setIfInBounds_toArray, List.set_cons_zero, List.set_cons_succ]
      refine wpAnyH_take (i := 5) (oi := { dst := some 35, op := Go.Op.load 23 (Go.Operand.tmp 34), type := 23, pos := "ref.go:251", after := #[{ on := 4, ground := Go.Ground.data }], guard := none }) (v := ?_) rfl ?_ ?_ ?_ ?_ (Or.inl ⟨?_, ?_⟩) hH ?_
      rotate_left
      · kernel_rfl
      · kernel_rfl
      · kernel_rfl
      · exact fun _ _ _ h => h
      · kernel_rfl
      · intro wS hSw
        try dsimp only at hSw
        go_simp
        try with_reducible rfl
      try simp only [Act.put, List.setIfInBounds_toArray, List.set_cons_zero, List.set_cons_succ]
      refine wpAnyH_take (i := 6) (oi := { dst := some 36, op := Go.Op.move (Go.Operand.tmp 1), type := 3, pos := "ref.go:251", after := #[], guard := none }) (v := ?_) rfl ?_ ?_ ?_ ?_ (Or.inl ⟨?_, ?_⟩) hH ?_
      rotate_left
      · kernel_rfl
      · kernel_rfl
      · kernel_rfl
      · exact fun _ _ _ h => h
      · kernel_rfl
      · intro wS hSw
        try dsimp only at hSw
        go_simp
        try with_reducible rfl
      try simp only [Act.put, List.setIfInBounds_toArray, List.set_cons_zero, List.set_cons_succ]
      refine wpAnyH_take (i := 7) (oi := { dst := some 37, op := Go.Op.move (Go.Operand.tmp 2), type := 3, pos := "ref.go:251", after := #[], guard := none }) (v := ?_) rfl ?_ ?_ ?_ ?_ (Or.inl ⟨?_, ?_⟩) hH ?_
      rotate_left
      · kernel_rfl
      · kernel_rfl
      · kernel_rfl
      · exact fun _ _ _ h => h
      · kernel_rfl
      · intro wS hSw
        try dsimp only at hSw
        go_simp
        try with_reducible rfl
      try simp only [Act.put, List.setIfInBounds_toArray, List.set_cons_zero, List.set_cons_succ]
      refine wpAnyH_ready (rs := [0]) (by kernel_rfl) (by simp) ?_
      refine AllReadyH.cons (o := { dst := some 30, op := Go.Op.buildSlice 22 0 #[], type := 22, pos := "ref.go:251", after := #[], guard := none }) rfl (fun K hK => ?_) AllReadyH.nil
      go_simp
      have hA4 := Lib.hid (heldP S0.out (ba w1.drew (.cells #[] 9)))
      have q4 := Lib.hid (q2.out.keep (ba w1.drew (.cells #[] 9)))
      have R4 := Lib.hid (KRow.lit (T := 9) nmC_size w1.drew w1.drew.heap.size (Nat.le_refl _) [] #[] rfl 0 rfl (by decide))
      have N4 := Lib.hid (HNk.out _ hA4.out.2.2.1)
      have s4 := Lib.hid (show w1.drew.heap.size ≤ (w1.drew.alloc (.cells #[] 9)).heap.size from (ba _ _).size)
      refine hK.out _ _ ?_ (fun hH0 => ?_)
      · exact hA4.out
      clear hK K hH
      try simp only [Act.put, List.setIfInBounds_toArray, List.set_cons_zero, List.set_cons_succ]
      refine wpAnyH_ready (rs := [3]) (by kernel_rfl) (by simp) ?_
      refine AllReadyH.cons (o := { dst := some 33, op := Go.Op.call { callee := Go.Callee.builtin Go.Builtin.append, args := #[Go.Operand.tmp 30, Go.Operand.tmp 32], argTypes := #[22, 22] }, type := 22, pos := "ref.go:251", after := #[{ on := 0, ground := Go.Ground.data }, { on := 2, ground := Go.Ground.data }], guard := none }) rfl (fun K hK => ?_) AllReadyH.nil
      refine step_append_arg (enc := nmC) Try.underlying22 name_info rfl (by omega) nmC_size nmC_one rfl (.tmp 30) (.tmp 32) rfl rfl rfl R4.out N4.out.1 s4.out (by simp; omega) (by simp; omega) ?_
      intro v5 w5 r5 b5 _
      rw [List.nil_append] at r5
      obtain ⟨NA, NN, NC, rfl, rfl⟩ := KRow.form r5
      have b5' := b5.mono s2.out
      have h5 := Lib.hid (heldR hA4.out b5')
      have q5 := Lib.hid (q4.out.below b5' (show w.heap.size + 1 < w.heap.size + 2 by omega))
      have R5 := Lib.hid (KRow.mono r5 s2.out)
      have s5 := Lib.hid (Nat.le_trans s2.out (Nat.le_trans s4.out b5.size))
      refine hK.out _ _ ?_ (fun hH1 => ?_)
      · exact h5.out
      clear hK K hH0 r5 b5 b5'
      try simp only [Act.put, List.setIfInBounds_toArray, List.set_cons_zero, List.set_cons_succ]
      refine wpAnyH_ready (rs := [8]) (by kernel_rfl) (by simp) ?_
      refine AllReadyH.cons (o := { dst := some 38, op := Go.Op.call { callee := Go.Callee.value (Go.Operand.func 44), args := #[Go.Operand.tmp 35, Go.Operand.tmp 36, Go.Operand.tmp 37], argTypes := #[23, 3, 3] }, type := 23, pos := "ref.go:251", after := #[{ on := 5, ground := Go.Ground.data }, { on := 6, ground := Go.Ground.data }, { on := 7, ground := Go.Ground.data }, { on := 3, ground := Go.Ground.chain }], guard := none }) rfl (fun K hK => ?_) AllReadyH.nil
      go_simp
      refine (HPX.out _ h5.out).mono ?_
      rintro e6 w6 ⟨v6, rfl, r6, b6⟩
      obtain ⟨RA, RN, RC, rfl, rfl⟩ := KRow.form r6
      try go_wp2_with fail
      have h6 := Lib.hid (heldP h5.out b6)
      have q6 := Lib.hid (q5.out.keep b6)
      have R5' := Lib.hid (KRow.keep R5.out b6)
      have R6 := Lib.hid (KRow.mono r6 s5.out)
      refine hK.out _ _ ?_ (fun hH2 => ?_)
      · exact h6.out
      clear hK K hH1 r6 b6
      try simp only [Act.put, List.setIfInBounds_toArray, List.set_cons_zero, List.set_cons_succ]
      refine wpAnyH_take (i := 9) (oi := { dst := some 39, op := Go.Op.build 25 #[(0, Go.Operand.tmp 33), (1, Go.Operand.tmp 38)], type := 25, pos := "ref.go:251", after := #[{ on := 3, ground := Go.Ground.data }, { on := 8, ground := Go.Ground.data }], guard := none }) (v := ?_) rfl ?_ ?_ ?_ ?_ (Or.inl ⟨?_, ?_⟩) hH2 ?_
      rotate_left
      · kernel_rfl
      · kernel_rfl
      · kernel_rfl
      · exact fun _ _ _ h => h
      · kernel_rfl
      · intro wS hSw
        try dsimp only at hSw
        go_simp
        try with_reducible rfl
      try simp only [Act.put, List.setIfInBounds_toArray, List.set_cons_zero, List.set_cons_succ]
      refine wpAnyH_ready (rs := [10]) (by kernel_rfl) (by simp) ?_
      refine AllReadyH.cons (o := { dst := none, op := Go.Op.store 25 (Go.Operand.tmp 6) (Go.Operand.tmp 39), type := 0, pos := "ref.go:251", after := #[{ on := 9, ground := Go.Ground.data }, { on := 8, ground := Go.Ground.chain }, { on := 0, ground := Go.Ground.phase }, { on := 1, ground := Go.Ground.phase }, { on := 2, ground := Go.Ground.phase }, { on := 3, ground := Go.Ground.phase }, { on := 4, ground := Go.Ground.phase }, { on := 5, ground := Go.Ground.phase }, { on := 6, ground := Go.Ground.phase }, { on := 7, ground := Go.Ground.phase }, { on := 8, ground := Go.Ground.phase }, { on := 9, ground := Go.Ground.phase }], guard := none }) rfl (fun K hK => ?_) AllReadyH.nil
      refine step_store_at2 q6.out #[.slice NA N.length NC, .slice RA (prt R F T).length RC] (.tmp 6) (.tmp 39) 25 rfl rfl rfl rfl (by kernel_rfl) rfl rfl ?_
      intro w8 r8 b8 k8
      have h8 := Lib.hid (heldQ h6.out k8 b8)
      refine hK.out _ _ ?_ (fun hH3 => ?_)
      · exact h8.out
      have X8 := Lib.hid r8
      have N8 := Lib.hid (KRow.others R5'.out k8 (Nat.lt_succ_self _))
      have P8 := Lib.hid (KRow.others R6.out k8 (Nat.lt_succ_self _))
      clear hK K hH2 r8 b8 k8
      try simp only [Act.put, List.setIfInBounds_toArray, List.set_cons_zero, List.set_cons_succ]
      refine wpAnyH_take (i := 11) (oi := { dst := some 7, op := Go.Op.assign (Go.Operand.const (Go.Value.int Go.IntKind.i64 0)), type := 30, pos := "ref.go:251", after := #[{ on := 10, ground := Go.Ground.chain }, { on := 0, ground := Go.Ground.phase }, { on := 1, ground := Go.Ground.phase }, { on := 2, ground := Go.Ground.phase }, { on := 3, ground := Go.Ground.phase }, { on := 4, ground := Go.Ground.phase }, { on := 5, ground := Go.Ground.phase }, { on := 6, ground := Go.Ground.phase }, { on := 7, ground := Go.Ground.phase }, { on := 8, ground := Go.Ground.phase }, { on := 9, ground := Go.Ground.phase }, { on := 10, ground := Go.Ground.phase }], guard := none }) (v := ?_) rfl ?_ ?_ ?_ ?_ (Or.inl ⟨?_, ?_⟩) hH3 ?_
      rotate_left
      · kernel_rfl
      · kernel_rfl
      · kernel_rfl
      · exact fun _ _ _ h => h
      · kernel_rfl
      · intro wS hSw
        try dsimp only at hSw
        go_simp
        try with_reducible rfl
      try simp only [Act.put, List.setIfInBounds_toArray, List.set_cons_zero, List.set_cons_succ]
      refine wpAnyH_done (by kernel_rfl) ?_ _
      have e0 : w8.cell? ⟨w.heap.size + 1, 0, none⟩ = some (.slice NA N.length NC) := X8.out.cell 0
      have e1 : w8.cell? ⟨w.heap.size + 1, 1, none⟩ = some (.slice RA (prt R F T).length RC) := X8.out.cell 1
      go_wp2
      refine bodyPost_ret (v := .tuple #[.agg #[.slice NA N.length NC, .slice RA (prt R F T).length RC], .int .i64 0]) (by simp [results, Try.results21, go_sem, e0, e1]) rfl ⟨_, _, by rw [HE.out], by rw [HS1.out]; exact N8.out.mono (Nat.le_trans (Nat.le_succ _) (Nat.le_succ _)), by rw [HS2.out]; exact P8.out.mono (Nat.le_trans (Nat.le_succ _) (Nat.le_succ _)), h8.out.2.2.1⟩
  · have he := slE_n (f := F) (t := T) hz
    have hs := slN_n (N := N) (R := R) (f := F) (t := T) (by rw [he]; exact hz)
    have HE := Lib.hid he; have HS1 := Lib.hid hs.1; have HS2 := Lib.hid hs.2
    have hz' : (ckC N R == 0) = false := by simpa using hz
    clear hz he hs HL HP
    generalize ckC N R = r at *
    go_enter Try.func21, Try.ntmps21
    go_wp2_with (first
      | (go_at_call 15; go_must (refine (HK.out _ B0.out).mono ?_; rintro e1 w1 ⟨rfl, b1⟩; have B1 := Lib.hid (B0.out.trans (b1.mono B0.out.size)); have Q1 := Lib.hid (Q0.out.keep b1); have k0 := Q1.out.cell 0; have k1 := Q1.out.cell 1; have z0 := Q1.out.frozen 0; have z1 := Q1.out.frozen 1; clear b1)))
    have e0 : ((w1.setCell ⟨w.heap.size + 1, 0, none⟩ (.slice none 0 0)).setCell ⟨w.heap.size + 1, 1, none⟩ (.slice none 0 0)).cell? ⟨w.heap.size + 1, 0, none⟩ = some (.slice none 0 0) := (two_set k0 k1).1
    have e1 : ((w1.setCell ⟨w.heap.size + 1, 0, none⟩ (.slice none 0 0)).setCell ⟨w.heap.size + 1, 1, none⟩ (.slice none 0 0)).cell? ⟨w.heap.size + 1, 1, none⟩ = some (.slice none 0 0) := (two_set k0 k1).2
    refine bodyPost_ret (v := .tuple #[.agg #[.slice none 0 0, .slice none 0 0], .int .i64 r]) (by simp [results, Try.results21, go_sem, e0, e1]) rfl ⟨_, _, by rw [HE.out], by rw [HS1.out]; exact KRow.nil _ _, by rw [HS2.out]; exact KRow.nil _ _, Below.setCell (Below.setCell B1.out (Nat.le_succ _) _) (Nat.le_succ _) _⟩

end Go.Proofs.Ytmfceiioigmnlaa
