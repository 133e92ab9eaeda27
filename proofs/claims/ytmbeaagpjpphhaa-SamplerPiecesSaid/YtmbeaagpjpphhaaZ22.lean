/-
  The walks of Start, End and Decode.
  The specification's accepted.
  The statements' same; the specification's Start and End.
-/
import Derived.Test.YtmbeaagpjpphhaaZ21
namespace Go.Proofs.Ytmbeaagpjpphhaa
open Go Go.RowKit Go.Joins
set_option linter.unusedVariables false
set_option linter.unusedSimpArgs false

abbrev sSt (ph at' fr pv : Int) : Array Value := #[.int .i64 ph, .int .i64 at', .int .i64 fr, .int .i64 0, .int .i64 0, .int .i64 0, .int .i64 pv, .string ⟨#[]⟩]
theorem mstart_any (N D : Int) (w : World) : Calls Try.prog 21 #[rat N D] w fun e w' => e = .returned (.agg (sSt 0 0 0 0)) ∧ Below w.heap.size w w' := by
  go_enter Try.func21, Try.ntmps21
  go_wp2
  go_returns
  exact ⟨rfl, by (repeat' (first | with_reducible exact Below.refl _ _ | with_reducible exact Nat.le_refl _ | with_reducible assumption | with_reducible refine below_drewN ?_ _ | with_reducible refine Below.drew ?_ | with_reducible refine Below.trans ?_ (Below.mono (by assumption) ?_) | with_reducible refine Below.alloc ?_ ?_ _ | with_reducible refine Below.setCell ?_ ?_ _ | with_reducible refine le_setCell ?_ _ _ | with_reducible refine le_alloc ?_ _ | with_reducible refine le_drewN ?_ _ | with_reducible refine le_drew ?_ | with_reducible refine Nat.le_trans ?_ (Below.size (by assumption)) | (simp only [World.size_alloc, World.size_setCell]; omega) | omega))⟩
theorem mend_any (N D : Int) (S : Array Value) (w : World) : Calls Try.prog 26 #[rat N D, .agg S] w fun e w' => e = .returned (.slice none 0 0) ∧ Below w.heap.size w w' := by
  go_enter Try.func26, Try.ntmps26
  go_wp2
  go_returns
  exact ⟨rfl, by (repeat' (first | with_reducible exact Below.refl _ _ | with_reducible exact Nat.le_refl _ | with_reducible assumption | with_reducible refine below_drewN ?_ _ | with_reducible refine Below.drew ?_ | with_reducible refine Below.trans ?_ (Below.mono (by assumption) ?_) | with_reducible refine Below.alloc ?_ ?_ _ | with_reducible refine Below.setCell ?_ ?_ _ | with_reducible refine le_setCell ?_ _ _ | with_reducible refine le_alloc ?_ _ | with_reducible refine le_drewN ?_ _ | with_reducible refine le_drew ?_ | with_reducible refine Nat.le_trans ?_ (Below.size (by assumption)) | (simp only [World.size_alloc, World.size_setCell]; omega) | omega))⟩

theorem row10 {w : World} {b : Nat} {T : TypeId} {x0 x1 x2 x3 x4 x5 x6 x7 x8 x9 : Value} (h : RowAt w b T #[x0, x1, x2, x3, x4, x5, x6, x7, x8, x9]) : (w.cell? ⟨b, 0, none⟩ = some x0 ∧ w.cell? ⟨b, 1, none⟩ = some x1 ∧ w.cell? ⟨b, 2, none⟩ = some x2 ∧ w.cell? ⟨b, 3, none⟩ = some x3 ∧ w.cell? ⟨b, 4, none⟩ = some x4 ∧ w.cell? ⟨b, 5, none⟩ = some x5 ∧ w.cell? ⟨b, 6, none⟩ = some x6 ∧ w.cell? ⟨b, 7, none⟩ = some x7 ∧ w.cell? ⟨b, 8, none⟩ = some x8 ∧ w.cell? ⟨b, 9, none⟩ = some x9) ∧ (∀ j, w.frozen? ⟨b, j, none⟩ = false) ∧ b < w.heap.size :=
  ⟨⟨h.cell 0, h.cell 1, h.cell 2, h.cell 3, h.cell 4, h.cell 5, h.cell 6, h.cell 7, h.cell 8, h.cell 9⟩, fun j => h.frozen j, h.lt⟩
theorem set10 {w : World} {q : Nat} {T : TypeId} {z0 z1 z2 z3 z4 z5 z6 z7 z8 z9 x0 x1 x2 x3 x4 x5 x6 x7 x8 x9 : Value} (h : RowAt w q T #[z0, z1, z2, z3, z4, z5, z6, z7, z8, z9]) : RowAt ((((((((((w.setCell ⟨q, 0, none⟩ x0).setCell ⟨q, 1, none⟩ x1).setCell ⟨q, 2, none⟩ x2).setCell ⟨q, 3, none⟩ x3).setCell ⟨q, 4, none⟩ x4).setCell ⟨q, 5, none⟩ x5).setCell ⟨q, 6, none⟩ x6).setCell ⟨q, 7, none⟩ x7).setCell ⟨q, 8, none⟩ x8).setCell ⟨q, 9, none⟩ x9) q T #[x0, x1, x2, x3, x4, x5, x6, x7, x8, x9] := by
  simpa using (((((((((h.set 0 x0).set 1 x1).set 2 x2).set 3 x3).set 4 x4).set 5 x5).set 6 x6).set 7 x7).set 8 x8).set 9 x9

set_option maxRecDepth 20000 in
set_option maxHeartbeats 8000000 in
theorem mdecode_no (N D : Int) (V : Value) (w : World) (hN0 : -9223372036854775808 ≤ N) (hN1 : N ≤ 9223372036854775807) (hD0 : -9223372036854775808 ≤ D) (hD1 : D ≤ 9223372036854775807) (hc : ckE N D ≠ 0) :
    Calls Try.prog 27 #[rat N D, V] w fun e w' => e = .returned (.slice none 0 0) ∧ Below w.heap.size w w' := by
  have CC := Lib.hid (fun W => check_any N D W hN0 hN1 hD0 hD1)
  have hc' : (ckE N D != 0) = true := by simpa using hc
  clear hc hN0 hN1 hD0 hD1
  generalize ckE N D = E at *
  go_enter Try.func27, Try.ntmps27
  go_wp2_with (go_at_call 18; go_must (refine (CC.out _).mono ?_; rintro e1 w1 ⟨rfl, b1⟩))
  go_returns
  exact ⟨rfl, by (repeat' (first | with_reducible exact Below.refl _ _ | with_reducible exact Nat.le_refl _ | with_reducible assumption | with_reducible refine below_drewN ?_ _ | with_reducible refine Below.drew ?_ | with_reducible refine Below.trans ?_ (Below.mono (by assumption) ?_) | with_reducible refine Below.alloc ?_ ?_ _ | with_reducible refine Below.setCell ?_ ?_ _ | with_reducible refine le_setCell ?_ _ _ | with_reducible refine le_alloc ?_ _ | with_reducible refine le_drewN ?_ _ | with_reducible refine le_drew ?_ | with_reducible refine Nat.le_trans ?_ (Below.size (by assumption)) | (simp only [World.size_alloc, World.size_setCell]; omega) | omega))⟩

set_option maxRecDepth 20000 in
set_option maxHeartbeats 8000000 in
theorem mdecode_yes (N D : Int) (l : List Ev) (V : Value) (w : World) (hc : ckE N D = 0) (hT : EvArg w V l) (hl : l.length ≤ 1099511627776) (hd : ∀ j (h : j < l.length), l[j].d.length ≤ 140737488351232) :
    Calls Try.prog 27 #[rat N D, V] w fun e w' => ∃ v, e = .returned v ∧ EvRow w' w.heap.size v (smR N D l).o ∧ Below w.heap.size w w' := by
  have h := ck_bt hc
  have CC : Hid (∀ W, Calls Try.prog 18 #[rat N D] W fun e w' => e = .returned (.int .i64 0) ∧ Below W.heap.size W w') := Lib.hid fun W => by have hh := check_any N D W (by have := h.n1; have := h.d1; omega) (by have := h.n2; omega) (by have := h.d1; omega) (by have := h.d2; omega); rwa [hc] at hh
  have CS := Lib.hid (fun W => mstart_any N D W)
  have CE := Lib.hid (fun S W => mend_any N D S W)
  have CA : Hid (∀ q W, Below w.heap.size w W → w.heap.size ≤ q → MacAt W q N D 0 0 0 0 → Calls Try.prog 67 #[V, .func (.func 62) #[.pointer (some ⟨q, 0, none⟩)] #[]] W fun e w' => ∃ v, e = .returned v ∧ EvRow w' W.heap.size v (smR N D l).o ∧ MacAt w' q N D (smR N D l).ph (smR N D l).e (smR N D l).fr (smR N D l).pv ∧ Kp [q] W w') := Lib.hid fun q W hb hq hW => each_any q N D l V w W h hT hb hq hW hl hd
  have hrc := rcM_all h l
  have ho : ((smR N D l).o.length : Int) ≤ 1099511627776 := by
    rcases hrc with ⟨_, h2, _⟩ | ⟨_, _, _, h4, h5, _⟩
    · rw [h2]; simp
    · omega
  clear hrc hT hd hc h
  generalize (smR N D l).ph = y1 at *
  generalize (smR N D l).e = y2 at *
  generalize (smR N D l).fr = y3 at *
  generalize (smR N D l).pv = y4 at *
  generalize (smR N D l).o = O at *
  obtain ⟨W, b, eW, eb, c0, c1, B0, lb⟩ := pair_at w (.int .i64 N) (.int .i64 D) 25
  have HB0 := Lib.hid B0
  have BOX : Hid (∀ X, Below W.heap.size W X → X.cell? ⟨b, 0, none⟩ = some (.int .i64 N) ∧ X.cell? ⟨b, 1, none⟩ = some (.int .i64 D) ∧ b < X.heap.size) := Lib.hid fun X hX => ⟨(hX.cell lb).trans c0, (hX.cell lb).trans c1, Nat.lt_of_lt_of_le lb hX.size⟩
  have hwb : w.heap.size ≤ b := Nat.le_of_eq eb.symm
  go_enter Try.func27, Try.ntmps27
  go_upto_region 1 with (fail)
  rw [← eW, ← eb]
  clear eW eb
  go_upto_region 3 with (go_at_call 18; go_must (refine (CC.out _).mono ?_; rintro e1 w1 ⟨rfl, b1⟩; have B1 := Lib.hid b1; have s1 := b1.size; obtain ⟨f0, f1, f2⟩ := BOX.out _ b1; clear b1 c0 c1))
  go_cut [5] from 6 (fun p wc => ∃ q, p = .pointer (some ⟨q, 0, none⟩) ∧ w1.heap.size ≤ q ∧ Hid (MacAt wc q N D 0 0 0 0) ∧ Hid (Below w1.heap.size w1 wc))
  case first =>
    go_region_with (first
      | (go_at_call 21; go_must (refine (CS.out _).mono ?_; rintro e5 w5 ⟨rfl, b5⟩; have k5 : Below w1.heap.size w1 w5 := (by (repeat' (first | with_reducible exact Below.refl _ _ | with_reducible exact Nat.le_refl _ | with_reducible assumption | with_reducible refine below_drewN ?_ _ | with_reducible refine Below.drew ?_ | with_reducible refine Below.trans ?_ (Below.mono (by assumption) ?_) | with_reducible refine Below.alloc ?_ ?_ _ | with_reducible refine Below.setCell ?_ ?_ _ | with_reducible refine le_setCell ?_ _ _ | with_reducible refine le_alloc ?_ _ | with_reducible refine le_drewN ?_ _ | with_reducible refine le_drew ?_ | with_reducible refine Nat.le_trans ?_ (Below.size (by assumption)) | (simp only [World.size_alloc, World.size_setCell]; omega) | omega))); obtain ⟨g0, g1, g2⟩ := BOX.out _ (B1.out.trans (k5.mono s1)); (try (have r5 := (show RowAt _ w1.heap.size 88 #[.int .i64 0, .int .i64 0, .int .i64 0, .int .i64 0, .int .i64 0, .int .i64 0, .int .i64 0, .int .i64 0, .int .i64 0, .string ⟨#[]⟩] from RowAt.keep (by first | with_reducible exact RowAt.new _ _ _ | with_reducible exact RowAt.drew1 (RowAt.new _ _ _)) b5); (try simp only [show w1.drew.heap = w1.heap from rfl] at r5); obtain ⟨⟨m0, m1, m2, m3, m4, m5, m6, m7, m8, m9⟩, mz, ml⟩ := row10 r5)))))
    all_goals
      go_wp2
      go_meet
      first
      | exact ⟨_, rfl, k5.size, Lib.hid (RowAt.new w5 _ _), Lib.hid (by (repeat' (first | with_reducible exact Below.refl _ _ | with_reducible exact Nat.le_refl _ | with_reducible assumption | with_reducible refine below_drewN ?_ _ | with_reducible refine Below.drew ?_ | with_reducible refine Below.trans ?_ (Below.mono (by assumption) ?_) | with_reducible refine Below.alloc ?_ ?_ _ | with_reducible refine Below.setCell ?_ ?_ _ | with_reducible refine le_setCell ?_ _ _ | with_reducible refine le_alloc ?_ _ | with_reducible refine le_drewN ?_ _ | with_reducible refine le_drew ?_ | with_reducible refine Nat.le_trans ?_ (Below.size (by assumption)) | (simp only [World.size_alloc, World.size_setCell]; omega) | omega)))⟩
      | exact ⟨_, rfl, Nat.le_refl _, Lib.hid (set10 r5), Lib.hid (by (repeat' (first | with_reducible exact Below.refl _ _ | with_reducible exact Nat.le_refl _ | with_reducible assumption | with_reducible refine below_drewN ?_ _ | with_reducible refine Below.drew ?_ | with_reducible refine Below.trans ?_ (Below.mono (by assumption) ?_) | with_reducible refine Below.alloc ?_ ?_ _ | with_reducible refine Below.setCell ?_ ?_ _ | with_reducible refine le_setCell ?_ _ _ | with_reducible refine le_alloc ?_ _ | with_reducible refine le_drewN ?_ _ | with_reducible refine le_drew ?_ | with_reducible refine Nat.le_trans ?_ (Below.size (by assumption)) | (simp only [World.size_alloc, World.size_setCell]; omega) | omega)))⟩
  case rest =>
    obtain ⟨w2, hw2⟩ : ∃ x, x = wc := ⟨_, rfl⟩
    subst hw2
    obtain ⟨q, rfl, hq, HMq, HB2⟩ := hcut
    have hk2 := HB0.out.trans ((B1.out.trans (HB2.out.mono s1)).mono HB0.out.size)
    have K2 := Lib.hid hk2
    have s2 := hk2.size
    obtain ⟨g0, g1, g2⟩ := BOX.out w2 (B1.out.trans (HB2.out.mono s1))
    obtain ⟨⟨m0, m1, m2, m3, m4, m5, m6, m7, m8, m9⟩, mz, ml⟩ := row10 HMq.out
    have hbq : b ≠ q := by omega
    have hwq : w.heap.size ≤ q := by have := HB0.out.size; omega
    clear hk2 f0 f1 f2 B0
    have hg0 := And.intro g0 g1
    go_wp2
    refine wp_region_held_drew (S := fun w' => w'.cell? ⟨b, 0, none⟩ = some (.int .i64 N) ∧ w'.cell? ⟨b, 1, none⟩ = some (.int .i64 D)) (by kernel_rfl) hg0 (fun hH => ?_)
    refine wpAnyH_take (i := 0) (v := ?_) rfl ?_ ?_ ?_ ?_ (Or.inl ⟨?_, ?_⟩) hH ?_
    rotate_left
    · kernel_rfl
    · kernel_rfl
    · kernel_rfl
    · exact fun _ _ _ h => h
    · kernel_rfl
    · intro wS hSw
      try dsimp only at hSw
      obtain ⟨hx0, hx1⟩ := hSw
      go_simp
      try with_reducible rfl
    try simp only [Act.put, List.setIfInBounds_toArray, List.set_cons_zero, List.set_cons_succ]
    refine wpAnyH_take (i := 1) (v := ?_) rfl ?_ ?_ ?_ ?_ (Or.inl ⟨?_, ?_⟩) hH ?_
    rotate_left
    · kernel_rfl
    · kernel_rfl
    · kernel_rfl
    · exact fun _ _ _ h => h
    · kernel_rfl
    · intro wS hSw
      try dsimp only at hSw
      obtain ⟨hx0, hx1⟩ := hSw
      go_simp
      try with_reducible rfl
    try simp only [Act.put, List.setIfInBounds_toArray, List.set_cons_zero, List.set_cons_succ]
    refine wpAnyH_take (i := 3) (v := ?_) rfl ?_ ?_ ?_ ?_ (Or.inl ⟨?_, ?_⟩) hH ?_
    rotate_left
    · kernel_rfl
    · kernel_rfl
    · kernel_rfl
    · exact fun _ _ _ h => h
    · kernel_rfl
    · intro wS hSw
      try dsimp only at hSw
      obtain ⟨hx0, hx1⟩ := hSw
      go_simp
      try with_reducible rfl
    try simp only [Act.put, List.setIfInBounds_toArray, List.set_cons_zero, List.set_cons_succ]
    refine wpAnyH_take (i := 4) (v := ?_) rfl ?_ ?_ ?_ ?_ (Or.inl ⟨?_, ?_⟩) hH ?_
    rotate_left
    · kernel_rfl
    · kernel_rfl
    · kernel_rfl
    · exact fun _ _ _ h => h
    · kernel_rfl
    · intro wS hSw
      try dsimp only at hSw
      obtain ⟨hx0, hx1⟩ := hSw
      go_simp
      try with_reducible rfl
    try simp only [Act.put, List.setIfInBounds_toArray, List.set_cons_zero, List.set_cons_succ]
    refine wpAnyH_ready (rs := [2, 5]) (by kernel_rfl) (by simp) ?_
    refine AllReadyH.cons rfl (fun K hK => ?_) ?_
    · rw [if_pos (by kernel_rfl)]
      go_simp
      go_at_call 67
      refine (CA.out q _ K2.out.drew hwq (RowAt.drew1 HMq.out)).mono ?_
      rintro e3 w3 ⟨v3, rfl, r3, n3, p3⟩
      obtain ⟨VA, VN, VC, rfl, hVN⟩ := r3.form
      have P3 := Lib.hid (p3.below (B := w.heap.size) (by simp only [List.mem_singleton]; intro k hk; omega) s2)
      have hg3 := And.intro ((p3.cell (p := ⟨b, 0, none⟩) g2 (by simp only [List.mem_singleton]; omega)).trans g0) ((p3.cell (p := ⟨b, 1, none⟩) g2 (by simp only [List.mem_singleton]; omega)).trans g1)
      have l3 : b < w3.heap.size := Nat.lt_of_lt_of_le g2 p3.size
      obtain ⟨⟨x0, x1, x2, x3, x4, x5, x6, x7, x8, x9⟩, xz, xl⟩ := row10 n3
      have R3 := Lib.hid r3
      have s3 := P3.out.size
      have s3' := p3.size
      clear r3 n3 p3 hVN
      refine hK.out _ _ hg3 (fun hH => ?_)
      clear hK
      try simp only [Act.put, List.setIfInBounds_toArray, List.set_cons_zero, List.set_cons_succ]
      refine wpAnyH_ready (rs := [5]) (by kernel_rfl) (by simp) ?_
      refine AllReadyH.cons rfl (fun K hK => ?_) ?_
      rotate_left
      · exact AllReadyH.nil
      rw [if_pos (by kernel_rfl)]
      go_simp
      refine hK.out _ _ hg3 (fun hH => ?_)
      clear hK
      try simp only [Act.put, List.setIfInBounds_toArray, List.set_cons_zero, List.set_cons_succ]
      refine wpAnyH_ready (rs := [6]) (by kernel_rfl) (by simp) ?_
      refine AllReadyH.cons rfl (fun K hK => ?_) ?_
      rotate_left
      · exact AllReadyH.nil
      rw [if_pos (by kernel_rfl)]
      go_simp
      go_at_call 26
      refine (CE.out _ _).mono ?_
      rintro e4 w4 ⟨rfl, b4⟩
      have R4 := Lib.hid (R3.out.keep b4)
      have B4 := Lib.hid b4
      have s4 := b4.size
      have hg4 := And.intro ((b4.cell (p := ⟨b, 0, none⟩) l3).trans hg3.1) ((b4.cell (p := ⟨b, 1, none⟩) l3).trans hg3.2)
      clear b4
      refine hK.out _ _ hg4 (fun hH => ?_)
      clear hK
      try simp only [Act.put, List.setIfInBounds_toArray, List.set_cons_zero, List.set_cons_succ]
      refine wpAnyH_ready (rs := [7]) (by kernel_rfl) (by simp) ?_
      refine AllReadyH.cons (o := { dst := some 21, op := Op.call { callee := Callee.builtin Builtin.append, args := #[Operand.tmp 16, Operand.tmp 20], argTypes := #[36, 36] }, type := 36, pos := "sampler.go:45", after := #[{ on := 2, ground := Ground.data }, { on := 6, ground := Ground.data }, { on := 6, ground := Ground.chain }], guard := none }) rfl (fun K hK => ?_) ?_
      rotate_left
      · exact AllReadyH.nil
      refine step_append_arg (enc := evC) Try.underlying36 ev_info rfl (by omega) evC_size ev_one (by rfl) (.tmp 16) (.tmp 20) (by rfl) (by rfl) (by rfl) R4.out (EvArg.none _) (Nat.le_trans s3' s4) (by simp only [List.length_nil]; omega) (by simp only [List.length_nil]; omega) ?_
      intro v6 w6 r6 b6 k6
      rw [List.append_nil] at r6
      have R6 := Lib.hid r6
      have B6 := Lib.hid b6
      have hg6 := And.intro ((b6.cell (p := ⟨b, 0, none⟩) g2).trans hg4.1) ((b6.cell (p := ⟨b, 1, none⟩) g2).trans hg4.2)
      clear r6 b6 k6
      refine hK.out _ _ hg6 (fun hH => ?_)
      clear hK
      try simp only [Act.put, List.setIfInBounds_toArray, List.set_cons_zero, List.set_cons_succ]
      refine wpAnyH_take (i := 8) (oi := { dst := some 4, op := Op.assign (Operand.tmp 21), type := 36, pos := "sampler.go:45", after := #[{ on := 7, ground := Ground.data }, { on := 7, ground := Ground.chain }, { on := 0, ground := Ground.phase }, { on := 1, ground := Ground.phase }, { on := 2, ground := Ground.phase }, { on := 3, ground := Ground.phase }, { on := 4, ground := Ground.phase }, { on := 5, ground := Ground.phase }, { on := 6, ground := Ground.phase }, { on := 7, ground := Ground.phase }], guard := none }) (v := ?_) rfl ?_ ?_ ?_ ?_ (Or.inl ⟨?_, ?_⟩) hH ?_
      rotate_left
      · kernel_rfl
      · kernel_rfl
      · kernel_rfl
      · exact fun _ _ _ h => h
      · kernel_rfl
      · intro wS hSw
        try dsimp only at hSw
        obtain ⟨hx0, hx1⟩ := hSw
        go_simp
        try with_reducible rfl
      try simp only [Act.put, List.setIfInBounds_toArray, List.set_cons_zero, List.set_cons_succ]
      refine wpAnyH_done (by kernel_rfl) ?_ _
      go_wp2
      go_returns
      exact ⟨_, rfl, R6.out.mono s2, (K2.out.drew.trans P3.out).trans ((B4.out.mono (Nat.le_trans s2 s3)).trans (B6.out.mono s2))⟩
    · refine AllReadyH.cons rfl (fun K hK => ?_) ?_
      · rw [if_pos (by kernel_rfl)]
        go_simp
        refine hK.out _ _ hg0 (fun hH => ?_)
        clear hK
        try simp only [Act.put, List.setIfInBounds_toArray, List.set_cons_zero, List.set_cons_succ]
        refine wpAnyH_ready (rs := [2]) (by kernel_rfl) (by simp) ?_
        refine AllReadyH.cons rfl (fun K hK => ?_) ?_
        rotate_left
        · exact AllReadyH.nil
        rw [if_pos (by kernel_rfl)]
        go_simp
        go_at_call 67
        refine (CA.out q _ K2.out.drew hwq (RowAt.drew1 HMq.out)).mono ?_
        rintro e3 w3 ⟨v3, rfl, r3, n3, p3⟩
        obtain ⟨VA, VN, VC, rfl, hVN⟩ := r3.form
        have P3 := Lib.hid (p3.below (B := w.heap.size) (by simp only [List.mem_singleton]; intro k hk; omega) s2)
        have hg3 := And.intro ((p3.cell (p := ⟨b, 0, none⟩) g2 (by simp only [List.mem_singleton]; omega)).trans g0) ((p3.cell (p := ⟨b, 1, none⟩) g2 (by simp only [List.mem_singleton]; omega)).trans g1)
        have l3 : b < w3.heap.size := Nat.lt_of_lt_of_le g2 p3.size
        obtain ⟨⟨x0, x1, x2, x3, x4, x5, x6, x7, x8, x9⟩, xz, xl⟩ := row10 n3
        have R3 := Lib.hid r3
        have s3 := P3.out.size
        have s3' := p3.size
        clear r3 n3 p3 hVN
        refine hK.out _ _ hg3 (fun hH => ?_)
        clear hK
        try simp only [Act.put, List.setIfInBounds_toArray, List.set_cons_zero, List.set_cons_succ]
        refine wpAnyH_ready (rs := [6]) (by kernel_rfl) (by simp) ?_
        refine AllReadyH.cons rfl (fun K hK => ?_) ?_
        rotate_left
        · exact AllReadyH.nil
        rw [if_pos (by kernel_rfl)]
        go_simp
        go_at_call 26
        refine (CE.out _ _).mono ?_
        rintro e4 w4 ⟨rfl, b4⟩
        have R4 := Lib.hid (R3.out.keep b4)
        have B4 := Lib.hid b4
        have s4 := b4.size
        have hg4 := And.intro ((b4.cell (p := ⟨b, 0, none⟩) l3).trans hg3.1) ((b4.cell (p := ⟨b, 1, none⟩) l3).trans hg3.2)
        clear b4
        refine hK.out _ _ hg4 (fun hH => ?_)
        clear hK
        try simp only [Act.put, List.setIfInBounds_toArray, List.set_cons_zero, List.set_cons_succ]
        refine wpAnyH_ready (rs := [7]) (by kernel_rfl) (by simp) ?_
        refine AllReadyH.cons (o := { dst := some 21, op := Op.call { callee := Callee.builtin Builtin.append, args := #[Operand.tmp 16, Operand.tmp 20], argTypes := #[36, 36] }, type := 36, pos := "sampler.go:45", after := #[{ on := 2, ground := Ground.data }, { on := 6, ground := Ground.data }, { on := 6, ground := Ground.chain }], guard := none }) rfl (fun K hK => ?_) ?_
        rotate_left
        · exact AllReadyH.nil
        refine step_append_arg (enc := evC) Try.underlying36 ev_info rfl (by omega) evC_size ev_one (by rfl) (.tmp 16) (.tmp 20) (by rfl) (by rfl) (by rfl) R4.out (EvArg.none _) (Nat.le_trans s3' s4) (by simp only [List.length_nil]; omega) (by simp only [List.length_nil]; omega) ?_
        intro v6 w6 r6 b6 k6
        rw [List.append_nil] at r6
        have R6 := Lib.hid r6
        have B6 := Lib.hid b6
        have hg6 := And.intro ((b6.cell (p := ⟨b, 0, none⟩) g2).trans hg4.1) ((b6.cell (p := ⟨b, 1, none⟩) g2).trans hg4.2)
        clear r6 b6 k6
        refine hK.out _ _ hg6 (fun hH => ?_)
        clear hK
        try simp only [Act.put, List.setIfInBounds_toArray, List.set_cons_zero, List.set_cons_succ]
        refine wpAnyH_take (i := 8) (oi := { dst := some 4, op := Op.assign (Operand.tmp 21), type := 36, pos := "sampler.go:45", after := #[{ on := 7, ground := Ground.data }, { on := 7, ground := Ground.chain }, { on := 0, ground := Ground.phase }, { on := 1, ground := Ground.phase }, { on := 2, ground := Ground.phase }, { on := 3, ground := Ground.phase }, { on := 4, ground := Ground.phase }, { on := 5, ground := Ground.phase }, { on := 6, ground := Ground.phase }, { on := 7, ground := Ground.phase }], guard := none }) (v := ?_) rfl ?_ ?_ ?_ ?_ (Or.inl ⟨?_, ?_⟩) hH ?_
        rotate_left
        · kernel_rfl
        · kernel_rfl
        · kernel_rfl
        · exact fun _ _ _ h => h
        · kernel_rfl
        · intro wS hSw
          try dsimp only at hSw
          obtain ⟨hx0, hx1⟩ := hSw
          go_simp
          try with_reducible rfl
        try simp only [Act.put, List.setIfInBounds_toArray, List.set_cons_zero, List.set_cons_succ]
        refine wpAnyH_done (by kernel_rfl) ?_ _
        go_wp2
        go_returns
        exact ⟨_, rfl, R6.out.mono s2, (K2.out.drew.trans P3.out).trans ((B4.out.mono (Nat.le_trans s2 s3)).trans (B6.out.mono s2))⟩
      · exact AllReadyH.nil

end Go.Proofs.Ytmbeaagpjpphhaa

namespace Go.Proofs.Ytmbeaagpjpphhaa
open Go Go.RowKit Go.Joins
set_option linter.unusedVariables false
set_option linter.unusedSimpArgs false

set_option maxRecDepth 20000 in
set_option maxHeartbeats 4000000 in
theorem raccepted_any (ph at' fr cn ax pv k f t v a : Int) (c4 : Int) (s : ByteArray) (u : Int) (w : World) (hs : s.size ≤ 140737488351232) :
    Calls Try.prog 63 #[.agg #[.int .i64 ph, .int .i64 at', .int .i64 fr, .int .i64 cn, .int .i64 c4, .int .i64 ax, .int .i64 pv, .string ⟨#[]⟩], .agg (evA k f t v a s u)] w fun e w' => e = .returned (.bool (decide (AcL ph at' k f t v a s.size u))) ∧ Below w.heap.size w w' := by
  have HV := Lib.hid (fun W => refValid_xy k f t v a s u W hs)
  rw [acL_bool2]
  generalize decide (VeP k f t v a s.size u) = P at *
  go_enter Try.func63, Try.ntmps63
  go_wp2_with (go_at_call 88; go_must (refine (HV.out _).mono ?_; rintro e1 w1 ⟨rfl, rfl⟩))
  all_goals
    go_returns
    refine ⟨ret_bool ?_, by (repeat' (first | with_reducible exact Below.refl _ _ | with_reducible exact Nat.le_refl _ | with_reducible assumption | with_reducible refine below_drewN ?_ _ | with_reducible refine Below.drew ?_ | with_reducible refine Below.trans ?_ (Below.mono (by assumption) ?_) | with_reducible refine Below.alloc ?_ ?_ _ | with_reducible refine Below.setCell ?_ ?_ _ | with_reducible refine le_setCell ?_ _ _ | with_reducible refine le_alloc ?_ _ | with_reducible refine le_drewN ?_ _ | with_reducible refine le_drew ?_ | with_reducible refine Nat.le_trans ?_ (Below.size (by assumption)) | (simp only [World.size_alloc, World.size_setCell]; omega) | omega))⟩
    clear HV
    try simp only [decide_eq_true_eq, decide_eq_false_iff_not, beq_iff_eq, Bool.not_eq_true, bne_iff_ne, ne_eq] at *
    first | (simp_all; done) | (simp_all; omega) | (have e1 : decide (t ≤ f) = false := decide_eq_false (by omega); have e2 : decide (v < 0) = false := decide_eq_false (by omega); have e3 : decide (1 < v) = false := decide_eq_false (by omega); rw [e1, e2, e3]; simp_all; done) | trace_state

end Go.Proofs.Ytmbeaagpjpphhaa

namespace Go.Proofs.Ytmbeaagpjpphhaa
open Go Go.RowKit Go.Joins
set_option linter.unusedVariables false
set_option linter.unusedSimpArgs false

/-- The specification's state. -/
abbrev rSt (ph at' fr cn ax pv : Int) : Array Value := #[.int .i64 ph, .int .i64 at', .int .i64 fr, .int .i64 cn, .int .i64 0, .int .i64 ax, .int .i64 pv, .string ⟨#[]⟩]
theorem mrefStart_any (N D : Int) (w : World) : Calls Try.prog 22 #[rat N D] w fun e w' => e = .returned (.agg (rSt 0 0 0 0 0 0)) ∧ Below w.heap.size w w' := by
  go_enter Try.func22, Try.ntmps22
  go_wp2
  go_returns
  exact ⟨rfl, by (repeat' (first | with_reducible exact Below.refl _ _ | with_reducible exact Nat.le_refl _ | with_reducible assumption | with_reducible refine below_drewN ?_ _ | with_reducible refine Below.drew ?_ | with_reducible refine Below.trans ?_ (Below.mono (by assumption) ?_) | with_reducible refine Below.alloc ?_ ?_ _ | with_reducible refine Below.setCell ?_ ?_ _ | with_reducible refine le_setCell ?_ _ _ | with_reducible refine le_alloc ?_ _ | with_reducible refine le_drewN ?_ _ | with_reducible refine le_drew ?_ | with_reducible refine Nat.le_trans ?_ (Below.size (by assumption)) | (simp only [World.size_alloc, World.size_setCell]; omega) | omega))⟩
theorem mrefEnd_any (N D : Int) (S : Array Value) (w : World) : Calls Try.prog 68 #[rat N D, .agg S] w fun e w' => e = .returned (.slice none 0 0) ∧ Below w.heap.size w w' := by
  go_enter Try.func68, Try.ntmps68
  go_wp2
  go_returns
  exact ⟨rfl, by (repeat' (first | with_reducible exact Below.refl _ _ | with_reducible exact Nat.le_refl _ | with_reducible assumption | with_reducible refine below_drewN ?_ _ | with_reducible refine Below.drew ?_ | with_reducible refine Below.trans ?_ (Below.mono (by assumption) ?_) | with_reducible refine Below.alloc ?_ ?_ _ | with_reducible refine Below.setCell ?_ ?_ _ | with_reducible refine le_setCell ?_ _ _ | with_reducible refine le_alloc ?_ _ | with_reducible refine le_drewN ?_ _ | with_reducible refine le_drew ?_ | with_reducible refine Nat.le_trans ?_ (Below.size (by assumption)) | (simp only [World.size_alloc, World.size_setCell]; omega) | omega))⟩

set_option maxRecDepth 20000 in
set_option maxHeartbeats 2000000 in
theorem msame_any (l : List Ev) (V V' : Value) (w : World) (h1 : EvArg w V l) (h2 : EvArg w V' l) (hl : l.length ≤ 1099511627776) :
    Calls Try.prog 25 #[V, V'] w fun e w' => e = .returned (.bool true) ∧ Below w.heap.size w w' := by
  obtain ⟨A1, c1, rfl, h1⟩ := h1
  obtain ⟨A2, c2, rfl, h2⟩ := h2
  have H1 := Lib.hid h1; have H2 := Lib.hid h2
  have hl' : (l.length : Int) ≤ 1099511627776 := by omega
  clear h1 h2
  go_enter Try.func25, Try.ntmps25
  go_wp2
  go_loopw [5] (fun x wr => ∃ (k m : Nat), k ≤ l.length ∧ x = .int .i64 k ∧ wr = w.drewN m) (fun x _ => l.length - (intOf x).toNat)
  case atStart => exact ⟨0, 0, by omega, rfl, rfl⟩
  case round =>
    obtain ⟨k, m, hk, rfl, rfl⟩ := hrel
    by_cases hlt : k < l.length
    · obtain ⟨g1, o1, rfl, hg1, hc1⟩ := H1.out (by omega)
      obtain ⟨g2, o2, rfl, hg2, hc2⟩ := H2.out (by omega)
      obtain ⟨a0, a1, a2, a3, a4, a5, a6⟩ := arg_seven hc1 k hlt
      obtain ⟨b0, b1, b2, b3, b4, b5, b6⟩ := arg_seven hc2 k hlt
      have Q := fun W => neq_ev l[k].k l[k].f l[k].t l[k].v l[k].a ⟨l[k].d.toArray⟩ l[k].u l[k].k l[k].f l[k].t l[k].v l[k].a ⟨l[k].d.toArray⟩ l[k].u W
      rw [elem_eqF, decide_eq_true rfl] at Q
      clear hc1 hc2
      generalize (⟨l[k].d.toArray⟩ : ByteArray) = x5 at *
      generalize l[k].k = x0 at *
      generalize l[k].f = x1 at *
      generalize l[k].t = x2 at *
      generalize l[k].v = x3 at *
      generalize l[k].a = x4 at *
      generalize l[k].u = x6 at *
      go_wp2
      go_quiet (fail)
      go_wp2
      go_roundw
      case rel => exact ⟨k + 1, m + nq, by omega, by go_num, rfl⟩
      case measure => simp [intOf]; omega
    · go_wp2
      go_returns
      exact ⟨rfl, Go.below_drewN (Below.refl _ _) _⟩

end Go.Proofs.Ytmbeaagpjpphhaa
