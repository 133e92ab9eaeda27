/-
  Layer 17: the walk of the specification's edge, when there is a last middle that is not too far.
  Layer 17: the walk of the specification's Step.
-/
import Derived.Test.YtmbeaagpjpphhaaZ24
import Derived.Test.YtmbeaagpjpphhaaZ21
namespace Go.Proofs.Ytmbeaagpjpphhaa
open Go Go.RowKit Go.Joins
set_option linter.unusedVariables false
set_option linter.unusedSimpArgs false

theorem held5 {w W : World} {b4 b5 : Nat} {x0 x1 x2 x3 : Value} {W0 : World} (h : W.cell? ⟨b4, 0, none⟩ = some x0 ∧ W.cell? ⟨b4, 1, none⟩ = some x1 ∧ W.cell? ⟨b4, 2, none⟩ = some x2 ∧ W.cell? ⟨b5, 2, none⟩ = some x3 ∧ b4 < W.heap.size ∧ b5 < W.heap.size ∧ Below W0.heap.size W0 W) (hb : Below W.heap.size W w) : w.cell? ⟨b4, 0, none⟩ = some x0 ∧ w.cell? ⟨b4, 1, none⟩ = some x1 ∧ w.cell? ⟨b4, 2, none⟩ = some x2 ∧ w.cell? ⟨b5, 2, none⟩ = some x3 ∧ b4 < w.heap.size ∧ b5 < w.heap.size ∧ Below W0.heap.size W0 w := by
  obtain ⟨a0, a1, a2, a3, l0, l1, B⟩ := h
  have hs := hb.size
  exact ⟨(hb.cell l0).trans a0, (hb.cell l0).trans a1, (hb.cell l0).trans a2, (hb.cell l1).trans a3, by omega, by omega, B.trans (hb.mono B.size)⟩
theorem held5S {w W0 : World} {b4 b5 q j : Nat} {u x0 x1 x2 x3 : Value} (h : w.cell? ⟨b4, 0, none⟩ = some x0 ∧ w.cell? ⟨b4, 1, none⟩ = some x1 ∧ w.cell? ⟨b4, 2, none⟩ = some x2 ∧ w.cell? ⟨b5, 2, none⟩ = some x3 ∧ b4 < w.heap.size ∧ b5 < w.heap.size ∧ Below W0.heap.size W0 w) (h4 : b4 < W0.heap.size) (h5 : b5 < W0.heap.size) (hq : W0.heap.size ≤ q) : (w.setCell ⟨q, j, none⟩ u).cell? ⟨b4, 0, none⟩ = some x0 ∧ (w.setCell ⟨q, j, none⟩ u).cell? ⟨b4, 1, none⟩ = some x1 ∧ (w.setCell ⟨q, j, none⟩ u).cell? ⟨b4, 2, none⟩ = some x2 ∧ (w.setCell ⟨q, j, none⟩ u).cell? ⟨b5, 2, none⟩ = some x3 ∧ b4 < (w.setCell ⟨q, j, none⟩ u).heap.size ∧ b5 < (w.setCell ⟨q, j, none⟩ u).heap.size ∧ Below W0.heap.size W0 (w.setCell ⟨q, j, none⟩ u) := by
  obtain ⟨a0, a1, a2, a3, l0, l1, B⟩ := h
  have e : ∀ b i, b < W0.heap.size → (w.setCell ⟨q, j, none⟩ u).cell? ⟨b, i, none⟩ = w.cell? ⟨b, i, none⟩ := fun b i hb => World.cell?_of_block (Below.heap_setCell _ _ _ _ (fun e => by simp only at e; omega))
  exact ⟨(e _ _ h4).trans a0, (e _ _ h4).trans a1, (e _ _ h4).trans a2, (e _ _ h5).trans a3, by rw [World.size_setCell]; exact l0, by rw [World.size_setCell]; exact l1, B.setCell hq _⟩

set_option maxRecDepth 20000 in
set_option maxHeartbeats 20000000 in
theorem redge_near (N D e m p t v : Int) (z : Bool) (w : World) (h : Bt N D) (hv : v = 0 ∨ v = 1) (hm : 0 ≤ m ∧ m ≤ t) (ht : t ≤ 1099511627776) (hl : ¬ 2 * N ≤ (t - m) * D) :
    Calls Try.prog 83 #[.agg (manA N D z), .agg (rnA 1 e m 1 p), .int .i64 t, .int .i64 v] w fun r w' => ∃ V, r = .returned (.tuple #[.agg (rnA 1 e (if 4 * (t - m) * D < 3 * N then m else t) 1 v), V]) ∧ EvRow w' w.heap.size V (if 4 * (t - m) * D < 3 * N then [] else [bnE N D m t v]) ∧ Below w.heap.size w w' := by
  have CS : Hid (∀ W, Calls Try.prog 86 #[.agg (manA N D z), .int .i64 1] W fun e w' => e = .returned (.int .i64 (smI N D 0)) ∧ Below W.heap.size W w') := Lib.hid fun W => times_any N D 1 z W h (by omega) (by omega)
  have HE : Hid (bnE N D m t v = ⟨2, m + smI N D 0, t, if 5 * N < 4 * (t - m) * D then 0 else v, 0, [], if 5 * N < 4 * (t - m) * D then 5 else 0⟩) := Lib.hid rfl
  have s0 : 0 ≤ smI N D 0 := sc_nn (by have := h.d1; omega) (by omega) (by have := h.d1; have := h.n1; omega)
  have s1 := (sm_bd h 0).2
  have s2 := (bd_next h 0).2
  rw [bd_zero] at s2
  obtain ⟨d1, d2, n1, n2, n3⟩ := h
  have hd0 : 0 ≤ (t - m) * D := Int.mul_nonneg (by omega) (by omega)
  have e4' : 4 * (t - m) * D = 4 * ((t - m) * D) := Int.mul_assoc _ _ _
  have hdd : t - m ≤ (t - m) * D := by have := Int.mul_le_mul_of_nonneg_left d1 (show 0 ≤ t - m by omega); omega
  generalize bnE N D m t v = BE at *
  obtain ⟨RM, eRM⟩ : ∃ x, x = (if 4 * (t - m) * D < 3 * N then m else t) := ⟨_, rfl⟩
  obtain ⟨RL, eRL⟩ : ∃ x, x = (if 4 * (t - m) * D < 3 * N then [] else [BE]) := ⟨_, rfl⟩
  rw [← eRM, ← eRL]
  have HRM := Lib.hid eRM; have HRL := Lib.hid eRL
  clear eRM eRL
  generalize smI N D 0 = SM at *
  generalize bdI N D (0 + 1) = BD at *
  obtain ⟨W, b4, b5, b8, eW, e8, e5, e4, ⟨l4, l5, l8, l0⟩, r4, r5, r8, B0⟩ := rbox_at w N D z (rnA 1 e m 1 p) (rnA 0 0 0 0 0)
  have HB0 := Lib.hid B0; have H5 := Lib.hid r5; have H8 := Lib.hid r8; have H4 := Lib.hid r4
  obtain ⟨⟨c0, c1, c2, c3, c4, c5, c6, c7⟩, c8⟩ := row8 r5
  obtain ⟨a0, a1, a2⟩ := row3 r4
  clear r4 r5 r8 B0
  have hb : ¬ 4194304 ≤ t - m := fun hb => by have := Int.mul_le_mul_of_nonneg_right hb (show 0 ≤ D by omega); omega
  have hc : ((1 : Int) == 0) = false := rfl
  have q0 : IntKind.i64.wrap ((t - m) * D) = (t - m) * D := IntWalk.i64_in _ (by omega)
  have q7 : IntKind.i64.wrap (2 * N) = 2 * N := IntWalk.i64_in _ (by omega)
  have q1 : IntKind.i64.wrap (t - m) = t - m := IntWalk.i64_in _ (by omega)
  have q2 : IntKind.i64.wrap (m + SM) = m + SM := IntWalk.i64_in _ (by omega)
  have q3 : IntKind.i64.wrap (4 * (t - m)) = 4 * (t - m) := IntWalk.i64_in _ (by omega)
  have q4 : IntKind.i64.wrap (4 * (t - m) * D) = 4 * (t - m) * D := IntWalk.i64_in _ (by omega)
  have q5 : IntKind.i64.wrap (5 * N) = 5 * N := IntWalk.i64_in _ (by omega)
  have q6 : IntKind.i64.wrap (3 * N) = 3 * N := IntWalk.i64_in _ (by omega)
  clear s1 s2 hd0 e4' hdd
  go_enter Try.func83, Try.ntmps83
  go_upto_region 2 with (fail)
  rw [← eW, ← e8, ← e5, ← e4]
  clear eW e8 e5 e4
  go_upto_region 4 with (fail)
  obtain ⟨X, n, eX, en, ⟨ln, lX, lw⟩, s4, s5, s8, sn, BX⟩ := rnext_at (rnA 1 e m 1 v) ⟨l4, l5, l8⟩ H4.out H5.out H8.out HB0.out
  rw [← eX, ← en]
  clear eX en c0 c1 c2 c3 c4 c5 c6 c7 c8 a0 a1 a2 H4 H5 H8 HB0
  obtain ⟨⟨c0, c1, c2, c3, c4, c5, c6, c7⟩, c8⟩ := row8 s5
  obtain ⟨⟨n0, n1, n2, n3, n4, n5, n6, n7⟩, n8⟩ := row8 sn
  obtain ⟨a0, a1, a2⟩ := row3 s4
  have XB := Lib.hid BX; have X4 := Lib.hid s4; have X5 := Lib.hid s5; have X8 := Lib.hid s8; have Xn := Lib.hid sn
  clear s4 s5 s8 sn BX
  by_cases hE : 4 * (t - m) * D < 3 * N
  · obtain rfl : m = RM := by rw [HRM.out, if_pos hE]
    obtain rfl : RL = [] := by rw [HRL.out, if_pos hE]
    go_wp2_with (first | (refine wpList_store_at X8.out (Nat.le_refl _) (rnA 1 e m 1 v) (.tmp 8) (.tmp 57) 39 rfl rfl rfl rfl (by kernel_rfl) rfl rfl ?_; intro w9 r9 b9; obtain ⟨⟨p0, p1, p2, p3, p4, p5, p6, p7⟩, p8⟩ := row8 r9))
    (try simp only [Exit.inBlock, Exit.then]); refine bodyPost_ret (by simp [results, Try.results83, go_sem, p0, p1, p2, p3, p4, p5, p6, p7]; try rfl) rfl ?_
    exact ⟨_, rfl, KRow.nil _ _, XB.out.trans (b9.mono (by omega))⟩
  obtain rfl : t = RM := by rw [HRM.out, if_neg hE]
  obtain rfl : RL = [BE] := by rw [HRL.out, if_neg hE]
  have HX : Hid (X.cell? ⟨b4, 0, none⟩ = some (.int .i64 N) ∧ X.cell? ⟨b4, 1, none⟩ = some (.int .i64 D) ∧ X.cell? ⟨b4, 2, none⟩ = some (.bool z) ∧ X.cell? ⟨b5, 2, none⟩ = some (.int .i64 m) ∧ b4 < X.heap.size ∧ b5 < X.heap.size ∧ Below X.heap.size X X) := Lib.hid ⟨a0, a1, a2, c2, by omega, by omega, Below.refl _ _⟩
  have f4 : b4 < X.heap.size := by omega
  have f5 : b5 < X.heap.size := by omega
  have lw' : w.heap.size ≤ X.heap.size := by omega
  go_upto_region 12 with (fail)
  clear a0 a1 a2 c0 c1 c2 c3 c4 c5 c6 c7 c8 n0 n1 n2 n3 n4 n5 n6 n7 n8
  have v1 : X.heap.size ≤ X.heap.size := Nat.le_refl _
  have v0 : X.heap.size ≤ X.drew.heap.size := Nat.le_refl _
  go_cut [12] from 13 (fun pp wc => ∃ q, pp = .pointer (some ⟨q, 0, none⟩) ∧ X.heap.size ≤ q ∧ Hid (RowAt wc q 44 #[.int .i64 2, .int .i64 (m + SM), .int .i64 t, .int .i64 v, .int .i64 0, .string ⟨#[]⟩, .int .i64 0]) ∧ Hid (RowAt wc b4 59 (manA N D z)) ∧ Hid (RowAt wc n 39 (rnA 1 e m 1 v)) ∧ Hid (RowAt wc b8 39 (rnA 0 0 0 0 0)) ∧ Hid (Below w.heap.size w wc))
  case first =>
    go_region_held3 (fun w' => w'.cell? ⟨b4, 0, none⟩ = some (.int .i64 N) ∧ w'.cell? ⟨b4, 1, none⟩ = some (.int .i64 D) ∧ w'.cell? ⟨b4, 2, none⟩ = some (.bool z) ∧ w'.cell? ⟨b5, 2, none⟩ = some (.int .i64 m) ∧ b4 < w'.heap.size ∧ b5 < w'.heap.size ∧ Below X.heap.size X w') (first | with_reducible assumption | (with_reducible refine held5S ?_ f4 f5 (by with_reducible assumption); with_reducible refine held5S ?_ f4 f5 (by with_reducible assumption); with_reducible refine held5S ?_ f4 f5 (by with_reducible assumption); with_reducible refine held5S ?_ f4 f5 (by with_reducible assumption); with_reducible refine held5S ?_ f4 f5 (by with_reducible assumption); with_reducible refine held5S ?_ f4 f5 (by with_reducible assumption); with_reducible refine held5S ?_ f4 f5 (by with_reducible assumption); with_reducible assumption) | with_reducible exact held5 HX.out (Below.refl _ _).drew | with_reducible exact held5 (by with_reducible assumption) (ba _ _) | fail)
      (first
        | (go_at_call 86; refine (CS.out _).mono ?_; rintro e6 w6 ⟨rfl, k6⟩; have h6 := held5 (by with_reducible assumption) k6; have v6 := h6.2.2.2.2.2.2.size; (try (have r6 := (show RowAt _ _ 44 #[.int .i64 0, .int .i64 0, .int .i64 0, .int .i64 0, .int .i64 0, .string ⟨#[]⟩, .int .i64 0] from RowAt.keep (by first | with_reducible exact RowAt.new _ _ _ | with_reducible exact RowAt.drew1 (RowAt.new _ _ _) | with_reducible assumption) k6); (try simp only [show X.drew.heap = X.heap from rfl] at r6); obtain ⟨⟨g0, g1, g2, g3, g4, g5, g6⟩, g7⟩ := row_seven' r6))))
    all_goals
      rename_i hS9
      have hX9 := hS9.2.2.2.2.2.2
      first
      | have R9 := set7 (x0 := .int .i64 2) (x1 := .int .i64 (m + SM)) (x2 := .int .i64 t) (x3 := .int .i64 v) (x4 := .int .i64 0) (x5 := .string ⟨#[]⟩) (x6 := .int .i64 0) (by with_reducible assumption)
      | have R9 := new_of hX9
      have R9' := Lib.hid R9
      have Y4 := Lib.hid (X4.out.keep hX9)
      have Yn := Lib.hid (Xn.out.keep hX9)
      have Y8 := Lib.hid (X8.out.keep hX9)
      have YB := Lib.hid (XB.out.trans (hX9.mono lw'))
      clear hS9 hX9 R9
      go_wp2
      go_meet
      case rel => exact ⟨_, rfl, by with_reducible assumption, R9', Y4, Yn, Y8, YB⟩
  case rest =>
    obtain ⟨w0, hw0⟩ : ∃ x, x = wc := ⟨_, rfl⟩
    subst hw0
    obtain ⟨q, rfl, hq, HQ, H4, H5, H8, HB⟩ := hcut
    obtain ⟨⟨g0, g1, g2, g3, g4, g5, g6, g7⟩, g8⟩ := row8 H5.out
    obtain ⟨⟨k0, k1, k2, k3, k4, k5, k6⟩, k7⟩ := row7 HQ.out
    obtain ⟨i0, i1, i2⟩ := row3 H4.out
    have lq := HQ.out.lt
    have lb5 := H5.out.lt
    by_cases hF : 5 * N < 4 * (t - m) * D
    · have HE' : Hid (BE = ⟨2, m + SM, t, 0, 0, [], 5⟩) := Lib.hid (HE.out.trans (by rw [if_pos hF, if_pos hF]))
      go_wp2
      have Y8 : RowAt (((w0.setCell ⟨q, 3, none⟩ (.int .i64 0)).setCell ⟨q, 6, none⟩ (.int .i64 5)).setCell ⟨n, 2, none⟩ (.int .i64 t)) b8 39 (rnA 0 0 0 0 0) := ((H8.out.other _ _ (by simp only; omega)).other _ _ (by simp only; omega)).other _ _ (by simp only; omega)
      have Y5 : RowAt (((w0.setCell ⟨q, 3, none⟩ (.int .i64 0)).setCell ⟨q, 6, none⟩ (.int .i64 5)).setCell ⟨n, 2, none⟩ (.int .i64 t)) n 39 (rnA 1 e t 1 v) := by simpa using ((H5.out.other ⟨q, 3, none⟩ (.int .i64 0) (by simp only; omega)).other ⟨q, 6, none⟩ (.int .i64 5) (by simp only; omega)).set 2 (.int .i64 t)
      have Yq : RowAt (((w0.setCell ⟨q, 3, none⟩ (.int .i64 0)).setCell ⟨q, 6, none⟩ (.int .i64 5)).setCell ⟨n, 2, none⟩ (.int .i64 t)) q 44 #[.int .i64 2, .int .i64 (m + SM), .int .i64 t, .int .i64 0, .int .i64 0, .string ⟨#[]⟩, .int .i64 5] := RowAt.other (by simpa using (HQ.out.set 3 (.int .i64 0)).set 6 (.int .i64 5)) _ _ (by simp only; omega)
      have YB : Below w.heap.size w (((w0.setCell ⟨q, 3, none⟩ (.int .i64 0)).setCell ⟨q, 6, none⟩ (.int .i64 5)).setCell ⟨n, 2, none⟩ (.int .i64 t)) := ((HB.out.setCell (by simp only; omega) _).setCell (by simp only; omega) _).setCell (by simp only; omega) _
      obtain ⟨Z, eZ⟩ : ∃ Z, Z = (((w0.setCell ⟨q, 3, none⟩ (.int .i64 0)).setCell ⟨q, 6, none⟩ (.int .i64 5)).setCell ⟨n, 2, none⟩ (.int .i64 t)) := ⟨_, rfl⟩
      rw [← eZ] at Y8 Y5 Yq YB
      rw [← eZ]
      clear eZ g0 g1 g2 g3 g4 g5 g6 g7 g8 k0 k1 k2 k3 k4 k5 k6 k7 H4 H5 H8 HQ HB i0 i1 i2
      have hY8 := Lib.hid Y8; have hYB := Lib.hid YB
      obtain ⟨⟨g0, g1, g2, g3, g4, g5, g6, g7⟩, g8⟩ := row8 Y5
      obtain ⟨⟨k0, k1, k2, k3, k4, k5, k6⟩, k7⟩ := row7 Yq
      obtain ⟨⟨j0, j1, j2, j3, j4, j5, j6, j7⟩, j8⟩ := row8 Y8
      have lq := Yq.lt
      have lb5 := Y5.lt
      have lb8 := Y8.lt
      clear Y8 Y5 Yq YB
      go_region
      obtain ⟨w9, e9, r9, k9, B9⟩ := end_at (.int .i64 1) (.int .i64 e) (.int .i64 t) (.int .i64 1) (.int .i64 0) (.int .i64 0) (.int .i64 v) (.string ⟨#[]⟩) 0 (m + SM) t 0 5 hY8.out hYB.out (by omega)
      rw [← e9]
      clear e9
      obtain ⟨⟨p0, p1, p2, p3, p4, p5, p6, p7⟩, p8⟩ := row8 r9
      have K9 := Lib.hid k9
      clear k9
      go_wp2
      (try simp only [Exit.inBlock, Exit.then]); refine bodyPost_ret (by simp [results, Try.results83, go_sem, p0, p1, p2, p3, p4, p5, p6, p7]; try rfl) rfl ?_
      exact ⟨_, rfl, by rw [HE'.out]; exact K9.out, B9.drew⟩
    · have HE' : Hid (BE = ⟨2, m + SM, t, v, 0, [], 0⟩) := Lib.hid (HE.out.trans (by rw [if_neg hF, if_neg hF]))
      go_wp2
      have Y8 : RowAt (w0.setCell ⟨n, 2, none⟩ (.int .i64 t)) b8 39 (rnA 0 0 0 0 0) := H8.out.other _ _ (by simp only; omega)
      have Y5 : RowAt (w0.setCell ⟨n, 2, none⟩ (.int .i64 t)) n 39 (rnA 1 e t 1 v) := by simpa using H5.out.set 2 (.int .i64 t)
      have Yq : RowAt (w0.setCell ⟨n, 2, none⟩ (.int .i64 t)) q 44 #[.int .i64 2, .int .i64 (m + SM), .int .i64 t, .int .i64 v, .int .i64 0, .string ⟨#[]⟩, .int .i64 0] := HQ.out.other _ _ (by simp only; omega)
      have YB : Below w.heap.size w (w0.setCell ⟨n, 2, none⟩ (.int .i64 t)) := HB.out.setCell (by simp only; omega) _
      obtain ⟨Z, eZ⟩ : ∃ Z, Z = (w0.setCell ⟨n, 2, none⟩ (.int .i64 t)) := ⟨_, rfl⟩
      rw [← eZ] at Y8 Y5 Yq YB
      rw [← eZ]
      clear eZ g0 g1 g2 g3 g4 g5 g6 g7 g8 k0 k1 k2 k3 k4 k5 k6 k7 H4 H5 H8 HQ HB i0 i1 i2
      have hY8 := Lib.hid Y8; have hYB := Lib.hid YB
      obtain ⟨⟨g0, g1, g2, g3, g4, g5, g6, g7⟩, g8⟩ := row8 Y5
      obtain ⟨⟨k0, k1, k2, k3, k4, k5, k6⟩, k7⟩ := row7 Yq
      obtain ⟨⟨j0, j1, j2, j3, j4, j5, j6, j7⟩, j8⟩ := row8 Y8
      have lq := Yq.lt
      have lb5 := Y5.lt
      have lb8 := Y8.lt
      clear Y8 Y5 Yq YB
      go_region
      obtain ⟨w9, e9, r9, k9, B9⟩ := end_at (.int .i64 1) (.int .i64 e) (.int .i64 t) (.int .i64 1) (.int .i64 0) (.int .i64 0) (.int .i64 v) (.string ⟨#[]⟩) v (m + SM) t 0 0 hY8.out hYB.out (by omega)
      rw [← e9]
      clear e9
      obtain ⟨⟨p0, p1, p2, p3, p4, p5, p6, p7⟩, p8⟩ := row8 r9
      have K9 := Lib.hid k9
      clear k9
      go_wp2
      (try simp only [Exit.inBlock, Exit.then]); refine bodyPost_ret (by simp [results, Try.results83, go_sem, p0, p1, p2, p3, p4, p5, p6, p7]; try rfl) rfl ?_
      exact ⟨_, rfl, by rw [HE'.out]; exact K9.out, B9.drew⟩

end Go.Proofs.Ytmbeaagpjpphhaa

namespace Go.Proofs.Ytmbeaagpjpphhaa
open Go Go.RowKit Go.Joins
set_option linter.unusedVariables false
set_option linter.unusedSimpArgs false

theorem redge_any (N D e c m p t v : Int) (z : Bool) (w : World) (h : Bt N D) (hy : c = 0 ∨ c = 1) (hv : v = 0 ∨ v = 1) (hm : 0 ≤ m ∧ m ≤ t) (ht : t ≤ 1099511627776) :
    Calls Try.prog 83 #[.agg (manA N D z), .agg (rnA 1 e m c p), .int .i64 t, .int .i64 v] w fun r w' => ∃ V, r = .returned (.tuple #[.agg (rnA 1 e (edG 0 N D c m t v).2.1 (edG 0 N D c m t v).1 v), V]) ∧ EvRow w' w.heap.size V (edG 0 N D c m t v).2.2 ∧ Below w.heap.size w w' := by
  rcases hy with rfl | rfl
  · refine (redge_idle N D e m p t v z w h hv hm ht).mono fun r w' ⟨h1, h2⟩ => ⟨.slice none 0 0, h1.trans ?_, ?_, h2⟩
    · unfold edG; rw [if_pos (show (0 : Int) = 0 ∨ 2 * N ≤ (t - m) * D from .inl rfl)]; split <;> rfl
    · unfold edG; rw [if_pos (show (0 : Int) = 0 ∨ 2 * N ≤ (t - m) * D from .inl rfl)]; split <;> exact KRow.nil _ _
  · by_cases hl : 2 * N ≤ (t - m) * D
    · have hX : Calls Try.prog 83 #[.agg (manA N D z), .agg (rnA 1 e m 1 p), .int .i64 t, .int .i64 v] w fun r w' => r = .returned (.tuple #[.agg (rnA 1 e (if v = 1 then t else m) (if v = 1 then 1 else 0) v), .slice none 0 0]) ∧ Below w.heap.size w w' := by
        by_cases hb : 4194304 ≤ t - m
        · exact redge_big N D e m p t v z w h hv hm ht hb
        · exact redge_late N D e m p t v z w h hv hm ht hb hl
      refine hX.mono fun r w' ⟨h1, h2⟩ => ⟨.slice none 0 0, h1.trans ?_, ?_, h2⟩
      · unfold edG; rw [if_pos (show (1 : Int) = 0 ∨ 2 * N ≤ (t - m) * D from .inr hl)]; split <;> rfl
      · unfold edG; rw [if_pos (show (1 : Int) = 0 ∨ 2 * N ≤ (t - m) * D from .inr hl)]; split <;> exact KRow.nil _ _
    · refine (redge_near N D e m p t v z w h hv hm ht hl).mono fun r w' ⟨V, h1, h2, h3⟩ => ⟨V, h1.trans ?_, ?_, h3⟩
      · unfold edG; rw [if_neg (show ¬ ((1 : Int) = 0 ∨ 2 * N ≤ (t - m) * D) by omega)]; split <;> rfl
      · revert h2; unfold edG; rw [if_neg (show ¬ ((1 : Int) = 0 ∨ 2 * N ≤ (t - m) * D) by omega)]; split <;> exact id

theorem snext_at {w W : World} {b3 b4 b5 b6 : Nat} {A S E Z : Array Value} (S' : Array Value) (l4 : w.heap.size ≤ b3 ∧ b3 < b4 ∧ b4 < b5 ∧ b5 < b6 ∧ b6 < W.heap.size) (r3 : RowAt W b3 59 A) (r4 : RowAt W b4 39 S) (r5 : RowAt W b5 44 E) (r6 : RowAt W b6 39 Z) (B0 : Below w.heap.size w W) : ∃ X n, X = W.alloc (.cells S' 39) ∧ n = W.heap.size ∧ (b6 < n ∧ n < X.heap.size ∧ w.heap.size ≤ n) ∧ RowAt X b3 59 A ∧ RowAt X b4 39 S ∧ RowAt X b5 44 E ∧ RowAt X b6 39 Z ∧ RowAt X n 39 S' ∧ Below w.heap.size w X :=
  ⟨_, _, rfl, rfl, ⟨l4.2.2.2.2, by simp only [World.size_alloc]; omega, B0.size⟩, r3.alloc _, r4.alloc _, r5.alloc _, r6.alloc _, RowAt.new _ _ _, B0.alloc B0.size _⟩

set_option maxRecDepth 20000 in
set_option maxHeartbeats 8000000 in
theorem rmanStep_no (N D : Int) (z : Bool) (c e m p k f t v a : Int) (s : ByteArray) (u : Int) (w : World) (h : Bt N D) (hk : ckE N D = 0) (hs : s.size ≤ 140737488351232) (hA : ¬ AcL e e k f t v a s.size u) :
    Calls Try.prog 44 #[.agg (manA N D z), .agg (rnA (phI e) e m c p), .agg (evA k f t v a s u)] w fun r w' => r = .returned (.tuple #[.agg (rnA (phI e) e m c p), .slice none 0 0]) ∧ Below w.heap.size w w' := by
  have d1 := h.d1; have d2 := h.d2; have n1 := h.n1; have n2 := h.n2
  have CK : Hid (∀ W, Calls Try.prog 35 #[.agg (manA N D z)] W fun e w' => e = .returned (.int .i64 0) ∧ Below W.heap.size W w') := Lib.hid fun W => by have := refManCheck_any N D z W (by omega) (by omega) (by omega) (by omega); rwa [hk] at this
  have CA : Hid (∀ W, Calls Try.prog 82 #[.agg (rnA (phI e) e m c p), .agg (evA k f t v a s u)] W fun r w' => r = .returned (.bool false) ∧ Below W.heap.size W w') := Lib.hid fun W => by have := racc17_any (phI e) e m c p k f t v a s u W hs; rwa [decide_eq_false (by rw [acL_ph (ph_iff e)]; exact hA)] at this
  generalize phI e = PH at *
  obtain ⟨W, b3, b4, b5, b6, eW, e6, e5, e4, e3, ⟨l3, l4, l5, l6, l0⟩, r3, r4, r5, r6, B0⟩ := mbox_at w N D z (rnA PH e m c p) k f t v a s u (rnA 0 0 0 0 0)
  have HB0 := Lib.hid B0
  have H3 := Lib.hid r3; have H4 := Lib.hid r4; have H5 := Lib.hid r5; have H6 := Lib.hid r6
  obtain ⟨a0, a1, a2⟩ := row3 r3
  clear r3 r4 r5 r6 B0
  go_enter Try.func44, Try.ntmps44
  go_wp2_with (first
    | (rw [← eW, ← e6, ← e5, ← e4, ← e3]; clear eW e6 e5 e4 e3; go_at_call 35; go_must (refine (CK.out _).mono ?_; rintro e1 w1 ⟨rfl, b1⟩; have K3 := Lib.hid (H3.out.keep b1); have K5 := Lib.hid (H5.out.keep b1); have K4 := Lib.hid (H4.out.keep b1); have K6 := Lib.hid (H6.out.keep b1); have B1 := Lib.hid (HB0.out.trans (b1.mono HB0.out.size)); obtain ⟨⟨c0, c1, c2, c3, c4, c5, c6⟩, c7⟩ := row7 K5.out; obtain ⟨⟨f0, f1, f2, f3, f4, f5, f6, f7⟩, f8⟩ := row8 K4.out))
    | (go_at_call 82; go_must (refine (CA.out _).mono ?_; rintro e2 w2 ⟨rfl, b2⟩; have L3 := Lib.hid (K3.out.keep b2); have L5 := Lib.hid (K5.out.keep b2); have L4 := Lib.hid (K4.out.keep b2); have L6 := Lib.hid (K6.out.keep b2); have B2 := Lib.hid (B1.out.trans (b2.mono B1.out.size)); have m3 := L3.out.lt; have m4 := L4.out.lt; have m5 := L5.out.lt; have m6 := L6.out.lt; obtain ⟨i0, i1, i2⟩ := row3 L3.out; obtain ⟨⟨j0, j1, j2, j3, j4, j5, j6⟩, j7⟩ := row7 L5.out; obtain ⟨⟨g0, g1, g2, g3, g4, g5, g6, g7⟩, g8⟩ := row8 L4.out))
    | (refine wpList_store_at L6.out (Nat.le_refl _) (rnA PH e m c p) (.tmp 6) (.tmp 19) 39 rfl rfl rfl rfl (by kernel_rfl) rfl rfl ?_; intro w9 r9 b9; obtain ⟨⟨p0, p1, p2, p3, p4, p5, p6, p7⟩, p8⟩ := row8 r9))
  (try simp only [Exit.inBlock, Exit.then]); refine bodyPost_ret (by simp [results, Try.results44, go_sem, p0, p1, p2, p3, p4, p5, p6, p7]; try rfl) rfl ?_
  exact ⟨rfl, B2.out.trans (b9.mono (by omega))⟩

set_option maxRecDepth 20000 in
set_option maxHeartbeats 8000000 in
theorem rmanStep_same_true (N D : Int) (c e m k f t v a : Int) (s : ByteArray) (u : Int) (w : World) (h : Bt N D) (hk : ckE N D = 0) (hs : s.size ≤ 140737488351232) (hA : AcL e e k f t v a s.size u) :
    Calls Try.prog 44 #[.agg (manA N D true), .agg (rnA (phI e) e m c v), .agg (evA k f t v a s u)] w fun r w' => r = .returned (.tuple #[.agg (rnA 1 t m c v), .slice none 0 0]) ∧ Below w.heap.size w w' := by
  have d1 := h.d1; have d2 := h.d2; have n1 := h.n1; have n2 := h.n2
  have CK : Hid (∀ W, Calls Try.prog 35 #[.agg (manA N D true)] W fun e w' => e = .returned (.int .i64 0) ∧ Below W.heap.size W w') := Lib.hid fun W => by have := refManCheck_any N D true W (by omega) (by omega) (by omega) (by omega); rwa [hk] at this
  have CA : Hid (∀ W, Calls Try.prog 82 #[.agg (rnA (phI e) e m c v), .agg (evA k f t v a s u)] W fun r w' => r = .returned (.bool true) ∧ Below W.heap.size W w') := Lib.hid fun W => by have := racc17_any (phI e) e m c v k f t v a s u W hs; rwa [decide_eq_true (by rw [acL_ph (ph_iff e)]; exact hA)] at this
  have hv := hA.2.2.2.2.1
  have q1 : IntKind.i64.wrap (1 - v) = 1 - v := IntWalk.i64_in _ (by omega)
  clear hA
  generalize phI e = PH at *
  obtain ⟨W, b3, b4, b5, b6, eW, e6, e5, e4, e3, ⟨l3, l4, l5, l6, l0⟩, r3, r4, r5, r6, B0⟩ := mbox_at w N D true (rnA PH e m c v) k f t v a s u (rnA 0 0 0 0 0)
  have HB0 := Lib.hid B0
  have H3 := Lib.hid r3; have H4 := Lib.hid r4; have H5 := Lib.hid r5; have H6 := Lib.hid r6
  obtain ⟨a0, a1, a2⟩ := row3 r3
  clear r3 r4 r5 r6 B0
  go_enter Try.func44, Try.ntmps44
  go_wp2_with (first
    | (rw [← eW, ← e6, ← e5, ← e4, ← e3]; clear eW e6 e5 e4 e3; go_at_call 35; go_must (refine (CK.out _).mono ?_; rintro e1 w1 ⟨rfl, b1⟩; have K3 := Lib.hid (H3.out.keep b1); have K5 := Lib.hid (H5.out.keep b1); have K4 := Lib.hid (H4.out.keep b1); have K6 := Lib.hid (H6.out.keep b1); have B1 := Lib.hid (HB0.out.trans (b1.mono HB0.out.size)); obtain ⟨⟨c0, c1, c2, c3, c4, c5, c6⟩, c7⟩ := row7 K5.out; obtain ⟨⟨f0, f1, f2, f3, f4, f5, f6, f7⟩, f8⟩ := row8 K4.out))
    | (go_at_call 82; go_must (refine (CA.out _).mono ?_; rintro e2 w2 ⟨rfl, b2⟩; have L3 := Lib.hid (K3.out.keep b2); have L5 := Lib.hid (K5.out.keep b2); have L4 := Lib.hid (K4.out.keep b2); have L6 := Lib.hid (K6.out.keep b2); have B2 := Lib.hid (B1.out.trans (b2.mono B1.out.size)); have m3 := L3.out.lt; have m4 := L4.out.lt; have m5 := L5.out.lt; have m6 := L6.out.lt; obtain ⟨i0, i1, i2⟩ := row3 L3.out; obtain ⟨⟨j0, j1, j2, j3, j4, j5, j6⟩, j7⟩ := row7 L5.out; obtain ⟨⟨g0, g1, g2, g3, g4, g5, g6, g7⟩, g8⟩ := row8 L4.out))
    | (refine wpList_store_at (L6.out.alloc _) (Nat.le_refl _) (rnA 1 t m c v) (.tmp 6) (.tmp 36) 39 rfl rfl rfl rfl (by kernel_rfl) rfl rfl ?_; intro w9 r9 b9; obtain ⟨⟨p0, p1, p2, p3, p4, p5, p6, p7⟩, p8⟩ := row8 r9))
  (try simp only [Exit.inBlock, Exit.then]); refine bodyPost_ret (by simp [results, Try.results44, go_sem, p0, p1, p2, p3, p4, p5, p6, p7]; try rfl) rfl ?_
  exact ⟨rfl, (B2.out.alloc B2.out.size _).trans (b9.mono (by omega))⟩

set_option maxRecDepth 20000 in
set_option maxHeartbeats 8000000 in
theorem rmanStep_turn_true (N D : Int) (c e m p k f t v a : Int) (s : ByteArray) (u : Int) (w : World) (h : Bt N D) (hk : ckE N D = 0) (hs : s.size ≤ 140737488351232) (hA : AcL e e k f t v a s.size u) (hp : v ≠ p) (hs' : RcN ⟨c, e, m, p, []⟩) :
    Calls Try.prog 44 #[.agg (manA N D true), .agg (rnA (phI e) e m c p), .agg (evA k f t v a s u)] w fun r w' => ∃ V, r = .returned (.tuple #[.agg (rnA 1 t (edG 0 N D c m f v).2.1 (edG 0 N D c m f v).1 v), V]) ∧ EvRow w' w.heap.size V (edG 0 N D c m f v).2.2 ∧ Below w.heap.size w w' := by
  have d1 := h.d1; have d2 := h.d2; have n1 := h.n1; have n2 := h.n2
  have CK : Hid (∀ W, Calls Try.prog 35 #[.agg (manA N D true)] W fun e w' => e = .returned (.int .i64 0) ∧ Below W.heap.size W w') := Lib.hid fun W => by have := refManCheck_any N D true W (by omega) (by omega) (by omega) (by omega); rwa [hk] at this
  have CA : Hid (∀ W, Calls Try.prog 82 #[.agg (rnA (phI e) e m c p), .agg (evA k f t v a s u)] W fun r w' => r = .returned (.bool true) ∧ Below W.heap.size W w') := Lib.hid fun W => by have := racc17_any (phI e) e m c p k f t v a s u W hs; rwa [decide_eq_true (by rw [acL_ph (ph_iff e)]; exact hA)] at this
  have hv := hA.2.2.2.2.1
  have q1 : IntKind.i64.wrap (1 - v) = 1 - v := IntWalk.i64_in _ (by omega)
  have hpp : ((v : Int) == p) = false := by simpa using hp
  obtain ⟨x1, x2, x3, _⟩ := acN_bd (e := ⟨k, f, t, v, a, s.data.toList, u⟩) hs' (by unfold AcN; rw [show s.data.toList.length = s.size from Array.length_toList]; exact hA)
  simp only at x1 x2 x3
  have CE : Hid (∀ W, Calls Try.prog 83 #[.agg (manA N D true), .agg (rnA 1 t m c p), .int .i64 f, .int .i64 v] W fun r w' => ∃ V, r = .returned (.tuple #[.agg (rnA 1 t (edG 0 N D c m f v).2.1 (edG 0 N D c m f v).1 v), V]) ∧ EvRow w' W.heap.size V (edG 0 N D c m f v).2.2 ∧ Below W.heap.size W w') := Lib.hid fun W => redge_any N D t c m p f v true W h hs'.y (by omega) ⟨hs'.m.1, by have := hs'.m.2; simp only at this; omega⟩ (by omega)
  generalize (edG 0 N D c m f v).1 = Y1 at *
  generalize (edG 0 N D c m f v).2.1 = M1 at *
  generalize (edG 0 N D c m f v).2.2 = O1 at *
  clear hA hs'
  generalize phI e = PH at *
  obtain ⟨W, b3, b4, b5, b6, eW, e6, e5, e4, e3, ⟨l3, l4, l5, l6, l0⟩, r3, r4, r5, r6, B0⟩ := mbox_at w N D true (rnA PH e m c p) k f t v a s u (rnA 0 0 0 0 0)
  have HB0 := Lib.hid B0
  have H3 := Lib.hid r3; have H4 := Lib.hid r4; have H5 := Lib.hid r5; have H6 := Lib.hid r6
  obtain ⟨a0, a1, a2⟩ := row3 r3
  clear r3 r4 r5 r6 B0
  go_enter Try.func44, Try.ntmps44
  go_wp2_with (first
    | (rw [← eW, ← e6, ← e5, ← e4, ← e3]; clear eW e6 e5 e4 e3; go_at_call 35; go_must (refine (CK.out _).mono ?_; rintro e1 w1 ⟨rfl, b1⟩; have K3 := Lib.hid (H3.out.keep b1); have K5 := Lib.hid (H5.out.keep b1); have K4 := Lib.hid (H4.out.keep b1); have K6 := Lib.hid (H6.out.keep b1); have B1 := Lib.hid (HB0.out.trans (b1.mono HB0.out.size)); obtain ⟨⟨c0, c1, c2, c3, c4, c5, c6⟩, c7⟩ := row7 K5.out; obtain ⟨⟨f0, f1, f2, f3, f4, f5, f6, f7⟩, f8⟩ := row8 K4.out))
    | (go_at_call 82; go_must (refine (CA.out _).mono ?_; rintro e2 w2 ⟨rfl, b2⟩; have L3 := Lib.hid (K3.out.keep b2); have L5 := Lib.hid (K5.out.keep b2); have L4 := Lib.hid (K4.out.keep b2); have L6 := Lib.hid (K6.out.keep b2); have B2 := Lib.hid (B1.out.trans (b2.mono B1.out.size)); have m3 := L3.out.lt; have m4 := L4.out.lt; have m5 := L5.out.lt; have m6 := L6.out.lt; obtain ⟨i0, i1, i2⟩ := row3 L3.out; obtain ⟨⟨j0, j1, j2, j3, j4, j5, j6⟩, j7⟩ := row7 L5.out; obtain ⟨⟨g0, g1, g2, g3, g4, g5, g6, g7⟩, g8⟩ := row8 L4.out))
    | (go_at_call 83; go_must (refine (CE.out _).mono ?_; rintro e4 w4 ⟨V4, rfl, v4, b4'⟩; obtain ⟨VA, VN, VC, rfl, hVN⟩ := v4.form; clear hVN; have P6 := Lib.hid ((L6.out.alloc _).keep b4'); have P0 := Lib.hid ((B2.out.alloc B2.out.size _).trans (b4'.mono (B2.out.alloc B2.out.size _).size)); have PV := Lib.hid v4))
    | (refine wpList_store_kp P6.out (rnA 1 t M1 Y1 v) (.tmp 6) (.tmp 43) 39 rfl rfl rfl rfl (by kernel_rfl) rfl rfl ?_; intro w9 r9 k9; obtain ⟨⟨p0, p1, p2, p3, p4, p5, p6, p7⟩, p8⟩ := row8 r9))
  (try simp only [Exit.inBlock, Exit.then]); refine bodyPost_ret (by simp [results, Try.results44, go_sem, p0, p1, p2, p3, p4, p5, p6, p7]; try rfl) rfl ?_
  exact ⟨_, rfl, (PV.out.kp k9 (fun g hg hx => by have := (PV.out.lt g hg).1; rw [World.size_alloc] at this; simp only [List.mem_singleton] at hx; omega)).mono (B2.out.alloc B2.out.size (.cells (rnA 1 t m c p) 39)).size, P0.out.trans (k9.below (by simp only [List.mem_singleton]; intro k hk; omega) P0.out.size)⟩

set_option maxRecDepth 20000 in
set_option maxHeartbeats 8000000 in
theorem rmanStep_same_false (N D : Int) (c e m k f t v a : Int) (s : ByteArray) (u : Int) (w : World) (h : Bt N D) (hk : ckE N D = 0) (hs : s.size ≤ 140737488351232) (hA : AcL e e k f t v a s.size u) :
    Calls Try.prog 44 #[.agg (manA N D false), .agg (rnA (phI e) e m c (1 - v)), .agg (evA k f t v a s u)] w fun r w' => r = .returned (.tuple #[.agg (rnA 1 t m c (1 - v)), .slice none 0 0]) ∧ Below w.heap.size w w' := by
  have d1 := h.d1; have d2 := h.d2; have n1 := h.n1; have n2 := h.n2
  have CK : Hid (∀ W, Calls Try.prog 35 #[.agg (manA N D false)] W fun e w' => e = .returned (.int .i64 0) ∧ Below W.heap.size W w') := Lib.hid fun W => by have := refManCheck_any N D false W (by omega) (by omega) (by omega) (by omega); rwa [hk] at this
  have CA : Hid (∀ W, Calls Try.prog 82 #[.agg (rnA (phI e) e m c (1 - v)), .agg (evA k f t v a s u)] W fun r w' => r = .returned (.bool true) ∧ Below W.heap.size W w') := Lib.hid fun W => by have := racc17_any (phI e) e m c (1 - v) k f t v a s u W hs; rwa [decide_eq_true (by rw [acL_ph (ph_iff e)]; exact hA)] at this
  have hv := hA.2.2.2.2.1
  have q1 : IntKind.i64.wrap (1 - v) = 1 - v := IntWalk.i64_in _ (by omega)
  clear hA
  generalize phI e = PH at *
  obtain ⟨W, b3, b4, b5, b6, eW, e6, e5, e4, e3, ⟨l3, l4, l5, l6, l0⟩, r3, r4, r5, r6, B0⟩ := mbox_at w N D false (rnA PH e m c (1 - v)) k f t v a s u (rnA 0 0 0 0 0)
  have HB0 := Lib.hid B0
  have H3 := Lib.hid r3; have H4 := Lib.hid r4; have H5 := Lib.hid r5; have H6 := Lib.hid r6
  obtain ⟨a0, a1, a2⟩ := row3 r3
  clear r3 r4 r5 r6 B0
  go_enter Try.func44, Try.ntmps44
  go_wp2_with (first
    | (rw [← eW, ← e6, ← e5, ← e4, ← e3]; clear eW e6 e5 e4 e3; go_at_call 35; go_must (refine (CK.out _).mono ?_; rintro e1 w1 ⟨rfl, b1⟩; have K3 := Lib.hid (H3.out.keep b1); have K5 := Lib.hid (H5.out.keep b1); have K4 := Lib.hid (H4.out.keep b1); have K6 := Lib.hid (H6.out.keep b1); have B1 := Lib.hid (HB0.out.trans (b1.mono HB0.out.size)); obtain ⟨⟨c0, c1, c2, c3, c4, c5, c6⟩, c7⟩ := row7 K5.out; obtain ⟨⟨f0, f1, f2, f3, f4, f5, f6, f7⟩, f8⟩ := row8 K4.out))
    | (go_at_call 82; go_must (refine (CA.out _).mono ?_; rintro e2 w2 ⟨rfl, b2⟩; have L3 := Lib.hid (K3.out.keep b2); have L5 := Lib.hid (K5.out.keep b2); have L4 := Lib.hid (K4.out.keep b2); have L6 := Lib.hid (K6.out.keep b2); have B2 := Lib.hid (B1.out.trans (b2.mono B1.out.size)); have m3 := L3.out.lt; have m4 := L4.out.lt; have m5 := L5.out.lt; have m6 := L6.out.lt; obtain ⟨i0, i1, i2⟩ := row3 L3.out; obtain ⟨⟨j0, j1, j2, j3, j4, j5, j6⟩, j7⟩ := row7 L5.out; obtain ⟨⟨g0, g1, g2, g3, g4, g5, g6, g7⟩, g8⟩ := row8 L4.out))
    | (refine wpList_store_at (L6.out.alloc _) (Nat.le_refl _) (rnA 1 t m c (1 - v)) (.tmp 6) (.tmp 36) 39 rfl rfl rfl rfl (by kernel_rfl) rfl rfl ?_; intro w9 r9 b9; obtain ⟨⟨p0, p1, p2, p3, p4, p5, p6, p7⟩, p8⟩ := row8 r9))
  (try simp only [Exit.inBlock, Exit.then]); refine bodyPost_ret (by simp [results, Try.results44, go_sem, p0, p1, p2, p3, p4, p5, p6, p7]; try rfl) rfl ?_
  exact ⟨rfl, (B2.out.alloc B2.out.size _).trans (b9.mono (by omega))⟩

set_option maxRecDepth 20000 in
set_option maxHeartbeats 8000000 in
theorem rmanStep_turn_false (N D : Int) (c e m p k f t v a : Int) (s : ByteArray) (u : Int) (w : World) (h : Bt N D) (hk : ckE N D = 0) (hs : s.size ≤ 140737488351232) (hA : AcL e e k f t v a s.size u) (hp : (1 - v) ≠ p) (hs' : RcN ⟨c, e, m, p, []⟩) :
    Calls Try.prog 44 #[.agg (manA N D false), .agg (rnA (phI e) e m c p), .agg (evA k f t v a s u)] w fun r w' => ∃ V, r = .returned (.tuple #[.agg (rnA 1 t (edG 0 N D c m f (1 - v)).2.1 (edG 0 N D c m f (1 - v)).1 (1 - v)), V]) ∧ EvRow w' w.heap.size V (edG 0 N D c m f (1 - v)).2.2 ∧ Below w.heap.size w w' := by
  have d1 := h.d1; have d2 := h.d2; have n1 := h.n1; have n2 := h.n2
  have CK : Hid (∀ W, Calls Try.prog 35 #[.agg (manA N D false)] W fun e w' => e = .returned (.int .i64 0) ∧ Below W.heap.size W w') := Lib.hid fun W => by have := refManCheck_any N D false W (by omega) (by omega) (by omega) (by omega); rwa [hk] at this
  have CA : Hid (∀ W, Calls Try.prog 82 #[.agg (rnA (phI e) e m c p), .agg (evA k f t v a s u)] W fun r w' => r = .returned (.bool true) ∧ Below W.heap.size W w') := Lib.hid fun W => by have := racc17_any (phI e) e m c p k f t v a s u W hs; rwa [decide_eq_true (by rw [acL_ph (ph_iff e)]; exact hA)] at this
  have hv := hA.2.2.2.2.1
  have q1 : IntKind.i64.wrap (1 - v) = 1 - v := IntWalk.i64_in _ (by omega)
  have hpp : (((1 - v) : Int) == p) = false := by simpa using hp
  obtain ⟨x1, x2, x3, _⟩ := acN_bd (e := ⟨k, f, t, v, a, s.data.toList, u⟩) hs' (by unfold AcN; rw [show s.data.toList.length = s.size from Array.length_toList]; exact hA)
  simp only at x1 x2 x3
  have CE : Hid (∀ W, Calls Try.prog 83 #[.agg (manA N D false), .agg (rnA 1 t m c p), .int .i64 f, .int .i64 (1 - v)] W fun r w' => ∃ V, r = .returned (.tuple #[.agg (rnA 1 t (edG 0 N D c m f (1 - v)).2.1 (edG 0 N D c m f (1 - v)).1 (1 - v)), V]) ∧ EvRow w' W.heap.size V (edG 0 N D c m f (1 - v)).2.2 ∧ Below W.heap.size W w') := Lib.hid fun W => redge_any N D t c m p f (1 - v) false W h hs'.y (by omega) ⟨hs'.m.1, by have := hs'.m.2; simp only at this; omega⟩ (by omega)
  generalize (edG 0 N D c m f (1 - v)).1 = Y1 at *
  generalize (edG 0 N D c m f (1 - v)).2.1 = M1 at *
  generalize (edG 0 N D c m f (1 - v)).2.2 = O1 at *
  clear hA hs'
  generalize phI e = PH at *
  obtain ⟨W, b3, b4, b5, b6, eW, e6, e5, e4, e3, ⟨l3, l4, l5, l6, l0⟩, r3, r4, r5, r6, B0⟩ := mbox_at w N D false (rnA PH e m c p) k f t v a s u (rnA 0 0 0 0 0)
  have HB0 := Lib.hid B0
  have H3 := Lib.hid r3; have H4 := Lib.hid r4; have H5 := Lib.hid r5; have H6 := Lib.hid r6
  obtain ⟨a0, a1, a2⟩ := row3 r3
  clear r3 r4 r5 r6 B0
  go_enter Try.func44, Try.ntmps44
  go_wp2_with (first
    | (rw [← eW, ← e6, ← e5, ← e4, ← e3]; clear eW e6 e5 e4 e3; go_at_call 35; go_must (refine (CK.out _).mono ?_; rintro e1 w1 ⟨rfl, b1⟩; have K3 := Lib.hid (H3.out.keep b1); have K5 := Lib.hid (H5.out.keep b1); have K4 := Lib.hid (H4.out.keep b1); have K6 := Lib.hid (H6.out.keep b1); have B1 := Lib.hid (HB0.out.trans (b1.mono HB0.out.size)); obtain ⟨⟨c0, c1, c2, c3, c4, c5, c6⟩, c7⟩ := row7 K5.out; obtain ⟨⟨f0, f1, f2, f3, f4, f5, f6, f7⟩, f8⟩ := row8 K4.out))
    | (go_at_call 82; go_must (refine (CA.out _).mono ?_; rintro e2 w2 ⟨rfl, b2⟩; have L3 := Lib.hid (K3.out.keep b2); have L5 := Lib.hid (K5.out.keep b2); have L4 := Lib.hid (K4.out.keep b2); have L6 := Lib.hid (K6.out.keep b2); have B2 := Lib.hid (B1.out.trans (b2.mono B1.out.size)); have m3 := L3.out.lt; have m4 := L4.out.lt; have m5 := L5.out.lt; have m6 := L6.out.lt; obtain ⟨i0, i1, i2⟩ := row3 L3.out; obtain ⟨⟨j0, j1, j2, j3, j4, j5, j6⟩, j7⟩ := row7 L5.out; obtain ⟨⟨g0, g1, g2, g3, g4, g5, g6, g7⟩, g8⟩ := row8 L4.out))
    | (go_at_call 83; go_must (refine (CE.out _).mono ?_; rintro e4 w4 ⟨V4, rfl, v4, b4'⟩; obtain ⟨VA, VN, VC, rfl, hVN⟩ := v4.form; clear hVN; have P6 := Lib.hid ((L6.out.alloc _).keep b4'); have P0 := Lib.hid ((B2.out.alloc B2.out.size _).trans (b4'.mono (B2.out.alloc B2.out.size _).size)); have PV := Lib.hid v4))
    | (refine wpList_store_kp P6.out (rnA 1 t M1 Y1 (1 - v)) (.tmp 6) (.tmp 43) 39 rfl rfl rfl rfl (by kernel_rfl) rfl rfl ?_; intro w9 r9 k9; obtain ⟨⟨p0, p1, p2, p3, p4, p5, p6, p7⟩, p8⟩ := row8 r9))
  (try simp only [Exit.inBlock, Exit.then]); refine bodyPost_ret (by simp [results, Try.results44, go_sem, p0, p1, p2, p3, p4, p5, p6, p7]; try rfl) rfl ?_
  exact ⟨_, rfl, (PV.out.kp k9 (fun g hg hx => by have := (PV.out.lt g hg).1; rw [World.size_alloc] at this; simp only [List.mem_singleton] at hx; omega)).mono (B2.out.alloc B2.out.size (.cells (rnA 1 t m c p) 39)).size, P0.out.trans (k9.below (by simp only [List.mem_singleton]; intro k hk; omega) P0.out.size)⟩

end Go.Proofs.Ytmbeaagpjpphhaa
