/-
  Layer 17: the walk of the specification's edge, when there is a last middle that is not too far.
  Layer 17: the walk of the specification's Step.
  Layer 17: the specification's Step as one, its Decode.
-/
import Derived.Test.YtpooolijghbkbaaZ22
import Derived.Test.YtpooolijghbkbaaZ20
import Derived.Test.YtpooolijghbkbaaZ09
namespace Go.Proofs.Ytpooolijghbkbaa
open Go Go.RowKit Go.Joins
set_option linter.unusedVariables false
set_option linter.unusedSimpArgs false

theorem held5 {w W : World} {b4 b5 : Nat} {x0 x1 x2 x3 : Value} {W0 : World} (h : W.cell? ⟨b4, 0, none⟩ = some x0 ∧ W.cell? ⟨b4, 1, none⟩ = some x1 ∧ W.cell? ⟨b4, 2, none⟩ = some x2 ∧ W.cell? ⟨b5, 2, none⟩ = some x3 ∧ b4 < W.heap.size ∧ b5 < W.heap.size ∧ Below W0.heap.size W0 W) (hb : Below W.heap.size W w) : w.cell? ⟨b4, 0, none⟩ = some x0 ∧ w.cell? ⟨b4, 1, none⟩ = some x1 ∧ w.cell? ⟨b4, 2, none⟩ = some x2 ∧ w.cell? ⟨b5, 2, none⟩ = some x3 ∧ b4 < w.heap.size ∧ b5 < w.heap.size ∧ Below W0.heap.size W0 w := by
  obtain ⟨a0, a1, a2, a3, l0, l1, B⟩ := h
  have hs := hb.size
  exact ⟨(hb.cell l0).trans a0, (hb.cell l0).trans a1, (hb.cell l0).trans a2, (hb.cell l1).trans a3, by omega, by omega, B.trans (hb.mono B.size)⟩
theorem held5S {w W0 : World} {b4 b5 q j : Nat} {u x0 x1 x2 x3 : Value} (h : w.cell? ⟨b4, 0, none⟩ = some x0 ∧ w.cell? ⟨b4, 1, none⟩ = some x1 ∧ w.cell? ⟨b4, 2, none⟩ = some x2 ∧ w.cell? ⟨b5, 2, none⟩ = some x3 ∧ b4 < w.heap.size ∧ b5 < w.heap.size ∧ Below W0.heap.size W0 w) (h4 : b4 < W0.heap.size) (h5 : b5 < W0.heap.size) (hq : W0.heap.size ≤ q) : (w.setCell ⟨q, j, none⟩ u).cell? ⟨b4, 0, none⟩ = some x0 ∧ (w.setCell ⟨q, j, none⟩ u).cell? ⟨b4, 1, none⟩ = some x1 ∧ (w.setCell ⟨q, j, none⟩ u).cell? ⟨b4, 2, none⟩ = some x2 ∧ (w.setCell ⟨q, j, none⟩ u).cell? ⟨b5, 2, none⟩ = some x3 ∧ b4 < (w.setCell ⟨q, j, none⟩ u).heap.size ∧ b5 < (w.setCell ⟨q, j, none⟩ u).heap.size ∧ Below W0.heap.size W0 (w.setCell ⟨q, j, none⟩ u) := by
  obtain ⟨a0, a1, a2, a3, l0, l1, B⟩ := h
  have e : ∀ b i, b < W0.heap.size → (w.setCell ⟨q, j, none⟩ u).cell? ⟨b, i, none⟩ = w.cell? ⟨b, i, none⟩ := fun b i hb => World.cell?_of_block (Below.heap_setCell _ _ _ _ (fun e => by simp only at e; omega))
  exact ⟨(e _ _ h4).trans a0, (e _ _ h4).trans a1, (e _ _ h4).trans a2, (e _ _ h5).trans a3, by rw [World.size_setCell]; exact l0, by rw [World.size_setCell]; exact l1, B.setCell hq _⟩

set_option maxRecDepth 20000 in
set_option maxHeartbeats 20000000 in
theorem redge_near (N D e m p t v : Int) (z : Bool) (w : World) (h : Bt N D) (hv : v = 0 ∨ v = 1) (hm : 0 ≤ m ∧ m ≤ t) (ht : t ≤ 1099511627776) (hl : ¬ 2 * N ≤ (t - m) * D) :
    Calls Try.prog 83 #[.agg (manA N D z), .agg (rnA 1 e m 1 p), .int .i64 t, .int .i64 v] w fun r w' => ∃ V, r = .returned (.tuple #[.agg (rnA 1 e (if 4 * (t - m) * D < 3 * N then m else t) 1 v), V]) ∧ EvRow w' w.heap.size V (if 4 * (t - m) * D < 3 * N then [] else [bnE N D m t v]) ∧ Below w.heap.size w w' := by
  have CS : Hid (∀ W, Calls Try.prog 86 #[.agg (manA N D z), .int .i64 1] W fun e w' => e = .returned (.int .i64 (smI N D 0)) ∧ Below W.heap.size W w') := Lib.hid fun W => times_any N D 1 z W h (by omega) (by omega)
  have HE : Hid (bnE N D m t v = ⟨2, m + smI N D 0, t, if 5 * N < 4 * (t - m) * D then 0 else v, 0, [], if 5 * N < 4 * (t - m) * D then 5 else 0⟩) := Lib.hid rfl
  have s0 : 0 ≤ smI N D 0 := sc_nn (by have := h.d1; omega) (by omega) (by have := h.d1; have := h.n1; omega)
  have s1 := (sm_bd h 0).2
  have s2 := (bd_next h 0).2
  rw [bd_zero] at s2
  obtain ⟨d1, d2, n1, n2, n3⟩ := h
  have hd0 : 0 ≤ (t - m) * D := Int.mul_nonneg (by omega) (by omega)
  have e4' : 4 * (t - m) * D = 4 * ((t - m) * D) := Int.mul_assoc _ _ _
  have hdd : t - m ≤ (t - m) * D := by have := Int.mul_le_mul_of_nonneg_left d1 (show 0 ≤ t - m by omega); omega
  generalize bnE N D m t v = BE at *
  obtain ⟨RM, eRM⟩ : ∃ x, x = (if 4 * (t - m) * D < 3 * N then m else t) := ⟨_, rfl⟩
  obtain ⟨RL, eRL⟩ : ∃ x, x = (if 4 * (t - m) * D < 3 * N then [] else [BE]) := ⟨_, rfl⟩
  rw [← eRM, ← eRL]
  have HRM := Lib.hid eRM; have HRL := Lib.hid eRL
  clear eRM eRL
  generalize smI N D 0 = SM at *
  generalize bdI N D (0 + 1) = BD at *
  obtain ⟨W, b4, b5, b8, eW, e8, e5, e4, ⟨l4, l5, l8, l0⟩, r4, r5, r8, B0⟩ := rbox_at w N D z (rnA 1 e m 1 p) (rnA 0 0 0 0 0)
  have HB0 := Lib.hid B0; have H5 := Lib.hid r5; have H8 := Lib.hid r8; have H4 := Lib.hid r4
  obtain ⟨⟨c0, c1, c2, c3, c4, c5, c6, c7⟩, c8⟩ := row8 r5
  obtain ⟨a0, a1, a2⟩ := row3 r4
  clear r4 r5 r8 B0
  have hb : ¬ 4194304 ≤ t - m := fun hb => by have := Int.mul_le_mul_of_nonneg_right hb (show 0 ≤ D by omega); omega
  have hc : ((1 : Int) == 0) = false := rfl
  have q0 : IntKind.i64.wrap ((t - m) * D) = (t - m) * D := IntWalk.i64_in _ (by omega)
  have q7 : IntKind.i64.wrap (2 * N) = 2 * N := IntWalk.i64_in _ (by omega)
  have q1 : IntKind.i64.wrap (t - m) = t - m := IntWalk.i64_in _ (by omega)
  have q2 : IntKind.i64.wrap (m + SM) = m + SM := IntWalk.i64_in _ (by omega)
  have q3 : IntKind.i64.wrap (4 * (t - m)) = 4 * (t - m) := IntWalk.i64_in _ (by omega)
  have q4 : IntKind.i64.wrap (4 * (t - m) * D) = 4 * (t - m) * D := IntWalk.i64_in _ (by omega)
  have q5 : IntKind.i64.wrap (5 * N) = 5 * N := IntWalk.i64_in _ (by omega)
  have q6 : IntKind.i64.wrap (3 * N) = 3 * N := IntWalk.i64_in _ (by omega)
  clear s1 s2 hd0 e4' hdd
  go_enter Try.func83, Try.ntmps83
  go_upto_region 2 with (fail)
  rw [← eW, ← e8, ← e5, ← e4]
  clear eW e8 e5 e4
  go_upto_region 4 with (fail)
  obtain ⟨X, n, eX, en, ⟨ln, lX, lw⟩, s4, s5, s8, sn, BX⟩ := rnext_at (rnA 1 e m 1 v) ⟨l4, l5, l8⟩ H4.out H5.out H8.out HB0.out
  rw [← eX, ← en]
  clear eX en c0 c1 c2 c3 c4 c5 c6 c7 c8 a0 a1 a2 H4 H5 H8 HB0
  obtain ⟨⟨c0, c1, c2, c3, c4, c5, c6, c7⟩, c8⟩ := row8 s5
  obtain ⟨⟨n0, n1, n2, n3, n4, n5, n6, n7⟩, n8⟩ := row8 sn
  obtain ⟨a0, a1, a2⟩ := row3 s4
  have XB := Lib.hid BX; have X4 := Lib.hid s4; have X5 := Lib.hid s5; have X8 := Lib.hid s8; have Xn := Lib.hid sn
  clear s4 s5 s8 sn BX
  by_cases hE : 4 * (t - m) * D < 3 * N
  · obtain rfl : m = RM := by rw [HRM.out, if_pos hE]
    obtain rfl : RL = [] := by rw [HRL.out, if_pos hE]
    go_wp2_with (first | (refine wpList_store_at X8.out (Nat.le_refl _) (rnA 1 e m 1 v) (.tmp 8) (.tmp 57) 39 rfl rfl rfl rfl (by kernel_rfl) rfl rfl ?_; intro w9 r9 b9; obtain ⟨⟨p0, p1, p2, p3, p4, p5, p6, p7⟩, p8⟩ := row8 r9))
    (try simp only [Exit.inBlock, Exit.then]); refine bodyPost_ret (by simp [results, Try.results83, go_sem, p0, p1, p2, p3, p4, p5, p6, p7]; try rfl) rfl ?_
    exact ⟨_, rfl, KRow.nil _ _, XB.out.trans (b9.mono (by omega))⟩
  obtain rfl : t = RM := by rw [HRM.out, if_neg hE]
  obtain rfl : RL = [BE] := by rw [HRL.out, if_neg hE]
  have HX : Hid (X.cell? ⟨b4, 0, none⟩ = some (.int .i64 N) ∧ X.cell? ⟨b4, 1, none⟩ = some (.int .i64 D) ∧ X.cell? ⟨b4, 2, none⟩ = some (.bool z) ∧ X.cell? ⟨b5, 2, none⟩ = some (.int .i64 m) ∧ b4 < X.heap.size ∧ b5 < X.heap.size ∧ Below X.heap.size X X) := Lib.hid ⟨a0, a1, a2, c2, by omega, by omega, Below.refl _ _⟩
  have f4 : b4 < X.heap.size := by omega
  have f5 : b5 < X.heap.size := by omega
  have lw' : w.heap.size ≤ X.heap.size := by omega
  go_upto_region 12 with (fail)
  clear a0 a1 a2 c0 c1 c2 c3 c4 c5 c6 c7 c8 n0 n1 n2 n3 n4 n5 n6 n7 n8
  have v1 : X.heap.size ≤ X.heap.size := Nat.le_refl _
  have v0 : X.heap.size ≤ X.drew.heap.size := Nat.le_refl _
  go_cut [12] from 13 (fun pp wc => ∃ q, pp = .pointer (some ⟨q, 0, none⟩) ∧ X.heap.size ≤ q ∧ Hid (RowAt wc q 44 #[.int .i64 2, .int .i64 (m + SM), .int .i64 t, .int .i64 v, .int .i64 0, .string ⟨#[]⟩, .int .i64 0]) ∧ Hid (RowAt wc b4 59 (manA N D z)) ∧ Hid (RowAt wc n 39 (rnA 1 e m 1 v)) ∧ Hid (RowAt wc b8 39 (rnA 0 0 0 0 0)) ∧ Hid (Below w.heap.size w wc))
  case first =>
    go_region_held3 (fun w' => w'.cell? ⟨b4, 0, none⟩ = some (.int .i64 N) ∧ w'.cell? ⟨b4, 1, none⟩ = some (.int .i64 D) ∧ w'.cell? ⟨b4, 2, none⟩ = some (.bool z) ∧ w'.cell? ⟨b5, 2, none⟩ = some (.int .i64 m) ∧ b4 < w'.heap.size ∧ b5 < w'.heap.size ∧ Below X.heap.size X w') (first | with_reducible assumption | (with_reducible refine held5S ?_ f4 f5 (by with_reducible assumption); with_reducible refine held5S ?_ f4 f5 (by with_reducible assumption); with_reducible refine held5S ?_ f4 f5 (by with_reducible assumption); with_reducible refine held5S ?_ f4 f5 (by with_reducible assumption); with_reducible refine held5S ?_ f4 f5 (by with_reducible assumption); with_reducible refine held5S ?_ f4 f5 (by with_reducible assumption); with_reducible refine held5S ?_ f4 f5 (by with_reducible assumption); with_reducible assumption) | with_reducible exact held5 HX.out (Below.refl _ _).drew | with_reducible exact held5 (by with_reducible assumption) (ba _ _) | fail)
      (first
        | (go_at_call 86; refine (CS.out _).mono ?_; rintro e6 w6 ⟨rfl, k6⟩; have h6 := held5 (by with_reducible assumption) k6; have v6 := h6.2.2.2.2.2.2.size; (try (have r6 := (show RowAt _ _ 44 #[.int .i64 0, .int .i64 0, .int .i64 0, .int .i64 0, .int .i64 0, .string ⟨#[]⟩, .int .i64 0] from RowAt.keep (by first | with_reducible exact RowAt.new _ _ _ | with_reducible exact RowAt.drew1 (RowAt.new _ _ _) | with_reducible assumption) k6); (try simp only [show X.drew.heap = X.heap from rfl] at r6); obtain ⟨⟨g0, g1, g2, g3, g4, g5, g6⟩, g7⟩ := row_seven' r6))))
    all_goals
      rename_i hS9
      have hX9 := hS9.2.2.2.2.2.2
      first
      | have R9 := set7 (x0 := .int .i64 2) (x1 := .int .i64 (m + SM)) (x2 := .int .i64 t) (x3 := .int .i64 v) (x4 := .int .i64 0) (x5 := .string ⟨#[]⟩) (x6 := .int .i64 0) (by with_reducible assumption)
      | have R9 := new_of hX9
      have R9' := Lib.hid R9
      have Y4 := Lib.hid (X4.out.keep hX9)
      have Yn := Lib.hid (Xn.out.keep hX9)
      have Y8 := Lib.hid (X8.out.keep hX9)
      have YB := Lib.hid (XB.out.trans (hX9.mono lw'))
      clear hS9 hX9 R9
      go_wp2
      go_meet
      case rel => exact ⟨_, rfl, by with_reducible assumption, R9', Y4, Yn, Y8, YB⟩
  case rest =>
    obtain ⟨w0, hw0⟩ : ∃ x, x = wc := ⟨_, rfl⟩
    subst hw0
    obtain ⟨q, rfl, hq, HQ, H4, H5, H8, HB⟩ := hcut
    obtain ⟨⟨g0, g1, g2, g3, g4, g5, g6, g7⟩, g8⟩ := row8 H5.out
    obtain ⟨⟨k0, k1, k2, k3, k4, k5, k6⟩, k7⟩ := row7 HQ.out
    obtain ⟨i0, i1, i2⟩ := row3 H4.out
    have lq := HQ.out.lt
    have lb5 := H5.out.lt
    by_cases hF : 5 * N < 4 * (t - m) * D
    · have HE' : Hid (BE = ⟨2, m + SM, t, 0, 0, [], 5⟩) := Lib.hid (HE.out.trans (by rw [if_pos hF, if_pos hF]))
      go_wp2
      have Y8 : RowAt (((w0.setCell ⟨q, 3, none⟩ (.int .i64 0)).setCell ⟨q, 6, none⟩ (.int .i64 5)).setCell ⟨n, 2, none⟩ (.int .i64 t)) b8 39 (rnA 0 0 0 0 0) := ((H8.out.other _ _ (by simp only; omega)).other _ _ (by simp only; omega)).other _ _ (by simp only; omega)
      have Y5 : RowAt (((w0.setCell ⟨q, 3, none⟩ (.int .i64 0)).setCell ⟨q, 6, none⟩ (.int .i64 5)).setCell ⟨n, 2, none⟩ (.int .i64 t)) n 39 (rnA 1 e t 1 v) := by simpa using ((H5.out.other ⟨q, 3, none⟩ (.int .i64 0) (by simp only; omega)).other ⟨q, 6, none⟩ (.int .i64 5) (by simp only; omega)).set 2 (.int .i64 t)
      have Yq : RowAt (((w0.setCell ⟨q, 3, none⟩ (.int .i64 0)).setCell ⟨q, 6, none⟩ (.int .i64 5)).setCell ⟨n, 2, none⟩ (.int .i64 t)) q 44 #[.int .i64 2, .int .i64 (m + SM), .int .i64 t, .int .i64 0, .int .i64 0, .string ⟨#[]⟩, .int .i64 5] := RowAt.other (by simpa using (HQ.out.set 3 (.int .i64 0)).set 6 (.int .i64 5)) _ _ (by simp only; omega)
      have YB : Below w.heap.size w (((w0.setCell ⟨q, 3, none⟩ (.int .i64 0)).setCell ⟨q, 6, none⟩ (.int .i64 5)).setCell ⟨n, 2, none⟩ (.int .i64 t)) := ((HB.out.setCell (by simp only; omega) _).setCell (by simp only; omega) _).setCell (by simp only; omega) _
      obtain ⟨Z, eZ⟩ : ∃ Z, Z = (((w0.setCell ⟨q, 3, none⟩ (.int .i64 0)).setCell ⟨q, 6, none⟩ (.int .i64 5)).setCell ⟨n, 2, none⟩ (.int .i64 t)) := ⟨_, rfl⟩
      rw [← eZ] at Y8 Y5 Yq YB
      rw [← eZ]
      clear eZ g0 g1 g2 g3 g4 g5 g6 g7 g8 k0 k1 k2 k3 k4 k5 k6 k7 H4 H5 H8 HQ HB i0 i1 i2
      have hY8 := Lib.hid Y8; have hYB := Lib.hid YB
      obtain ⟨⟨g0, g1, g2, g3, g4, g5, g6, g7⟩, g8⟩ := row8 Y5
      obtain ⟨⟨k0, k1, k2, k3, k4, k5, k6⟩, k7⟩ := row7 Yq
      obtain ⟨⟨j0, j1, j2, j3, j4, j5, j6, j7⟩, j8⟩ := row8 Y8
      have lq := Yq.lt
      have lb5 := Y5.lt
      have lb8 := Y8.lt
      clear Y8 Y5 Yq YB
      go_region
      obtain ⟨w9, e9, r9, k9, B9⟩ := end_at (.int .i64 1) (.int .i64 e) (.int .i64 t) (.int .i64 1) (.int .i64 0) (.int .i64 0) (.int .i64 v) (.string ⟨#[]⟩) 0 (m + SM) t 0 5 hY8.out hYB.out (by omega)
      rw [← e9]
      clear e9
      obtain ⟨⟨p0, p1, p2, p3, p4, p5, p6, p7⟩, p8⟩ := row8 r9
      have K9 := Lib.hid k9
      clear k9
      go_wp2
      (try simp only [Exit.inBlock, Exit.then]); refine bodyPost_ret (by simp [results, Try.results83, go_sem, p0, p1, p2, p3, p4, p5, p6, p7]; try rfl) rfl ?_
      exact ⟨_, rfl, by rw [HE'.out]; exact K9.out, B9.drew⟩
    · have HE' : Hid (BE = ⟨2, m + SM, t, v, 0, [], 0⟩) := Lib.hid (HE.out.trans (by rw [if_neg hF, if_neg hF]))
      go_wp2
      have Y8 : RowAt (w0.setCell ⟨n, 2, none⟩ (.int .i64 t)) b8 39 (rnA 0 0 0 0 0) := H8.out.other _ _ (by simp only; omega)
      have Y5 : RowAt (w0.setCell ⟨n, 2, none⟩ (.int .i64 t)) n 39 (rnA 1 e t 1 v) := by simpa using H5.out.set 2 (.int .i64 t)
      have Yq : RowAt (w0.setCell ⟨n, 2, none⟩ (.int .i64 t)) q 44 #[.int .i64 2, .int .i64 (m + SM), .int .i64 t, .int .i64 v, .int .i64 0, .string ⟨#[]⟩, .int .i64 0] := HQ.out.other _ _ (by simp only; omega)
      have YB : Below w.heap.size w (w0.setCell ⟨n, 2, none⟩ (.int .i64 t)) := HB.out.setCell (by simp only; omega) _
      obtain ⟨Z, eZ⟩ : ∃ Z, Z = (w0.setCell ⟨n, 2, none⟩ (.int .i64 t)) := ⟨_, rfl⟩
      rw [← eZ] at Y8 Y5 Yq YB
      rw [← eZ]
      clear eZ g0 g1 g2 g3 g4 g5 g6 g7 g8 k0 k1 k2 k3 k4 k5 k6 k7 H4 H5 H8 HQ HB i0 i1 i2
      have hY8 := Lib.hid Y8; have hYB := Lib.hid YB
      obtain ⟨⟨g0, g1, g2, g3, g4, g5, g6, g7⟩, g8⟩ := row8 Y5
      obtain ⟨⟨k0, k1, k2, k3, k4, k5, k6⟩, k7⟩ := row7 Yq
      obtain ⟨⟨j0, j1, j2, j3, j4, j5, j6, j7⟩, j8⟩ := row8 Y8
      have lq := Yq.lt
      have lb5 := Y5.lt
      have lb8 := Y8.lt
      clear Y8 Y5 Yq YB
      go_region
      obtain ⟨w9, e9, r9, k9, B9⟩ := end_at (.int .i64 1) (.int .i64 e) (.int .i64 t) (.int .i64 1) (.int .i64 0) (.int .i64 0) (.int .i64 v) (.string ⟨#[]⟩) v (m + SM) t 0 0 hY8.out hYB.out (by omega)
      rw [← e9]
      clear e9
      obtain ⟨⟨p0, p1, p2, p3, p4, p5, p6, p7⟩, p8⟩ := row8 r9
      have K9 := Lib.hid k9
      clear k9
      go_wp2
      (try simp only [Exit.inBlock, Exit.then]); refine bodyPost_ret (by simp [results, Try.results83, go_sem, p0, p1, p2, p3, p4, p5, p6, p7]; try rfl) rfl ?_
      exact ⟨_, rfl, by rw [HE'.out]; exact K9.out, B9.drew⟩

end Go.Proofs.Ytpooolijghbkbaa

namespace Go.Proofs.Ytpooolijghbkbaa
open Go Go.RowKit Go.Joins
set_option linter.unusedVariables false
set_option linter.unusedSimpArgs false

theorem redge_any (N D e c m p t v : Int) (z : Bool) (w : World) (h : Bt N D) (hy : c = 0 ∨ c = 1) (hv : v = 0 ∨ v = 1) (hm : 0 ≤ m ∧ m ≤ t) (ht : t ≤ 1099511627776) :
    Calls Try.prog 83 #[.agg (manA N D z), .agg (rnA 1 e m c p), .int .i64 t, .int .i64 v] w fun r w' => ∃ V, r = .returned (.tuple #[.agg (rnA 1 e (edG 0 N D c m t v).2.1 (edG 0 N D c m t v).1 v), V]) ∧ EvRow w' w.heap.size V (edG 0 N D c m t v).2.2 ∧ Below w.heap.size w w' := by
  rcases hy with rfl | rfl
  · refine (redge_idle N D e m p t v z w h hv hm ht).mono fun r w' ⟨h1, h2⟩ => ⟨.slice none 0 0, h1.trans ?_, ?_, h2⟩
    · unfold edG; rw [if_pos (show (0 : Int) = 0 ∨ 2 * N ≤ (t - m) * D from .inl rfl)]; split <;> rfl
    · unfold edG; rw [if_pos (show (0 : Int) = 0 ∨ 2 * N ≤ (t - m) * D from .inl rfl)]; split <;> exact KRow.nil _ _
  · by_cases hl : 2 * N ≤ (t - m) * D
    · have hX : Calls Try.prog 83 #[.agg (manA N D z), .agg (rnA 1 e m 1 p), .int .i64 t, .int .i64 v] w fun r w' => r = .returned (.tuple #[.agg (rnA 1 e (if v = 1 then t else m) (if v = 1 then 1 else 0) v), .slice none 0 0]) ∧ Below w.heap.size w w' := by
        by_cases hb : 4194304 ≤ t - m
        · exact redge_big N D e m p t v z w h hv hm ht hb
        · exact redge_late N D e m p t v z w h hv hm ht hb hl
      refine hX.mono fun r w' ⟨h1, h2⟩ => ⟨.slice none 0 0, h1.trans ?_, ?_, h2⟩
      · unfold edG; rw [if_pos (show (1 : Int) = 0 ∨ 2 * N ≤ (t - m) * D from .inr hl)]; split <;> rfl
      · unfold edG; rw [if_pos (show (1 : Int) = 0 ∨ 2 * N ≤ (t - m) * D from .inr hl)]; split <;> exact KRow.nil _ _
    · refine (redge_near N D e m p t v z w h hv hm ht hl).mono fun r w' ⟨V, h1, h2, h3⟩ => ⟨V, h1.trans ?_, ?_, h3⟩
      · unfold edG; rw [if_neg (show ¬ ((1 : Int) = 0 ∨ 2 * N ≤ (t - m) * D) by omega)]; split <;> rfl
      · revert h2; unfold edG; rw [if_neg (show ¬ ((1 : Int) = 0 ∨ 2 * N ≤ (t - m) * D) by omega)]; split <;> exact id

theorem snext_at {w W : World} {b3 b4 b5 b6 : Nat} {A S E Z : Array Value} (S' : Array Value) (l4 : w.heap.size ≤ b3 ∧ b3 < b4 ∧ b4 < b5 ∧ b5 < b6 ∧ b6 < W.heap.size) (r3 : RowAt W b3 59 A) (r4 : RowAt W b4 39 S) (r5 : RowAt W b5 44 E) (r6 : RowAt W b6 39 Z) (B0 : Below w.heap.size w W) : ∃ X n, X = W.alloc (.cells S' 39) ∧ n = W.heap.size ∧ (b6 < n ∧ n < X.heap.size ∧ w.heap.size ≤ n) ∧ RowAt X b3 59 A ∧ RowAt X b4 39 S ∧ RowAt X b5 44 E ∧ RowAt X b6 39 Z ∧ RowAt X n 39 S' ∧ Below w.heap.size w X :=
  ⟨_, _, rfl, rfl, ⟨l4.2.2.2.2, by simp only [World.size_alloc]; omega, B0.size⟩, r3.alloc _, r4.alloc _, r5.alloc _, r6.alloc _, RowAt.new _ _ _, B0.alloc B0.size _⟩

set_option maxRecDepth 20000 in
set_option maxHeartbeats 8000000 in
theorem rmanStep_no (N D : Int) (z : Bool) (c e m p k f t v a : Int) (s : ByteArray) (u : Int) (w : World) (h : Bt N D) (hk : ckE N D = 0) (hs : s.size ≤ 140737488351232) (hA : ¬ AcL e e k f t v a s.size u) :
    Calls Try.prog 44 #[.agg (manA N D z), .agg (rnA (phI e) e m c p), .agg (evA k f t v a s u)] w fun r w' => r = .returned (.tuple #[.agg (rnA (phI e) e m c p), .slice none 0 0]) ∧ Below w.heap.size w w' := by
  have d1 := h.d1; have d2 := h.d2; have n1 := h.n1; have n2 := h.n2
  have CK : Hid (∀ W, Calls Try.prog 35 #[.agg (manA N D z)] W fun e w' => e = .returned (.int .i64 0) ∧ Below W.heap.size W w') := Lib.hid fun W => by have := refManCheck_any N D z W (by omega) (by omega) (by omega) (by omega); rwa [hk] at this
  have CA : Hid (∀ W, Calls Try.prog 82 #[.agg (rnA (phI e) e m c p), .agg (evA k f t v a s u)] W fun r w' => r = .returned (.bool false) ∧ Below W.heap.size W w') := Lib.hid fun W => by have := racc17_any (phI e) e m c p k f t v a s u W hs; rwa [decide_eq_false (by rw [acL_ph (ph_iff e)]; exact hA)] at this
  generalize phI e = PH at *
  obtain ⟨W, b3, b4, b5, b6, eW, e6, e5, e4, e3, ⟨l3, l4, l5, l6, l0⟩, r3, r4, r5, r6, B0⟩ := mbox_at w N D z (rnA PH e m c p) k f t v a s u (rnA 0 0 0 0 0)
  have HB0 := Lib.hid B0
  have H3 := Lib.hid r3; have H4 := Lib.hid r4; have H5 := Lib.hid r5; have H6 := Lib.hid r6
  obtain ⟨a0, a1, a2⟩ := row3 r3
  clear r3 r4 r5 r6 B0
  go_enter Try.func44, Try.ntmps44
  go_wp2_with (first
    | (rw [← eW, ← e6, ← e5, ← e4, ← e3]; clear eW e6 e5 e4 e3; go_at_call 35; go_must (refine (CK.out _).mono ?_; rintro e1 w1 ⟨rfl, b1⟩; have K3 := Lib.hid (H3.out.keep b1); have K5 := Lib.hid (H5.out.keep b1); have K4 := Lib.hid (H4.out.keep b1); have K6 := Lib.hid (H6.out.keep b1); have B1 := Lib.hid (HB0.out.trans (b1.mono HB0.out.size)); obtain ⟨⟨c0, c1, c2, c3, c4, c5, c6⟩, c7⟩ := row7 K5.out; obtain ⟨⟨f0, f1, f2, f3, f4, f5, f6, f7⟩, f8⟩ := row8 K4.out))
    | (go_at_call 82; go_must (refine (CA.out _).mono ?_; rintro e2 w2 ⟨rfl, b2⟩; have L3 := Lib.hid (K3.out.keep b2); have L5 := Lib.hid (K5.out.keep b2); have L4 := Lib.hid (K4.out.keep b2); have L6 := Lib.hid (K6.out.keep b2); have B2 := Lib.hid (B1.out.trans (b2.mono B1.out.size)); have m3 := L3.out.lt; have m4 := L4.out.lt; have m5 := L5.out.lt; have m6 := L6.out.lt; obtain ⟨i0, i1, i2⟩ := row3 L3.out; obtain ⟨⟨j0, j1, j2, j3, j4, j5, j6⟩, j7⟩ := row7 L5.out; obtain ⟨⟨g0, g1, g2, g3, g4, g5, g6, g7⟩, g8⟩ := row8 L4.out))
    | (refine wpList_store_at L6.out (Nat.le_refl _) (rnA PH e m c p) (.tmp 6) (.tmp 19) 39 rfl rfl rfl rfl (by kernel_rfl) rfl rfl ?_; intro w9 r9 b9; obtain ⟨⟨p0, p1, p2, p3, p4, p5, p6, p7⟩, p8⟩ := row8 r9))
  (try simp only [Exit.inBlock, Exit.then]); refine bodyPost_ret (by simp [results, Try.results44, go_sem, p0, p1, p2, p3, p4, p5, p6, p7]; try rfl) rfl ?_
  exact ⟨rfl, B2.out.trans (b9.mono (by omega))⟩

set_option maxRecDepth 20000 in
set_option maxHeartbeats 8000000 in
theorem rmanStep_same_true (N D : Int) (c e m k f t v a : Int) (s : ByteArray) (u : Int) (w : World) (h : Bt N D) (hk : ckE N D = 0) (hs : s.size ≤ 140737488351232) (hA : AcL e e k f t v a s.size u) :
    Calls Try.prog 44 #[.agg (manA N D true), .agg (rnA (phI e) e m c v), .agg (evA k f t v a s u)] w fun r w' => r = .returned (.tuple #[.agg (rnA 1 t m c v), .slice none 0 0]) ∧ Below w.heap.size w w' := by
  have d1 := h.d1; have d2 := h.d2; have n1 := h.n1; have n2 := h.n2
  have CK : Hid (∀ W, Calls Try.prog 35 #[.agg (manA N D true)] W fun e w' => e = .returned (.int .i64 0) ∧ Below W.heap.size W w') := Lib.hid fun W => by have := refManCheck_any N D true W (by omega) (by omega) (by omega) (by omega); rwa [hk] at this
  have CA : Hid (∀ W, Calls Try.prog 82 #[.agg (rnA (phI e) e m c v), .agg (evA k f t v a s u)] W fun r w' => r = .returned (.bool true) ∧ Below W.heap.size W w') := Lib.hid fun W => by have := racc17_any (phI e) e m c v k f t v a s u W hs; rwa [decide_eq_true (by rw [acL_ph (ph_iff e)]; exact hA)] at this
  have hv := hA.2.2.2.2.1
  have q1 : IntKind.i64.wrap (1 - v) = 1 - v := IntWalk.i64_in _ (by omega)
  clear hA
  generalize phI e = PH at *
  obtain ⟨W, b3, b4, b5, b6, eW, e6, e5, e4, e3, ⟨l3, l4, l5, l6, l0⟩, r3, r4, r5, r6, B0⟩ := mbox_at w N D true (rnA PH e m c v) k f t v a s u (rnA 0 0 0 0 0)
  have HB0 := Lib.hid B0
  have H3 := Lib.hid r3; have H4 := Lib.hid r4; have H5 := Lib.hid r5; have H6 := Lib.hid r6
  obtain ⟨a0, a1, a2⟩ := row3 r3
  clear r3 r4 r5 r6 B0
  go_enter Try.func44, Try.ntmps44
  go_wp2_with (first
    | (rw [← eW, ← e6, ← e5, ← e4, ← e3]; clear eW e6 e5 e4 e3; go_at_call 35; go_must (refine (CK.out _).mono ?_; rintro e1 w1 ⟨rfl, b1⟩; have K3 := Lib.hid (H3.out.keep b1); have K5 := Lib.hid (H5.out.keep b1); have K4 := Lib.hid (H4.out.keep b1); have K6 := Lib.hid (H6.out.keep b1); have B1 := Lib.hid (HB0.out.trans (b1.mono HB0.out.size)); obtain ⟨⟨c0, c1, c2, c3, c4, c5, c6⟩, c7⟩ := row7 K5.out; obtain ⟨⟨f0, f1, f2, f3, f4, f5, f6, f7⟩, f8⟩ := row8 K4.out))
    | (go_at_call 82; go_must (refine (CA.out _).mono ?_; rintro e2 w2 ⟨rfl, b2⟩; have L3 := Lib.hid (K3.out.keep b2); have L5 := Lib.hid (K5.out.keep b2); have L4 := Lib.hid (K4.out.keep b2); have L6 := Lib.hid (K6.out.keep b2); have B2 := Lib.hid (B1.out.trans (b2.mono B1.out.size)); have m3 := L3.out.lt; have m4 := L4.out.lt; have m5 := L5.out.lt; have m6 := L6.out.lt; obtain ⟨i0, i1, i2⟩ := row3 L3.out; obtain ⟨⟨j0, j1, j2, j3, j4, j5, j6⟩, j7⟩ := row7 L5.out; obtain ⟨⟨g0, g1, g2, g3, g4, g5, g6, g7⟩, g8⟩ := row8 L4.out))
    | (refine wpList_store_at (L6.out.alloc _) (Nat.le_refl _) (rnA 1 t m c v) (.tmp 6) (.tmp 36) 39 rfl rfl rfl rfl (by kernel_rfl) rfl rfl ?_; intro w9 r9 b9; obtain ⟨⟨p0, p1, p2, p3, p4, p5, p6, p7⟩, p8⟩ := row8 r9))
  (try simp only [Exit.inBlock, Exit.then]); refine bodyPost_ret (by simp [results, Try.results44, go_sem, p0, p1, p2, p3, p4, p5, p6, p7]; try rfl) rfl ?_
  exact ⟨rfl, (B2.out.alloc B2.out.size _).trans (b9.mono (by omega))⟩

set_option maxRecDepth 20000 in
set_option maxHeartbeats 8000000 in
theorem rmanStep_turn_true (N D : Int) (c e m p k f t v a : Int) (s : ByteArray) (u : Int) (w : World) (h : Bt N D) (hk : ckE N D = 0) (hs : s.size ≤ 140737488351232) (hA : AcL e e k f t v a s.size u) (hp : v ≠ p) (hs' : RcN ⟨c, e, m, p, []⟩) :
    Calls Try.prog 44 #[.agg (manA N D true), .agg (rnA (phI e) e m c p), .agg (evA k f t v a s u)] w fun r w' => ∃ V, r = .returned (.tuple #[.agg (rnA 1 t (edG 0 N D c m f v).2.1 (edG 0 N D c m f v).1 v), V]) ∧ EvRow w' w.heap.size V (edG 0 N D c m f v).2.2 ∧ Below w.heap.size w w' := by
  have d1 := h.d1; have d2 := h.d2; have n1 := h.n1; have n2 := h.n2
  have CK : Hid (∀ W, Calls Try.prog 35 #[.agg (manA N D true)] W fun e w' => e = .returned (.int .i64 0) ∧ Below W.heap.size W w') := Lib.hid fun W => by have := refManCheck_any N D true W (by omega) (by omega) (by omega) (by omega); rwa [hk] at this
  have CA : Hid (∀ W, Calls Try.prog 82 #[.agg (rnA (phI e) e m c p), .agg (evA k f t v a s u)] W fun r w' => r = .returned (.bool true) ∧ Below W.heap.size W w') := Lib.hid fun W => by have := racc17_any (phI e) e m c p k f t v a s u W hs; rwa [decide_eq_true (by rw [acL_ph (ph_iff e)]; exact hA)] at this
  have hv := hA.2.2.2.2.1
  have q1 : IntKind.i64.wrap (1 - v) = 1 - v := IntWalk.i64_in _ (by omega)
  have hpp : ((v : Int) == p) = false := by simpa using hp
  obtain ⟨x1, x2, x3, _⟩ := acN_bd (e := ⟨k, f, t, v, a, s.data.toList, u⟩) hs' (by unfold AcN; rw [show s.data.toList.length = s.size from Array.length_toList]; exact hA)
  simp only at x1 x2 x3
  have CE : Hid (∀ W, Calls Try.prog 83 #[.agg (manA N D true), .agg (rnA 1 t m c p), .int .i64 f, .int .i64 v] W fun r w' => ∃ V, r = .returned (.tuple #[.agg (rnA 1 t (edG 0 N D c m f v).2.1 (edG 0 N D c m f v).1 v), V]) ∧ EvRow w' W.heap.size V (edG 0 N D c m f v).2.2 ∧ Below W.heap.size W w') := Lib.hid fun W => redge_any N D t c m p f v true W h hs'.y (by omega) ⟨hs'.m.1, by have := hs'.m.2; simp only at this; omega⟩ (by omega)
  generalize (edG 0 N D c m f v).1 = Y1 at *
  generalize (edG 0 N D c m f v).2.1 = M1 at *
  generalize (edG 0 N D c m f v).2.2 = O1 at *
  clear hA hs'
  generalize phI e = PH at *
  obtain ⟨W, b3, b4, b5, b6, eW, e6, e5, e4, e3, ⟨l3, l4, l5, l6, l0⟩, r3, r4, r5, r6, B0⟩ := mbox_at w N D true (rnA PH e m c p) k f t v a s u (rnA 0 0 0 0 0)
  have HB0 := Lib.hid B0
  have H3 := Lib.hid r3; have H4 := Lib.hid r4; have H5 := Lib.hid r5; have H6 := Lib.hid r6
  obtain ⟨a0, a1, a2⟩ := row3 r3
  clear r3 r4 r5 r6 B0
  go_enter Try.func44, Try.ntmps44
  go_wp2_with (first
    | (rw [← eW, ← e6, ← e5, ← e4, ← e3]; clear eW e6 e5 e4 e3; go_at_call 35; go_must (refine (CK.out _).mono ?_; rintro e1 w1 ⟨rfl, b1⟩; have K3 := Lib.hid (H3.out.keep b1); have K5 := Lib.hid (H5.out.keep b1); have K4 := Lib.hid (H4.out.keep b1); have K6 := Lib.hid (H6.out.keep b1); have B1 := Lib.hid (HB0.out.trans (b1.mono HB0.out.size)); obtain ⟨⟨c0, c1, c2, c3, c4, c5, c6⟩, c7⟩ := row7 K5.out; obtain ⟨⟨f0, f1, f2, f3, f4, f5, f6, f7⟩, f8⟩ := row8 K4.out))
    | (go_at_call 82; go_must (refine (CA.out _).mono ?_; rintro e2 w2 ⟨rfl, b2⟩; have L3 := Lib.hid (K3.out.keep b2); have L5 := Lib.hid (K5.out.keep b2); have L4 := Lib.hid (K4.out.keep b2); have L6 := Lib.hid (K6.out.keep b2); have B2 := Lib.hid (B1.out.trans (b2.mono B1.out.size)); have m3 := L3.out.lt; have m4 := L4.out.lt; have m5 := L5.out.lt; have m6 := L6.out.lt; obtain ⟨i0, i1, i2⟩ := row3 L3.out; obtain ⟨⟨j0, j1, j2, j3, j4, j5, j6⟩, j7⟩ := row7 L5.out; obtain ⟨⟨g0, g1, g2, g3, g4, g5, g6, g7⟩, g8⟩ := row8 L4.out))
    | (go_at_call 83; go_must (refine (CE.out _).mono ?_; rintro e4 w4 ⟨V4, rfl, v4, b4'⟩; obtain ⟨VA, VN, VC, rfl, hVN⟩ := v4.form; clear hVN; have P6 := Lib.hid ((L6.out.alloc _).keep b4'); have P0 := Lib.hid ((B2.out.alloc B2.out.size _).trans (b4'.mono (B2.out.alloc B2.out.size _).size)); have PV := Lib.hid v4))
    | (refine wpList_store_kp P6.out (rnA 1 t M1 Y1 v) (.tmp 6) (.tmp 43) 39 rfl rfl rfl rfl (by kernel_rfl) rfl rfl ?_; intro w9 r9 k9; obtain ⟨⟨p0, p1, p2, p3, p4, p5, p6, p7⟩, p8⟩ := row8 r9))
  (try simp only [Exit.inBlock, Exit.then]); refine bodyPost_ret (by simp [results, Try.results44, go_sem, p0, p1, p2, p3, p4, p5, p6, p7]; try rfl) rfl ?_
  exact ⟨_, rfl, (PV.out.kp k9 (fun g hg hx => by have := (PV.out.lt g hg).1; rw [World.size_alloc] at this; simp only [List.mem_singleton] at hx; omega)).mono (B2.out.alloc B2.out.size (.cells (rnA 1 t m c p) 39)).size, P0.out.trans (k9.below (by simp only [List.mem_singleton]; intro k hk; omega) P0.out.size)⟩

set_option maxRecDepth 20000 in
set_option maxHeartbeats 8000000 in
theorem rmanStep_same_false (N D : Int) (c e m k f t v a : Int) (s : ByteArray) (u : Int) (w : World) (h : Bt N D) (hk : ckE N D = 0) (hs : s.size ≤ 140737488351232) (hA : AcL e e k f t v a s.size u) :
    Calls Try.prog 44 #[.agg (manA N D false), .agg (rnA (phI e) e m c (1 - v)), .agg (evA k f t v a s u)] w fun r w' => r = .returned (.tuple #[.agg (rnA 1 t m c (1 - v)), .slice none 0 0]) ∧ Below w.heap.size w w' := by
  have d1 := h.d1; have d2 := h.d2; have n1 := h.n1; have n2 := h.n2
  have CK : Hid (∀ W, Calls Try.prog 35 #[.agg (manA N D false)] W fun e w' => e = .returned (.int .i64 0) ∧ Below W.heap.size W w') := Lib.hid fun W => by have := refManCheck_any N D false W (by omega) (by omega) (by omega) (by omega); rwa [hk] at this
  have CA : Hid (∀ W, Calls Try.prog 82 #[.agg (rnA (phI e) e m c (1 - v)), .agg (evA k f t v a s u)] W fun r w' => r = .returned (.bool true) ∧ Below W.heap.size W w') := Lib.hid fun W => by have := racc17_any (phI e) e m c (1 - v) k f t v a s u W hs; rwa [decide_eq_true (by rw [acL_ph (ph_iff e)]; exact hA)] at this
  have hv := hA.2.2.2.2.1
  have q1 : IntKind.i64.wrap (1 - v) = 1 - v := IntWalk.i64_in _ (by omega)
  clear hA
  generalize phI e = PH at *
  obtain ⟨W, b3, b4, b5, b6, eW, e6, e5, e4, e3, ⟨l3, l4, l5, l6, l0⟩, r3, r4, r5, r6, B0⟩ := mbox_at w N D false (rnA PH e m c (1 - v)) k f t v a s u (rnA 0 0 0 0 0)
  have HB0 := Lib.hid B0
  have H3 := Lib.hid r3; have H4 := Lib.hid r4; have H5 := Lib.hid r5; have H6 := Lib.hid r6
  obtain ⟨a0, a1, a2⟩ := row3 r3
  clear r3 r4 r5 r6 B0
  go_enter Try.func44, Try.ntmps44
  go_wp2_with (first
    | (rw [← eW, ← e6, ← e5, ← e4, ← e3]; clear eW e6 e5 e4 e3; go_at_call 35; go_must (refine (CK.out _).mono ?_; rintro e1 w1 ⟨rfl, b1⟩; have K3 := Lib.hid (H3.out.keep b1); have K5 := Lib.hid (H5.out.keep b1); have K4 := Lib.hid (H4.out.keep b1); have K6 := Lib.hid (H6.out.keep b1); have B1 := Lib.hid (HB0.out.trans (b1.mono HB0.out.size)); obtain ⟨⟨c0, c1, c2, c3, c4, c5, c6⟩, c7⟩ := row7 K5.out; obtain ⟨⟨f0, f1, f2, f3, f4, f5, f6, f7⟩, f8⟩ := row8 K4.out))
    | (go_at_call 82; go_must (refine (CA.out _).mono ?_; rintro e2 w2 ⟨rfl, b2⟩; have L3 := Lib.hid (K3.out.keep b2); have L5 := Lib.hid (K5.out.keep b2); have L4 := Lib.hid (K4.out.keep b2); have L6 := Lib.hid (K6.out.keep b2); have B2 := Lib.hid (B1.out.trans (b2.mono B1.out.size)); have m3 := L3.out.lt; have m4 := L4.out.lt; have m5 := L5.out.lt; have m6 := L6.out.lt; obtain ⟨i0, i1, i2⟩ := row3 L3.out; obtain ⟨⟨j0, j1, j2, j3, j4, j5, j6⟩, j7⟩ := row7 L5.out; obtain ⟨⟨g0, g1, g2, g3, g4, g5, g6, g7⟩, g8⟩ := row8 L4.out))
    | (refine wpList_store_at (L6.out.alloc _) (Nat.le_refl _) (rnA 1 t m c (1 - v)) (.tmp 6) (.tmp 36) 39 rfl rfl rfl rfl (by kernel_rfl) rfl rfl ?_; intro w9 r9 b9; obtain ⟨⟨p0, p1, p2, p3, p4, p5, p6, p7⟩, p8⟩ := row8 r9))
  (try simp only [Exit.inBlock, Exit.then]); refine bodyPost_ret (by simp [results, Try.results44, go_sem, p0, p1, p2, p3, p4, p5, p6, p7]; try rfl) rfl ?_
  exact ⟨rfl, (B2.out.alloc B2.out.size _).trans (b9.mono (by omega))⟩

set_option maxRecDepth 20000 in
set_option maxHeartbeats 8000000 in
theorem rmanStep_turn_false (N D : Int) (c e m p k f t v a : Int) (s : ByteArray) (u : Int) (w : World) (h : Bt N D) (hk : ckE N D = 0) (hs : s.size ≤ 140737488351232) (hA : AcL e e k f t v a s.size u) (hp : (1 - v) ≠ p) (hs' : RcN ⟨c, e, m, p, []⟩) :
    Calls Try.prog 44 #[.agg (manA N D false), .agg (rnA (phI e) e m c p), .agg (evA k f t v a s u)] w fun r w' => ∃ V, r = .returned (.tuple #[.agg (rnA 1 t (edG 0 N D c m f (1 - v)).2.1 (edG 0 N D c m f (1 - v)).1 (1 - v)), V]) ∧ EvRow w' w.heap.size V (edG 0 N D c m f (1 - v)).2.2 ∧ Below w.heap.size w w' := by
  have d1 := h.d1; have d2 := h.d2; have n1 := h.n1; have n2 := h.n2
  have CK : Hid (∀ W, Calls Try.prog 35 #[.agg (manA N D false)] W fun e w' => e = .returned (.int .i64 0) ∧ Below W.heap.size W w') := Lib.hid fun W => by have := refManCheck_any N D false W (by omega) (by omega) (by omega) (by omega); rwa [hk] at this
  have CA : Hid (∀ W, Calls Try.prog 82 #[.agg (rnA (phI e) e m c p), .agg (evA k f t v a s u)] W fun r w' => r = .returned (.bool true) ∧ Below W.heap.size W w') := Lib.hid fun W => by have := racc17_any (phI e) e m c p k f t v a s u W hs; rwa [decide_eq_true (by rw [acL_ph (ph_iff e)]; exact hA)] at this
  have hv := hA.2.2.2.2.1
  have q1 : IntKind.i64.wrap (1 - v) = 1 - v := IntWalk.i64_in _ (by omega)
  have hpp : (((1 - v) : Int) == p) = false := by simpa using hp
  obtain ⟨x1, x2, x3, _⟩ := acN_bd (e := ⟨k, f, t, v, a, s.data.toList, u⟩) hs' (by unfold AcN; rw [show s.data.toList.length = s.size from Array.length_toList]; exact hA)
  simp only at x1 x2 x3
  have CE : Hid (∀ W, Calls Try.prog 83 #[.agg (manA N D false), .agg (rnA 1 t m c p), .int .i64 f, .int .i64 (1 - v)] W fun r w' => ∃ V, r = .returned (.tuple #[.agg (rnA 1 t (edG 0 N D c m f (1 - v)).2.1 (edG 0 N D c m f (1 - v)).1 (1 - v)), V]) ∧ EvRow w' W.heap.size V (edG 0 N D c m f (1 - v)).2.2 ∧ Below W.heap.size W w') := Lib.hid fun W => redge_any N D t c m p f (1 - v) false W h hs'.y (by omega) ⟨hs'.m.1, by have := hs'.m.2; simp only at this; omega⟩ (by omega)
  generalize (edG 0 N D c m f (1 - v)).1 = Y1 at *
  generalize (edG 0 N D c m f (1 - v)).2.1 = M1 at *
  generalize (edG 0 N D c m f (1 - v)).2.2 = O1 at *
  clear hA hs'
  generalize phI e = PH at *
  obtain ⟨W, b3, b4, b5, b6, eW, e6, e5, e4, e3, ⟨l3, l4, l5, l6, l0⟩, r3, r4, r5, r6, B0⟩ := mbox_at w N D false (rnA PH e m c p) k f t v a s u (rnA 0 0 0 0 0)
  have HB0 := Lib.hid B0
  have H3 := Lib.hid r3; have H4 := Lib.hid r4; have H5 := Lib.hid r5; have H6 := Lib.hid r6
  obtain ⟨a0, a1, a2⟩ := row3 r3
  clear r3 r4 r5 r6 B0
  go_enter Try.func44, Try.ntmps44
  go_wp2_with (first
    | (rw [← eW, ← e6, ← e5, ← e4, ← e3]; clear eW e6 e5 e4 e3; go_at_call 35; go_must (refine (CK.out _).mono ?_; rintro e1 w1 ⟨rfl, b1⟩; have K3 := Lib.hid (H3.out.keep b1); have K5 := Lib.hid (H5.out.keep b1); have K4 := Lib.hid (H4.out.keep b1); have K6 := Lib.hid (H6.out.keep b1); have B1 := Lib.hid (HB0.out.trans (b1.mono HB0.out.size)); obtain ⟨⟨c0, c1, c2, c3, c4, c5, c6⟩, c7⟩ := row7 K5.out; obtain ⟨⟨f0, f1, f2, f3, f4, f5, f6, f7⟩, f8⟩ := row8 K4.out))
    | (go_at_call 82; go_must (refine (CA.out _).mono ?_; rintro e2 w2 ⟨rfl, b2⟩; have L3 := Lib.hid (K3.out.keep b2); have L5 := Lib.hid (K5.out.keep b2); have L4 := Lib.hid (K4.out.keep b2); have L6 := Lib.hid (K6.out.keep b2); have B2 := Lib.hid (B1.out.trans (b2.mono B1.out.size)); have m3 := L3.out.lt; have m4 := L4.out.lt; have m5 := L5.out.lt; have m6 := L6.out.lt; obtain ⟨i0, i1, i2⟩ := row3 L3.out; obtain ⟨⟨j0, j1, j2, j3, j4, j5, j6⟩, j7⟩ := row7 L5.out; obtain ⟨⟨g0, g1, g2, g3, g4, g5, g6, g7⟩, g8⟩ := row8 L4.out))
    | (go_at_call 83; go_must (refine (CE.out _).mono ?_; rintro e4 w4 ⟨V4, rfl, v4, b4'⟩; obtain ⟨VA, VN, VC, rfl, hVN⟩ := v4.form; clear hVN; have P6 := Lib.hid ((L6.out.alloc _).keep b4'); have P0 := Lib.hid ((B2.out.alloc B2.out.size _).trans (b4'.mono (B2.out.alloc B2.out.size _).size)); have PV := Lib.hid v4))
    | (refine wpList_store_kp P6.out (rnA 1 t M1 Y1 (1 - v)) (.tmp 6) (.tmp 43) 39 rfl rfl rfl rfl (by kernel_rfl) rfl rfl ?_; intro w9 r9 k9; obtain ⟨⟨p0, p1, p2, p3, p4, p5, p6, p7⟩, p8⟩ := row8 r9))
  (try simp only [Exit.inBlock, Exit.then]); refine bodyPost_ret (by simp [results, Try.results44, go_sem, p0, p1, p2, p3, p4, p5, p6, p7]; try rfl) rfl ?_
  exact ⟨_, rfl, (PV.out.kp k9 (fun g hg hx => by have := (PV.out.lt g hg).1; rw [World.size_alloc] at this; simp only [List.mem_singleton] at hx; omega)).mono (B2.out.alloc B2.out.size (.cells (rnA 1 t m c p) 39)).size, P0.out.trans (k9.below (by simp only [List.mem_singleton]; intro k hk; omega) P0.out.size)⟩

end Go.Proofs.Ytpooolijghbkbaa

namespace Go.Proofs.Ytpooolijghbkbaa
open Go Go.RowKit Go.Joins
set_option linter.unusedVariables false
set_option linter.unusedSimpArgs false

theorem rmanStep_any (N D : Int) (z : Bool) (s : MN) (x : Ev) (w : World) (h : Bt N D) (hk : ckE N D = 0) (hs : RcN s) (hd : x.d.length ≤ 140737488351232) :
    Calls Try.prog 44 #[.agg (manA N D z), .agg (rnA (phI s.e) s.e s.m s.y s.p), .agg (evA x.k x.f x.t x.v x.a ⟨x.d.toArray⟩ x.u)] w fun r w' => ∃ V, r = .returned (.tuple #[.agg (rnA (phI (rnS z N D ⟨s.y, s.e, s.m, s.p, []⟩ x).e) (rnS z N D ⟨s.y, s.e, s.m, s.p, []⟩ x).e (rnS z N D ⟨s.y, s.e, s.m, s.p, []⟩ x).m (rnS z N D ⟨s.y, s.e, s.m, s.p, []⟩ x).y (rnS z N D ⟨s.y, s.e, s.m, s.p, []⟩ x).p), V]) ∧ EvRow w' w.heap.size V (rnS z N D ⟨s.y, s.e, s.m, s.p, []⟩ x).o ∧ Below w.heap.size w w' := by
  have hsz : (⟨x.d.toArray⟩ : ByteArray).size ≤ 140737488351232 := by simpa [ByteArray.size] using hd
  have hz : (⟨x.d.toArray⟩ : ByteArray).size = x.d.length := by simp [ByteArray.size]
  unfold rnS
  by_cases hA : AcL s.e s.e x.k x.f x.t x.v x.a x.d.length x.u
  · have hA' := hA
    rw [← hz] at hA'
    have hph : phI x.t = 1 := by
      obtain ⟨_, a1, _, _⟩ := acN_bd (s := ⟨s.y, s.e, s.m, s.p, []⟩) ⟨hs.y, hs.m, hs.e, hs.p⟩ hA
      have := hs.m; have a0 := (acN_bd (s := ⟨s.y, s.e, s.m, s.p, []⟩) ⟨hs.y, hs.m, hs.e, hs.p⟩ hA).1
      simp only at a0
      unfold phI; rw [if_neg (by omega)]
    rw [if_pos (show AcN ⟨s.y, s.e, s.m, s.p, []⟩ x from hA)]
    by_cases hp : sgI z x.v = s.p
    · rw [if_pos (show sgI z x.v = (⟨s.y, s.e, s.m, s.p, []⟩ : MN).p from hp)]
      simp only [hph]
      cases z
      · have hp' : s.p = 1 - x.v := by rw [← hp]; rfl
        rw [hp']
        exact (rmanStep_same_false N D s.y s.e s.m x.k x.f x.t x.v x.a _ x.u w h hk hsz hA').mono fun r w' ⟨h1, h2⟩ => ⟨.slice none 0 0, h1, KRow.nil _ _, h2⟩
      · have hp' : s.p = x.v := by rw [← hp]; rfl
        rw [hp']
        exact (rmanStep_same_true N D s.y s.e s.m x.k x.f x.t x.v x.a _ x.u w h hk hsz hA').mono fun r w' ⟨h1, h2⟩ => ⟨.slice none 0 0, h1, KRow.nil _ _, h2⟩
    · rw [if_neg (show ¬ sgI z x.v = (⟨s.y, s.e, s.m, s.p, []⟩ : MN).p from hp)]
      simp only [hph, List.nil_append]
      cases z
      · exact rmanStep_turn_false N D s.y s.e s.m s.p x.k x.f x.t x.v x.a _ x.u w h hk hsz hA' hp ⟨hs.y, hs.m, hs.e, hs.p⟩
      · exact rmanStep_turn_true N D s.y s.e s.m s.p x.k x.f x.t x.v x.a _ x.u w h hk hsz hA' hp ⟨hs.y, hs.m, hs.e, hs.p⟩
  · have hA' := hA
    rw [← hz] at hA'
    rw [if_neg (show ¬ AcN ⟨s.y, s.e, s.m, s.p, []⟩ x from hA)]
    exact (rmanStep_no N D z s.y s.e s.m s.p x.k x.f x.t x.v x.a _ x.u w h hk hsz hA').mono fun r w' ⟨h1, h2⟩ => ⟨.slice none 0 0, h1, KRow.nil _ _, h2⟩

theorem one_mbox (w : World) (N D : Int) (z : Bool) : ∃ W b2, W = w.alloc (.cells (manA N D z) 59) ∧ b2 = w.heap.size ∧ b2 < W.heap.size ∧ RowAt W b2 59 (manA N D z) ∧ Below w.heap.size w W :=
  ⟨_, _, rfl, rfl, by rw [World.size_alloc]; omega, RowAt.new w _ _, ba _ _⟩
/-- An empty slice, and behind it a new state. -/
theorem mnew_state {w w1 : World} (S : Array Value) (hb : Below w.heap.size w w1) : ∃ W b5, W = (w1.alloc (.cells #[] 44)).alloc (.cells S 39) ∧ b5 = w1.heap.size + 1 ∧ b5 < W.heap.size ∧ w1.heap.size ≠ b5 ∧ W.heap.size = w1.heap.size + 2 ∧ RowAt W b5 39 S ∧ EvRow W w1.heap.size (.slice (some ⟨w1.heap.size, 0, none⟩) 0 0) [] ∧ Below w1.heap.size w1 W ∧ Below w.heap.size w W := by
  refine ⟨_, _, rfl, rfl, by simp only [World.size_alloc]; omega, by omega, by simp only [World.size_alloc], RowAt.at (by rw [World.size_alloc]), ?_, (ba _ _).alloc (by rw [World.size_alloc]; omega) _, (hb.alloc hb.size _).alloc (by rw [World.size_alloc]; have := hb.size; omega) _⟩
  exact (KRow.lit evC_size w1 w1.heap.size (Nat.le_refl _) [] #[] rfl 0 rfl (by decide)).alloc _
/-- Behind a step's region: the next state in a box of its own, the bits in a row of the call's own. -/
def NxM (wr W : World) (b : Nat) (S : Array Value) (V : Value) (x : List Ev) : Prop := RowAt W b 39 S ∧ Below wr.heap.size wr W ∧ wr.heap.size ≤ b ∧ b < W.heap.size ∧ EvRow W wr.heap.size V x
theorem mway_one {wr w9 : World} {B : Nat} {V : Value} {x : List Ev} (S : Array Value) (hB : wr.heap.size ≤ B) (b9 : Below wr.heap.size wr w9) (v9 : EvRow w9 B V x) : ∃ W8 b8, W8 = w9.alloc (.cells S 39) ∧ b8 = w9.heap.size ∧ NxM wr W8 b8 S V x :=
  ⟨_, _, rfl, rfl, RowAt.new _ _ _, b9.alloc b9.size _, b9.size, by rw [World.size_alloc]; omega, (v9.alloc _).mono hB⟩
theorem mway_two {wr w9 : World} {B : Nat} {V : Value} {x : List Ev} (s0 s1 s2 s3 s6 : Int) (hB : wr.heap.size < B) (b9 : Below wr.heap.size wr w9) (v9 : EvRow w9 B V x) (r9 : RowAt w9 wr.heap.size 39 (rnA 0 0 0 0 0)) : ∃ W8 b8, W8 = ((((((((w9.setCell ⟨wr.heap.size, 0, none⟩ (.int .i64 s0)).setCell ⟨wr.heap.size, 1, none⟩ (.int .i64 s1)).setCell ⟨wr.heap.size, 2, none⟩ (.int .i64 s2)).setCell ⟨wr.heap.size, 3, none⟩ (.int .i64 s3)).setCell ⟨wr.heap.size, 4, none⟩ (.int .i64 0)).setCell ⟨wr.heap.size, 5, none⟩ (.int .i64 0)).setCell ⟨wr.heap.size, 6, none⟩ (.int .i64 s6)).setCell ⟨wr.heap.size, 7, none⟩ (.string ⟨#[]⟩)) ∧ b8 = wr.heap.size ∧ NxM wr W8 b8 (rnA s0 s1 s2 s3 s6) V x := by
  have hb : ∀ W, Below wr.heap.size wr W → ∀ j u, Below wr.heap.size wr (W.setCell ⟨wr.heap.size, j, none⟩ u) := fun W h j u => h.setCell (Nat.le_refl _) _
  have hk : ∀ W, Kp [wr.heap.size] w9 W → ∀ j u, Kp [wr.heap.size] w9 (W.setCell ⟨wr.heap.size, j, none⟩ u) := fun W h j u => h.setCell (.inl (by simp)) _
  refine ⟨_, _, rfl, rfl, set8 r9, hb _ (hb _ (hb _ (hb _ (hb _ (hb _ (hb _ (hb _ b9 _ _) _ _) _ _) _ _) _ _) _ _) _ _) _ _, Nat.le_refl _, by have := r9.lt; simp only [World.size_setCell]; omega, ?_⟩
  refine (KRow.kp v9 (hk _ (hk _ (hk _ (hk _ (hk _ (hk _ (hk _ (hk _ (Kp.refl _ _) _ _) _ _) _ _) _ _) _ _) _ _) _ _) _ _) fun g hg hx => ?_).mono (Nat.le_of_lt hB)
  have := v9.lt g hg
  simp only [List.mem_singleton] at hx
  omega
theorem mrow_drew {w : World} {b : Nat} {T : TypeId} {cs : Array Value} (h : RowAt w b T cs) : RowAt w.drew b T cs := h
theorem held17 {wr W W' : World} {z : Bool} {b2 b5 g O : Nat} {N D s0 s1 s2 s3 s6 x0 x1 x2 x3 x4 x6 : Int} {x5 : ByteArray} (h : (W.cell? ⟨b2, 0, none⟩ = some (.int .i64 N) ∧ W.cell? ⟨b2, 1, none⟩ = some (.int .i64 D) ∧ W.cell? ⟨b2, 2, none⟩ = some (.bool z)) ∧ (W.cell? ⟨b5, 0, none⟩ = some (.int .i64 s0) ∧ W.cell? ⟨b5, 1, none⟩ = some (.int .i64 s1) ∧ W.cell? ⟨b5, 2, none⟩ = some (.int .i64 s2) ∧ W.cell? ⟨b5, 3, none⟩ = some (.int .i64 s3) ∧ W.cell? ⟨b5, 4, none⟩ = some (.int .i64 0) ∧ W.cell? ⟨b5, 5, none⟩ = some (.int .i64 0) ∧ W.cell? ⟨b5, 6, none⟩ = some (.int .i64 s6) ∧ W.cell? ⟨b5, 7, none⟩ = some (.string ⟨#[]⟩)) ∧ (W.cell? ⟨g, O, none⟩ = some (.int .i64 x0) ∧ W.cell? ⟨g, O + 1, none⟩ = some (.int .i64 x1) ∧ W.cell? ⟨g, O + 2, none⟩ = some (.int .i64 x2) ∧ W.cell? ⟨g, O + 3, none⟩ = some (.int .i64 x3) ∧ W.cell? ⟨g, O + 4, none⟩ = some (.int .i64 x4) ∧ W.cell? ⟨g, O + 5, none⟩ = some (.string x5) ∧ W.cell? ⟨g, O + 6, none⟩ = some (.int .i64 x6)) ∧ wr.heap.size ≤ W.heap.size ∧ Below wr.heap.size wr W) (hb : Below wr.heap.size W W') (m2 : b2 < wr.heap.size) (m5 : b5 < wr.heap.size) (mg : g < wr.heap.size) : (W'.cell? ⟨b2, 0, none⟩ = some (.int .i64 N) ∧ W'.cell? ⟨b2, 1, none⟩ = some (.int .i64 D) ∧ W'.cell? ⟨b2, 2, none⟩ = some (.bool z)) ∧ (W'.cell? ⟨b5, 0, none⟩ = some (.int .i64 s0) ∧ W'.cell? ⟨b5, 1, none⟩ = some (.int .i64 s1) ∧ W'.cell? ⟨b5, 2, none⟩ = some (.int .i64 s2) ∧ W'.cell? ⟨b5, 3, none⟩ = some (.int .i64 s3) ∧ W'.cell? ⟨b5, 4, none⟩ = some (.int .i64 0) ∧ W'.cell? ⟨b5, 5, none⟩ = some (.int .i64 0) ∧ W'.cell? ⟨b5, 6, none⟩ = some (.int .i64 s6) ∧ W'.cell? ⟨b5, 7, none⟩ = some (.string ⟨#[]⟩)) ∧ (W'.cell? ⟨g, O, none⟩ = some (.int .i64 x0) ∧ W'.cell? ⟨g, O + 1, none⟩ = some (.int .i64 x1) ∧ W'.cell? ⟨g, O + 2, none⟩ = some (.int .i64 x2) ∧ W'.cell? ⟨g, O + 3, none⟩ = some (.int .i64 x3) ∧ W'.cell? ⟨g, O + 4, none⟩ = some (.int .i64 x4) ∧ W'.cell? ⟨g, O + 5, none⟩ = some (.string x5) ∧ W'.cell? ⟨g, O + 6, none⟩ = some (.int .i64 x6)) ∧ wr.heap.size ≤ W'.heap.size ∧ Below wr.heap.size wr W' := by
  obtain ⟨⟨a0, a1, a2⟩, ⟨c0, c1, c2, c3, c4, c5, c6, c7⟩, ⟨d0, d1, d2, d3, d4, d5, d6⟩, hz, B⟩ := h
  exact ⟨⟨(hb.cell m2).trans a0, (hb.cell m2).trans a1, (hb.cell m2).trans a2⟩, ⟨(hb.cell m5).trans c0, (hb.cell m5).trans c1, (hb.cell m5).trans c2, (hb.cell m5).trans c3, (hb.cell m5).trans c4, (hb.cell m5).trans c5, (hb.cell m5).trans c6, (hb.cell m5).trans c7⟩, ⟨(hb.cell mg).trans d0, (hb.cell mg).trans d1, (hb.cell mg).trans d2, (hb.cell mg).trans d3, (hb.cell mg).trans d4, (hb.cell mg).trans d5, (hb.cell mg).trans d6⟩, by have := hb.size; omega, B.trans hb⟩
theorem held17set {wr W : World} {c j : Nat} {u : Value} {z : Bool} {b2 b5 g O : Nat} {N D s0 s1 s2 s3 s6 x0 x1 x2 x3 x4 x6 : Int} {x5 : ByteArray} (h : (W.cell? ⟨b2, 0, none⟩ = some (.int .i64 N) ∧ W.cell? ⟨b2, 1, none⟩ = some (.int .i64 D) ∧ W.cell? ⟨b2, 2, none⟩ = some (.bool z)) ∧ (W.cell? ⟨b5, 0, none⟩ = some (.int .i64 s0) ∧ W.cell? ⟨b5, 1, none⟩ = some (.int .i64 s1) ∧ W.cell? ⟨b5, 2, none⟩ = some (.int .i64 s2) ∧ W.cell? ⟨b5, 3, none⟩ = some (.int .i64 s3) ∧ W.cell? ⟨b5, 4, none⟩ = some (.int .i64 0) ∧ W.cell? ⟨b5, 5, none⟩ = some (.int .i64 0) ∧ W.cell? ⟨b5, 6, none⟩ = some (.int .i64 s6) ∧ W.cell? ⟨b5, 7, none⟩ = some (.string ⟨#[]⟩)) ∧ (W.cell? ⟨g, O, none⟩ = some (.int .i64 x0) ∧ W.cell? ⟨g, O + 1, none⟩ = some (.int .i64 x1) ∧ W.cell? ⟨g, O + 2, none⟩ = some (.int .i64 x2) ∧ W.cell? ⟨g, O + 3, none⟩ = some (.int .i64 x3) ∧ W.cell? ⟨g, O + 4, none⟩ = some (.int .i64 x4) ∧ W.cell? ⟨g, O + 5, none⟩ = some (.string x5) ∧ W.cell? ⟨g, O + 6, none⟩ = some (.int .i64 x6)) ∧ wr.heap.size ≤ W.heap.size ∧ Below wr.heap.size wr W) (hc : wr.heap.size ≤ c) (m2 : b2 < wr.heap.size) (m5 : b5 < wr.heap.size) (mg : g < wr.heap.size) : ((W.setCell ⟨c, j, none⟩ u).cell? ⟨b2, 0, none⟩ = some (.int .i64 N) ∧ (W.setCell ⟨c, j, none⟩ u).cell? ⟨b2, 1, none⟩ = some (.int .i64 D) ∧ (W.setCell ⟨c, j, none⟩ u).cell? ⟨b2, 2, none⟩ = some (.bool z)) ∧ ((W.setCell ⟨c, j, none⟩ u).cell? ⟨b5, 0, none⟩ = some (.int .i64 s0) ∧ (W.setCell ⟨c, j, none⟩ u).cell? ⟨b5, 1, none⟩ = some (.int .i64 s1) ∧ (W.setCell ⟨c, j, none⟩ u).cell? ⟨b5, 2, none⟩ = some (.int .i64 s2) ∧ (W.setCell ⟨c, j, none⟩ u).cell? ⟨b5, 3, none⟩ = some (.int .i64 s3) ∧ (W.setCell ⟨c, j, none⟩ u).cell? ⟨b5, 4, none⟩ = some (.int .i64 0) ∧ (W.setCell ⟨c, j, none⟩ u).cell? ⟨b5, 5, none⟩ = some (.int .i64 0) ∧ (W.setCell ⟨c, j, none⟩ u).cell? ⟨b5, 6, none⟩ = some (.int .i64 s6) ∧ (W.setCell ⟨c, j, none⟩ u).cell? ⟨b5, 7, none⟩ = some (.string ⟨#[]⟩)) ∧ ((W.setCell ⟨c, j, none⟩ u).cell? ⟨g, O, none⟩ = some (.int .i64 x0) ∧ (W.setCell ⟨c, j, none⟩ u).cell? ⟨g, O + 1, none⟩ = some (.int .i64 x1) ∧ (W.setCell ⟨c, j, none⟩ u).cell? ⟨g, O + 2, none⟩ = some (.int .i64 x2) ∧ (W.setCell ⟨c, j, none⟩ u).cell? ⟨g, O + 3, none⟩ = some (.int .i64 x3) ∧ (W.setCell ⟨c, j, none⟩ u).cell? ⟨g, O + 4, none⟩ = some (.int .i64 x4) ∧ (W.setCell ⟨c, j, none⟩ u).cell? ⟨g, O + 5, none⟩ = some (.string x5) ∧ (W.setCell ⟨c, j, none⟩ u).cell? ⟨g, O + 6, none⟩ = some (.int .i64 x6)) ∧ wr.heap.size ≤ (W.setCell ⟨c, j, none⟩ u).heap.size ∧ Below wr.heap.size wr (W.setCell ⟨c, j, none⟩ u) := by
  obtain ⟨⟨a0, a1, a2⟩, ⟨c0, c1, c2, c3, c4, c5, c6, c7⟩, ⟨d0, d1, d2, d3, d4, d5, d6⟩, hz, B⟩ := h
  have e : ∀ b i, b < wr.heap.size → (W.setCell ⟨c, j, none⟩ u).cell? ⟨b, i, none⟩ = W.cell? ⟨b, i, none⟩ := fun b i hb => World.cell?_of_block (Below.heap_setCell _ _ _ _ (fun e => by simp only at e; omega))
  exact ⟨⟨(e _ _ m2).trans a0, (e _ _ m2).trans a1, (e _ _ m2).trans a2⟩, ⟨(e _ _ m5).trans c0, (e _ _ m5).trans c1, (e _ _ m5).trans c2, (e _ _ m5).trans c3, (e _ _ m5).trans c4, (e _ _ m5).trans c5, (e _ _ m5).trans c6, (e _ _ m5).trans c7⟩, ⟨(e _ _ mg).trans d0, (e _ _ mg).trans d1, (e _ _ mg).trans d2, (e _ _ mg).trans d3, (e _ _ mg).trans d4, (e _ _ mg).trans d5, (e _ _ mg).trans d6⟩, by rw [World.size_setCell]; exact hz, B.setCell hc _⟩

theorem held17B {wr W : World} {z : Bool} {b2 b5 g O : Nat} {N D s0 s1 s2 s3 s6 x0 x1 x2 x3 x4 x6 : Int} {x5 : ByteArray} (h : (W.cell? ⟨b2, 0, none⟩ = some (.int .i64 N) ∧ W.cell? ⟨b2, 1, none⟩ = some (.int .i64 D) ∧ W.cell? ⟨b2, 2, none⟩ = some (.bool z)) ∧ (W.cell? ⟨b5, 0, none⟩ = some (.int .i64 s0) ∧ W.cell? ⟨b5, 1, none⟩ = some (.int .i64 s1) ∧ W.cell? ⟨b5, 2, none⟩ = some (.int .i64 s2) ∧ W.cell? ⟨b5, 3, none⟩ = some (.int .i64 s3) ∧ W.cell? ⟨b5, 4, none⟩ = some (.int .i64 0) ∧ W.cell? ⟨b5, 5, none⟩ = some (.int .i64 0) ∧ W.cell? ⟨b5, 6, none⟩ = some (.int .i64 s6) ∧ W.cell? ⟨b5, 7, none⟩ = some (.string ⟨#[]⟩)) ∧ (W.cell? ⟨g, O, none⟩ = some (.int .i64 x0) ∧ W.cell? ⟨g, O + 1, none⟩ = some (.int .i64 x1) ∧ W.cell? ⟨g, O + 2, none⟩ = some (.int .i64 x2) ∧ W.cell? ⟨g, O + 3, none⟩ = some (.int .i64 x3) ∧ W.cell? ⟨g, O + 4, none⟩ = some (.int .i64 x4) ∧ W.cell? ⟨g, O + 5, none⟩ = some (.string x5) ∧ W.cell? ⟨g, O + 6, none⟩ = some (.int .i64 x6)) ∧ wr.heap.size ≤ W.heap.size ∧ Below wr.heap.size wr W) : wr.heap.size ≤ W.heap.size := h.2.2.2.1

set_option maxRecDepth 20000 in
set_option maxHeartbeats 8000000 in
theorem refManDecode_any (N D : Int) (z : Bool) (l : List Ev) (V : Value) (w : World) (hT : EvArg w V l) (h : Bt N D) (hk : ckE N D = 0) (hl : l.length ≤ 1099511627776) (hd : ∀ j (h : j < l.length), l[j].d.length ≤ 140737488351232) :
    Calls Try.prog 46 #[.agg (manA N D z), V] w fun e w' => ∃ v, e = .returned v ∧ EvRow w' w.heap.size v (rnR z N D l).o ∧ Below w.heap.size w w' := by
  have CT := Lib.hid (fun W => refManStart_any N D z W)
  have CS := Lib.hid (fun s x W hs hd => rmanStep_any N D z s x W h hk hs hd)
  have HD := Lib.hid hd
  obtain ⟨A, c, rfl, hA⟩ := hT
  have HA := Lib.hid hA
  have hl' : (l.length : Int) ≤ 1099511627776 := by omega
  obtain ⟨X, b2, eX, e2, l2, r2, B0⟩ := one_mbox w N D z
  have hXs : X.heap.size = b2 + 1 := by rw [eX, e2, World.size_alloc]
  have HB0 := Lib.hid B0; have H2 := Lib.hid r2
  obtain ⟨z0, z1, z2⟩ := row3 r2
  have hL := rnR_len z N D l
  clear hA hd r2 B0
  go_enter Try.func46, Try.ntmps46
  go_wp2_with (first
    | (rw [← eX, ← e2]; clear eX e2; go_at_call 43; go_must (refine (CT.out _).mono ?_; rintro e1 w1 ⟨rfl, b1⟩; have rL0 := Lib.hid ((KRow.lit (T := 44) evC_size X X.heap.size (Nat.le_refl _) [] #[] rfl 0 rfl (by decide)).keep b1); have B1 := (HB0.out.alloc HB0.out.size (.cells #[] 44)).trans (b1.mono (HB0.out.alloc HB0.out.size _).size); have Z1 := (H2.out.alloc _).keep b1; have s1 := b1.size; rw [World.size_alloc] at s1)))
  have r5 : RowAt (w1.alloc (.cells (rnA 0 0 0 0 0) 39)) w1.heap.size 39 (rnA 0 0 0 0 0) := RowAt.new _ _ _
  obtain ⟨W, b5, eW, e5⟩ : ∃ W b5, W = w1.alloc (.cells (rnA 0 0 0 0 0) 39) ∧ b5 = w1.heap.size := ⟨_, _, rfl, rfl⟩
  have HL := Lib.hid (rL0.out.alloc (.cells (rnA 0 0 0 0 0) 39))
  have HZ0 := Lib.hid (Z1.alloc (.cells (rnA 0 0 0 0 0) 39))
  have HBW := Lib.hid (B1.alloc B1.size (.cells (rnA 0 0 0 0 0) 39))
  have hW : W.heap.size = b5 + 1 := by rw [eW, e5, World.size_alloc]
  rw [← eW, ← e5] at r5
  rw [← eW] at HL HZ0 HBW
  rw [← eW, ← e5]
  have H5 := Lib.hid r5
  have hb5 : b2 < b5 := by omega
  have hw1 := HB0.out.size
  obtain ⟨H, hH⟩ : ∃ H, H = b2 + 1 := ⟨_, rfl⟩
  rw [← hH] at hXs
  rw [hXs] at HL hw1 s1
  rw [← hH]
  have hHb : H < b5 := by omega
  have hHW : H ≤ W.heap.size := by omega
  have hb2 : b2 < H := by omega
  have hHw : w.heap.size ≤ H := by omega
  clear eW e5 r5 Z1 B1 b1 HB0 H2 z0 z1 z2 CT rL0 hH
  go_loopw [7, 5] (fun i r wr => ∃ (j : Nat) (y e m p : Int) (o : List Ev), j ≤ l.length ∧ i = .int .i64 j ∧ Hid (rnR z N D (l.take j) = ⟨y, e, m, p, o⟩) ∧ Hid (EvRow wr H r o) ∧ Hid (r.ownBlock ≠ some b5) ∧ Hid (RowAt wr b2 59 (manA N D z)) ∧ Hid (RowAt wr b5 39 (rnA (phI e) e m y p)) ∧ Hid (Below w.heap.size w wr) ∧ W.heap.size ≤ wr.heap.size) (fun i _ _ => l.length - (intOf i).toNat)
  case atStart => exact ⟨0, 0, 0, 0, 0, [], Nat.zero_le _, rfl, Lib.hid rfl, HL, Lib.hid (by simp [Value.ownBlock]; omega), HZ0, H5, HBW, Nat.le_refl _⟩
  case round =>
    obtain ⟨j, y, e, m, p, o, hj, rfl, HQ, HR, HO, HZ, HS, HB, hW⟩ := hrel
    have hb := HB.out
    have ho : o.length ≤ j := by have := rnR_len z N D (l.take j); rw [HQ.out, List.length_take] at this; simp only at this; omega
    obtain ⟨⟨g0, g1, g2, g3, g4, g5, g6, g7⟩, g8⟩ := row8 HS.out
    obtain ⟨z0, z1, z2⟩ := row3 HZ.out
    have m5 : b5 < wr.heap.size := by omega
    have m2 : b2 < wr.heap.size := by omega
    clear g8
    by_cases hjl : j < l.length
    · obtain ⟨g, o', rfl, hg, hc⟩ := HA.out (by omega)
      obtain ⟨a0, a1, a2, a3, a4, a5, a6⟩ := arg_seven hc j hjl
      have f0 := (hb.cell (p := ⟨g, o' + j * 7, none⟩) hg).trans a0
      have f1 := (hb.cell (p := ⟨g, o' + j * 7 + 1, none⟩) hg).trans a1
      have f2 := (hb.cell (p := ⟨g, o' + j * 7 + 2, none⟩) hg).trans a2
      have f3 := (hb.cell (p := ⟨g, o' + j * 7 + 3, none⟩) hg).trans a3
      have f4 := (hb.cell (p := ⟨g, o' + j * 7 + 4, none⟩) hg).trans a4
      have f5 := (hb.cell (p := ⟨g, o' + j * 7 + 5, none⟩) hg).trans a5
      have f6 := (hb.cell (p := ⟨g, o' + j * 7 + 6, none⟩) hg).trans a6
      have mg : g < wr.heap.size := Nat.lt_of_lt_of_le hg hb.size
      have HN : Hid (rnR z N D (l.take (j + 1)) = rnS z N D ⟨y, e, m, p, o⟩ l[j]) := Lib.hid (by rw [rnR_snoc z N D hjl, HQ.out])
      have HP := Lib.hid (HN.out.trans (rnS_parts z N D y e m p o l[j]))
      have CSj : Hid (∀ W, Calls Try.prog 44 #[.agg (manA N D z), .agg (rnA (phI e) e m y p), .agg (evA l[j].k l[j].f l[j].t l[j].v l[j].a ⟨l[j].d.toArray⟩ l[j].u)] W fun r w' => ∃ V, r = .returned (.tuple #[.agg (rnA (phI (rnS z N D ⟨y, e, m, p, []⟩ l[j]).e) (rnS z N D ⟨y, e, m, p, []⟩ l[j]).e (rnS z N D ⟨y, e, m, p, []⟩ l[j]).m (rnS z N D ⟨y, e, m, p, []⟩ l[j]).y (rnS z N D ⟨y, e, m, p, []⟩ l[j]).p), V]) ∧ EvRow w' W.heap.size V (rnS z N D ⟨y, e, m, p, []⟩ l[j]).o ∧ Below W.heap.size W w') := Lib.hid fun W => CS.out ⟨y, e, m, p, o⟩ l[j] W (by have := rcN_allR z N D (l.take j); rw [HQ.out] at this; exact this) (HD.out j hjl)
      have hone := rnS_one z N D y e m p l[j]
      clear a0 a1 a2 a3 a4 a5 a6 hc HN HQ
      generalize (rnS z N D ⟨y, e, m, p, []⟩ l[j]).y = y' at *
      generalize (rnS z N D ⟨y, e, m, p, []⟩ l[j]).e = e' at *
      generalize (rnS z N D ⟨y, e, m, p, []⟩ l[j]).m = m' at *
      generalize (rnS z N D ⟨y, e, m, p, []⟩ l[j]).p = p' at *
      generalize (rnS z N D ⟨y, e, m, p, []⟩ l[j]).o = x' at *
      generalize (⟨l[j].d.toArray⟩ : ByteArray) = x5 at *
      generalize l[j].k = x0 at *
      generalize l[j].f = x1 at *
      generalize l[j].t = x2 at *
      generalize l[j].v = x3 at *
      generalize l[j].a = x4 at *
      generalize l[j].u = x6 at *
      obtain ⟨RA, RN, RC, rfl, hRN⟩ := HR.out.form
      clear hRN
      go_wp2
      have hs : Hid ((wr.cell? ⟨b2, 0, none⟩ = some (.int .i64 N) ∧ wr.cell? ⟨b2, 1, none⟩ = some (.int .i64 D) ∧ wr.cell? ⟨b2, 2, none⟩ = some (.bool z)) ∧ (wr.cell? ⟨b5, 0, none⟩ = some (.int .i64 (phI e)) ∧ wr.cell? ⟨b5, 1, none⟩ = some (.int .i64 e) ∧ wr.cell? ⟨b5, 2, none⟩ = some (.int .i64 m) ∧ wr.cell? ⟨b5, 3, none⟩ = some (.int .i64 y) ∧ wr.cell? ⟨b5, 4, none⟩ = some (.int .i64 0) ∧ wr.cell? ⟨b5, 5, none⟩ = some (.int .i64 0) ∧ wr.cell? ⟨b5, 6, none⟩ = some (.int .i64 p) ∧ wr.cell? ⟨b5, 7, none⟩ = some (.string ⟨#[]⟩)) ∧ (wr.cell? ⟨g, o' + j * 7, none⟩ = some (.int .i64 x0) ∧ wr.cell? ⟨g, o' + j * 7 + 1, none⟩ = some (.int .i64 x1) ∧ wr.cell? ⟨g, o' + j * 7 + 2, none⟩ = some (.int .i64 x2) ∧ wr.cell? ⟨g, o' + j * 7 + 3, none⟩ = some (.int .i64 x3) ∧ wr.cell? ⟨g, o' + j * 7 + 4, none⟩ = some (.int .i64 x4) ∧ wr.cell? ⟨g, o' + j * 7 + 5, none⟩ = some (.string x5) ∧ wr.cell? ⟨g, o' + j * 7 + 6, none⟩ = some (.int .i64 x6)) ∧ wr.heap.size ≤ wr.heap.size ∧ Below wr.heap.size wr wr) := Lib.hid ⟨⟨z0, z1, z2⟩, ⟨g0, g1, g2, g3, g4, g5, g6, g7⟩, ⟨f0, f1, f2, f3, f4, f5, f6⟩, Nat.le_refl _, Below.refl _ _⟩
      clear z0 z1 z2 g0 g1 g2 g3 g4 g5 g6 g7 f0 f1 f2 f3 f4 f5 f6
      go_region_held3 (fun w' => (w'.cell? ⟨b2, 0, none⟩ = some (.int .i64 N) ∧ w'.cell? ⟨b2, 1, none⟩ = some (.int .i64 D) ∧ w'.cell? ⟨b2, 2, none⟩ = some (.bool z)) ∧ (w'.cell? ⟨b5, 0, none⟩ = some (.int .i64 (phI e)) ∧ w'.cell? ⟨b5, 1, none⟩ = some (.int .i64 e) ∧ w'.cell? ⟨b5, 2, none⟩ = some (.int .i64 m) ∧ w'.cell? ⟨b5, 3, none⟩ = some (.int .i64 y) ∧ w'.cell? ⟨b5, 4, none⟩ = some (.int .i64 0) ∧ w'.cell? ⟨b5, 5, none⟩ = some (.int .i64 0) ∧ w'.cell? ⟨b5, 6, none⟩ = some (.int .i64 p) ∧ w'.cell? ⟨b5, 7, none⟩ = some (.string ⟨#[]⟩)) ∧ (w'.cell? ⟨g, o' + j * 7, none⟩ = some (.int .i64 x0) ∧ w'.cell? ⟨g, o' + j * 7 + 1, none⟩ = some (.int .i64 x1) ∧ w'.cell? ⟨g, o' + j * 7 + 2, none⟩ = some (.int .i64 x2) ∧ w'.cell? ⟨g, o' + j * 7 + 3, none⟩ = some (.int .i64 x3) ∧ w'.cell? ⟨g, o' + j * 7 + 4, none⟩ = some (.int .i64 x4) ∧ w'.cell? ⟨g, o' + j * 7 + 5, none⟩ = some (.string x5) ∧ w'.cell? ⟨g, o' + j * 7 + 6, none⟩ = some (.int .i64 x6)) ∧ wr.heap.size ≤ w'.heap.size ∧ Below wr.heap.size wr w') (first | with_reducible assumption | (with_reducible refine held17set ?_ (by with_reducible assumption) m2 m5 mg; with_reducible refine held17set ?_ (by with_reducible assumption) m2 m5 mg; with_reducible refine held17set ?_ (by with_reducible assumption) m2 m5 mg; with_reducible refine held17set ?_ (by with_reducible assumption) m2 m5 mg; with_reducible refine held17set ?_ (by with_reducible assumption) m2 m5 mg; with_reducible refine held17set ?_ (by with_reducible assumption) m2 m5 mg; with_reducible refine held17set ?_ (by with_reducible assumption) m2 m5 mg; with_reducible refine held17set ?_ (by with_reducible assumption) m2 m5 mg; with_reducible assumption) | with_reducible exact held17 hs.out (Below.refl _ _).drew m2 m5 mg | with_reducible exact held17 (by with_reducible assumption) ((ba _ _).mono (And.left (And.right (And.right (And.right (by with_reducible assumption)))))) m2 m5 mg | fail)
        (first
          | (go_at_call 44; refine (CSj.out _).mono ?_; rintro e9 w9 ⟨V9, rfl, v9, b9⟩; have h9 := held17 (by with_reducible assumption) (b9.mono (held17B (by with_reducible assumption))) m2 m5 mg; have u9 := Nat.le_refl wr.heap.size; (first | (have r9 := Lib.hid ((mrow_drew (RowAt.new wr 39 (rnA 0 0 0 0 0))).keep b9); obtain ⟨⟨q0, q1, q2, q3, q4, q5, q6, q7⟩, q8⟩ := row8 r9.out) | skip)))
      all_goals
        clear CSj
        first
          | (obtain ⟨W8, b8, eW8, eb8, HN8⟩ := mway_two (phI e') e' m' y' p' (by rw [World.size_drew, World.size_alloc]; omega) h9.2.2.2.2 v9 r9.out; rw [← eW8, ← eb8])
          | (obtain ⟨W8, b8, eW8, eb8, HN8⟩ := mway_one (rnA (phI e') e' m' y' p') (Nat.le_refl _) h9.2.2.2.2 v9; rw [← eW8, ← eb8])
        clear eW8 eb8
      all_goals
        clear h9 v9 b9
        try clear r9 q0 q1 q2 q3 q4 q5 q6 q7 q8
        obtain ⟨n8, k8, p8, t8, v8⟩ := HN8
        have S8 := Lib.hid (HS.out.below k8 m5); have Z8 := Lib.hid (HZ.out.below k8 m2); have R8 := Lib.hid (HR.out.keep k8); have V8 := Lib.hid v8; have B8 := Lib.hid (hb.trans (k8.mono hb.size)); have z8 := k8.size; have N8 := Lib.hid n8
        have O8 : Hid ((Value.slice RA RN RC).ownBlock ≠ some b8) := Lib.hid (fun e => by have := (HR.out.lt b8 e).2; omega)
        obtain ⟨VA, VN, VC, rfl, hVN⟩ := v8.form
        clear hVN n8 k8 v8 hs
        go_wp2_with (first
          | (at_builtin; go_must (refine wpList_append_arg_at Try.underlying36 ev_info rfl (by omega) evC_size ev_one rfl _ _ rfl rfl rfl R8.out (V8.out.arg evC_size) (by omega) (by omega) (by omega) ?_; intro v4 w4 r4 b4 n4 o4; have R4 := Lib.hid r4; have B4 := Lib.hid b4; have S4 := Lib.hid (row_kept S8.out n4 HO.out); have D4 := row_kept N8.out n4 O8.out; obtain ⟨⟨d0, d1, d2, d3, d4, d5, d6, d7⟩, d8⟩ := row8 D4; have O4 : Hid (v4.ownBlock ≠ some b5) := Lib.hid (by rcases o4 with h | h <;> rw [h]; exact HO.out; intro h; simp only [Option.some.injEq] at h; omega); clear r4 b4 n4 o4))
          | (refine wpList_store_kp S4.out (rnA (phI e') e' m' y' p') (.tmp 6) (.tmp 32) 39 rfl rfl rfl rfl (by kernel_rfl) rfl rfl ?_; intro w3 r3 k3; have R3 := Lib.hid (R4.out.kp k3 (fun g hg hx => O4.out (by rw [List.mem_singleton] at hx; rw [← hx]; exact hg))); have Z3 := Lib.hid (k3.row (Z8.out.below B4.out hb2) (by simp only [List.mem_singleton]; omega)); have S3 := Lib.hid r3; have B3 := Lib.hid ((B8.out.trans (B4.out.mono hHw)).trans (k3.below (by simp only [List.mem_singleton]; intro k hk; omega) (Nat.le_trans hHw (Nat.le_trans (by omega) B4.out.size)))); have s3 := k3.size; have s4 := B4.out.size; clear r3 k3))
        go_roundw
        case rel => exact ⟨j + 1, y', e', m', p', o ++ x', by omega, val_int (by omega), HP, R3, O4, Z3, S3, B3, by omega⟩
        case measure => simp [intOf]; omega
    · have he : l.take j = l := List.take_of_length_le (by omega)
      rw [he] at HQ
      have HX : Hid ((rnR z N D l).o = o) := Lib.hid (by rw [HQ.out])
      obtain ⟨RA, RN, RC, rfl, hRN⟩ := HR.out.form
      clear hRN he HQ
      go_wp2
      go_returns
      exact ⟨_, rfl, by rw [HX.out]; exact HR.out.mono hHw, hb⟩

end Go.Proofs.Ytpooolijghbkbaa
