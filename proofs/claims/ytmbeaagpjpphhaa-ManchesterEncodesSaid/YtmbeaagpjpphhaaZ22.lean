/-
  Layer 17: the walk of the program's edge.
  Layer 17: the walk of the program's edge, when there is a last middle.
  Layer 17: the walk of the program's edge, when there is a last middle that is not too far.
-/
import Derived.Test.YtmbeaagpjpphhaaZ21
import Derived.Test.YtmbeaagpjpphhaaZ14
import Derived.Deep.Cut
import Derived.Deep.RegionHeld3
namespace Go.Proofs.Ytmbeaagpjpphhaa
open Go Go.RowKit Go.Joins
set_option linter.unusedVariables false
set_option linter.unusedSimpArgs false

/-- The boxes of an edge: bit time, state, result. -/
theorem ebox_at (w : World) (N D : Int) (S Z : Array Value) : ∃ W b4 b5 b8, W = ((w.alloc (.cells #[.int .i64 N, .int .i64 D] 23)).alloc (.cells S 39)).alloc (.cells Z 39) ∧ b8 = w.heap.size + 1 + 1 ∧ b5 = w.heap.size + 1 ∧ b4 = w.heap.size ∧ (b4 < b5 ∧ b5 < b8 ∧ b8 < W.heap.size ∧ w.heap.size ≤ b4) ∧
    RowAt W b4 23 #[.int .i64 N, .int .i64 D] ∧ RowAt W b5 39 S ∧ RowAt W b8 39 Z ∧ Below w.heap.size w W := by
  refine ⟨_, _, _, _, rfl, rfl, rfl, rfl, by simp only [World.size_alloc]; omega, ?_, ?_, ?_, by (repeat' (first | with_reducible exact Below.refl _ _ | with_reducible exact Nat.le_refl _ | with_reducible assumption | with_reducible refine below_drewN ?_ _ | with_reducible refine Below.drew ?_ | with_reducible refine Below.trans ?_ (Below.mono (by assumption) ?_) | with_reducible refine Below.alloc ?_ ?_ _ | with_reducible refine Below.setCell ?_ ?_ _ | with_reducible refine le_setCell ?_ _ _ | with_reducible refine le_alloc ?_ _ | with_reducible refine le_drewN ?_ _ | with_reducible refine le_drew ?_ | with_reducible refine Nat.le_trans ?_ (Below.size (by assumption)) | (simp only [World.size_alloc, World.size_setCell]; omega) | omega))⟩
  · exact ((RowAt.new w _ _).alloc _).alloc _
  · exact (RowAt.at (by simp only [World.size_alloc])).alloc _
  · exact RowAt.at (by simp only [World.size_alloc])
theorem row2 {w : World} {b : Nat} {T : TypeId} {x0 x1 : Value} (h : RowAt w b T #[x0, x1]) : w.cell? ⟨b, 0, none⟩ = some x0 ∧ w.cell? ⟨b, 1, none⟩ = some x1 := ⟨h.cell 0, h.cell 1⟩

/-- No last middle (A falling edge, a rising edge). -/
theorem edge_idle (N D e m p t v : Int) (w : World) (hv : v = 0 ∨ v = 1) :
    Calls Try.prog 77 #[rat N D, .agg (mnA 0 e m p), .int .i64 t, .int .i64 v] w fun r w' => r = .returned (.tuple #[.agg (mnA (if v = 1 then 1 else 0) e (if v = 1 then t else m) p), .slice none 0 0]) ∧ Below w.heap.size w w' := by
  obtain ⟨W, b4, b5, b8, eW, e8, e5, e4, ⟨l4, l5, l8, l0⟩, r4, r5, r8, B0⟩ := ebox_at w N D (mnA 0 e m p) (mnA 0 0 0 0)
  have HB0 := Lib.hid B0; have H5 := Lib.hid r5; have H8 := Lib.hid r8
  obtain ⟨⟨c0, c1, c2, c3, c4, c5, c6, c7⟩, c8⟩ := row8 r5
  obtain ⟨a0, a1⟩ := row2 r4
  have ht : (0 == (0 : Int)) = true := rfl
  rcases hv with rfl | rfl
  · go_enter Try.func77, Try.ntmps77
    go_upto_region 1 with (fail)
    rw [← eW, ← e8, ← e5, ← e4]
    clear eW e8 e5 e4
    go_region
    have X5 : RowAt W.drew b5 39 (mnA 0 e m p) := r5
    have X8 : RowAt W.drew b8 39 (mnA 0 0 0 0) := r8
    have XB : Below w.heap.size w W.drew := B0.drew
    clear c0 c1 c2 c3 c4 c5 c6 c7 c8 a0 a1 r4 r5 r8 B0 HB0 H5 H8
    generalize W.drew = X at *
    obtain ⟨⟨c0, c1, c2, c3, c4, c5, c6, c7⟩, c8⟩ := row8 X5
    go_wp2_with (first | (refine wpList_store_at X8 (Nat.le_refl _) (mnA 0 e m p) (.tmp 8) (.tmp 29) 39 rfl rfl rfl rfl (by kernel_rfl) rfl rfl ?_; intro w9 r9 b9; obtain ⟨⟨p0, p1, p2, p3, p4, p5, p6, p7⟩, p8⟩ := row8 r9))
    (try simp only [Exit.inBlock, Exit.then]); refine bodyPost_ret (by simp [results, Try.results77, go_sem, p0, p1, p2, p3, p4, p5, p6, p7]; try rfl) rfl ?_
    exact ⟨rfl, XB.trans (b9.mono (by omega))⟩
  · go_enter Try.func77, Try.ntmps77
    go_upto_region 1 with (fail)
    rw [← eW, ← e8, ← e5, ← e4]
    clear eW e8 e5 e4
    go_region
    have X5 : RowAt W.drew b5 39 (mnA 0 e m p) := r5
    have X8 : RowAt W.drew b8 39 (mnA 0 0 0 0) := r8
    have XB : Below w.heap.size w W.drew := B0.drew
    clear a0 a1 r4 r5 r8 B0 HB0 H5 H8 c0 c1 c2 c3 c4 c5 c6 c7 c8
    generalize W.drew = X at *
    obtain ⟨⟨c0, c1, c2, c3, c4, c5, c6, c7⟩, c8⟩ := row8 X5
    have Y8 : RowAt ((X.setCell ⟨b5, 0, none⟩ (.int .i64 1)).setCell ⟨b5, 2, none⟩ (.int .i64 t)) b8 39 (mnA 0 0 0 0) := (X8.other _ _ (by simp only; omega)).other _ _ (by simp only; omega)
    have YB : Below w.heap.size w ((X.setCell ⟨b5, 0, none⟩ (.int .i64 1)).setCell ⟨b5, 2, none⟩ (.int .i64 t)) := (XB.setCell (by simp only; omega) _).setCell (by simp only; omega) _
    have Y5 : RowAt ((X.setCell ⟨b5, 0, none⟩ (.int .i64 1)).setCell ⟨b5, 2, none⟩ (.int .i64 t)) b5 39 (mnA 1 e t p) := by simpa using (X5.set 0 (.int .i64 1)).set 2 (.int .i64 t)
    obtain ⟨⟨d0, d1, d2, d3, d4, d5, d6, d7⟩, d8⟩ := row8 Y5
    go_wp2_with (first | (refine wpList_store_at Y8 (Nat.le_refl _) (mnA 1 e t p) (.tmp 8) (.tmp 29) 39 rfl rfl rfl rfl (by kernel_rfl) rfl rfl ?_; intro w9 r9 b9; obtain ⟨⟨p0, p1, p2, p3, p4, p5, p6, p7⟩, p8⟩ := row8 r9))
    (try simp only [Exit.inBlock, Exit.then]); refine bodyPost_ret (by simp [results, Try.results77, go_sem, p0, p1, p2, p3, p4, p5, p6, p7]; try rfl) rfl ?_
    exact ⟨rfl, YB.trans (b9.mono (by omega))⟩

end Go.Proofs.Ytmbeaagpjpphhaa

namespace Go.Proofs.Ytmbeaagpjpphhaa
open Go Go.RowKit Go.Joins
set_option linter.unusedVariables false
set_option linter.unusedSimpArgs false

theorem held4 {w W : World} {b4 b5 : Nat} {x0 x1 x2 x3 : Value} {W0 : World} (h : W.cell? ⟨b4, 0, none⟩ = some x0 ∧ W.cell? ⟨b4, 1, none⟩ = some x1 ∧ W.cell? ⟨b5, 0, none⟩ = some x2 ∧ W.cell? ⟨b5, 2, none⟩ = some x3 ∧ b4 < W.heap.size ∧ b5 < W.heap.size ∧ Below W0.heap.size W0 W) (hb : Below W.heap.size W w) : w.cell? ⟨b4, 0, none⟩ = some x0 ∧ w.cell? ⟨b4, 1, none⟩ = some x1 ∧ w.cell? ⟨b5, 0, none⟩ = some x2 ∧ w.cell? ⟨b5, 2, none⟩ = some x3 ∧ b4 < w.heap.size ∧ b5 < w.heap.size ∧ Below W0.heap.size W0 w := by
  obtain ⟨a0, a1, a2, a3, l0, l1, B⟩ := h
  have hs := hb.size
  exact ⟨(hb.cell l0).trans a0, (hb.cell l0).trans a1, (hb.cell l1).trans a2, (hb.cell l1).trans a3, by omega, by omega, B.trans (hb.mono B.size)⟩
/-- The edge is too late. -/
theorem edge_late (N D e m p t v : Int) (w : World) (h : Bt N D) (hv : v = 0 ∨ v = 1) (hm : 0 ≤ m ∧ m ≤ t) (ht : t ≤ 1099511627776) (hl : 2 * N ≤ (t - m) * D) :
    Calls Try.prog 77 #[rat N D, .agg (mnA 1 e m p), .int .i64 t, .int .i64 v] w fun r w' => r = .returned (.tuple #[.agg (mnA 1 e (if v = 1 then t else m) p), .slice none 0 0]) ∧ Below w.heap.size w w' := by
  have CT : Hid (∀ W, Calls Try.prog 105 #[rat N D] W fun e w' => e = .returned (.int .i64 (twI N D)) ∧ Below W.heap.size W w') := Lib.hid fun W => two_any N D W h
  have htw := (tw_iff h.d1).2 hl
  obtain ⟨W, b4, b5, b8, eW, e8, e5, e4, ⟨l4, l5, l8, l0⟩, r4, r5, r8, B0⟩ := ebox_at w N D (mnA 1 e m p) (mnA 0 0 0 0)
  have HB0 := Lib.hid B0; have H5 := Lib.hid r5; have H8 := Lib.hid r8
  obtain ⟨⟨c0, c1, c2, c3, c4, c5, c6, c7⟩, c8⟩ := row8 r5
  obtain ⟨a0, a1⟩ := row2 r4
  have HS : Hid (W.cell? ⟨b4, 0, none⟩ = some (.int .i64 N) ∧ W.cell? ⟨b4, 1, none⟩ = some (.int .i64 D) ∧ W.cell? ⟨b5, 0, none⟩ = some (.int .i64 1) ∧ W.cell? ⟨b5, 2, none⟩ = some (.int .i64 m) ∧ b4 < W.heap.size ∧ b5 < W.heap.size ∧ Below W.heap.size W W) := Lib.hid ⟨a0, a1, c0, c2, by omega, by omega, Below.refl _ _⟩
  have q1 : IntKind.i64.wrap (t - m) = t - m := IntWalk.i64_in _ (by omega)
  have ht1 : ((1 : Int) == 0) = false := rfl
  clear c0 c1 c2 c3 c4 c5 c6 c7 c8 a0 a1 r4 r5 r8 B0
  generalize twI N D = TW at *
  rcases hv with rfl | rfl
  · go_enter Try.func77, Try.ntmps77
    go_upto_region 1 with (fail)
    rw [← eW, ← e8, ← e5, ← e4]
    clear eW e8 e5 e4
    go_region_held3 (fun w' => w'.cell? ⟨b4, 0, none⟩ = some (.int .i64 N) ∧ w'.cell? ⟨b4, 1, none⟩ = some (.int .i64 D) ∧ w'.cell? ⟨b5, 0, none⟩ = some (.int .i64 1) ∧ w'.cell? ⟨b5, 2, none⟩ = some (.int .i64 m) ∧ b4 < w'.heap.size ∧ b5 < w'.heap.size ∧ Below W.heap.size W w') (first | with_reducible assumption | with_reducible exact held4 HS.out (Below.refl _ _).drew | fail)
      (first | (go_at_call 105; refine (CT.out _).mono ?_; rintro e5 w5 ⟨rfl, k5⟩; have h5 := held4 (by with_reducible assumption) k5))
    rename_i hS9
    have hX := hS9.2.2.2.2.2.2
    have X5 := H5.out.keep hX
    have X8 := H8.out.keep hX
    have XB := HB0.out.trans (hX.mono HB0.out.size)
    clear H5 H8 HB0 hX hS9 HS CT
    obtain ⟨⟨c0, c1, c2, c3, c4, c5, c6, c7⟩, c8⟩ := row8 X5
    go_wp2_with (first | (refine wpList_store_at X8 (Nat.le_refl _) (mnA 1 e m p) (.tmp 8) (.tmp 29) 39 rfl rfl rfl rfl (by kernel_rfl) rfl rfl ?_; intro w9 r9 b9; obtain ⟨⟨p0, p1, p2, p3, p4, p5, p6, p7⟩, p8⟩ := row8 r9))
    (try simp only [Exit.inBlock, Exit.then]); refine bodyPost_ret (by simp [results, Try.results77, go_sem, p0, p1, p2, p3, p4, p5, p6, p7]; try rfl) rfl ?_
    exact ⟨rfl, XB.trans (b9.mono (by omega))⟩
  · go_enter Try.func77, Try.ntmps77
    go_upto_region 1 with (fail)
    rw [← eW, ← e8, ← e5, ← e4]
    clear eW e8 e5 e4
    go_region_held3 (fun w' => w'.cell? ⟨b4, 0, none⟩ = some (.int .i64 N) ∧ w'.cell? ⟨b4, 1, none⟩ = some (.int .i64 D) ∧ w'.cell? ⟨b5, 0, none⟩ = some (.int .i64 1) ∧ w'.cell? ⟨b5, 2, none⟩ = some (.int .i64 m) ∧ b4 < w'.heap.size ∧ b5 < w'.heap.size ∧ Below W.heap.size W w') (first | with_reducible assumption | with_reducible exact held4 HS.out (Below.refl _ _).drew | fail)
      (first | (go_at_call 105; refine (CT.out _).mono ?_; rintro e5 w5 ⟨rfl, k5⟩; have h5 := held4 (by with_reducible assumption) k5))
    rename_i hS9
    have hX := hS9.2.2.2.2.2.2
    have X5 := H5.out.keep hX
    have X8 := H8.out.keep hX
    have XB := HB0.out.trans (hX.mono HB0.out.size)
    clear H5 H8 HB0 hX hS9 HS CT
    obtain ⟨⟨c0, c1, c2, c3, c4, c5, c6, c7⟩, c8⟩ := row8 X5
    have Y8 : RowAt ((w5.setCell ⟨b5, 0, none⟩ (.int .i64 1)).setCell ⟨b5, 2, none⟩ (.int .i64 t)) b8 39 (mnA 0 0 0 0) := (X8.other _ _ (by simp only; omega)).other _ _ (by simp only; omega)
    have YB : Below w.heap.size w ((w5.setCell ⟨b5, 0, none⟩ (.int .i64 1)).setCell ⟨b5, 2, none⟩ (.int .i64 t)) := (XB.setCell (by simp only; omega) _).setCell (by simp only; omega) _
    have Y5 : RowAt ((w5.setCell ⟨b5, 0, none⟩ (.int .i64 1)).setCell ⟨b5, 2, none⟩ (.int .i64 t)) b5 39 (mnA 1 e t p) := by simpa using (X5.set 0 (.int .i64 1)).set 2 (.int .i64 t)
    obtain ⟨⟨d0, d1, d2, d3, d4, d5, d6, d7⟩, d8⟩ := row8 Y5
    go_wp2_with (first | (refine wpList_store_at Y8 (Nat.le_refl _) (mnA 1 e t p) (.tmp 8) (.tmp 29) 39 rfl rfl rfl rfl (by kernel_rfl) rfl rfl ?_; intro w9 r9 b9; obtain ⟨⟨p0, p1, p2, p3, p4, p5, p6, p7⟩, p8⟩ := row8 r9))
    (try simp only [Exit.inBlock, Exit.then]); refine bodyPost_ret (by simp [results, Try.results77, go_sem, p0, p1, p2, p3, p4, p5, p6, p7]; try rfl) rfl ?_
    exact ⟨rfl, YB.trans (b9.mono (by omega))⟩

end Go.Proofs.Ytmbeaagpjpphhaa

namespace Go.Proofs.Ytmbeaagpjpphhaa
open Go Go.RowKit Go.Joins
set_option linter.unusedVariables false
set_option linter.unusedSimpArgs false

theorem held4S {w W0 : World} {b4 b5 q j : Nat} {u x0 x1 x2 x3 : Value} (h : w.cell? ⟨b4, 0, none⟩ = some x0 ∧ w.cell? ⟨b4, 1, none⟩ = some x1 ∧ w.cell? ⟨b5, 0, none⟩ = some x2 ∧ w.cell? ⟨b5, 2, none⟩ = some x3 ∧ b4 < w.heap.size ∧ b5 < w.heap.size ∧ Below W0.heap.size W0 w) (h4 : b4 < W0.heap.size) (h5 : b5 < W0.heap.size) (hq : W0.heap.size ≤ q) : (w.setCell ⟨q, j, none⟩ u).cell? ⟨b4, 0, none⟩ = some x0 ∧ (w.setCell ⟨q, j, none⟩ u).cell? ⟨b4, 1, none⟩ = some x1 ∧ (w.setCell ⟨q, j, none⟩ u).cell? ⟨b5, 0, none⟩ = some x2 ∧ (w.setCell ⟨q, j, none⟩ u).cell? ⟨b5, 2, none⟩ = some x3 ∧ b4 < (w.setCell ⟨q, j, none⟩ u).heap.size ∧ b5 < (w.setCell ⟨q, j, none⟩ u).heap.size ∧ Below W0.heap.size W0 (w.setCell ⟨q, j, none⟩ u) := by
  obtain ⟨a0, a1, a2, a3, l0, l1, B⟩ := h
  have e : ∀ b i, b < W0.heap.size → (w.setCell ⟨q, j, none⟩ u).cell? ⟨b, i, none⟩ = w.cell? ⟨b, i, none⟩ := fun b i hb => World.cell?_of_block (Below.heap_setCell _ _ _ _ (fun e => by simp only at e; omega))
  exact ⟨(e _ _ h4).trans a0, (e _ _ h4).trans a1, (e _ _ h5).trans a2, (e _ _ h5).trans a3, by rw [World.size_setCell]; exact l0, by rw [World.size_setCell]; exact l1, B.setCell hq _⟩

set_option maxRecDepth 20000 in
set_option maxHeartbeats 20000000 in
theorem edge_near (N D e m p t v : Int) (w : World) (h : Bt N D) (hv : v = 0 ∨ v = 1) (hm : 0 ≤ m ∧ m ≤ t) (ht : t ≤ 1099511627776) (hl : ¬ 2 * N ≤ (t - m) * D) :
    Calls Try.prog 77 #[rat N D, .agg (mnA 1 e m p), .int .i64 t, .int .i64 v] w fun r w' => ∃ V, r = .returned (.tuple #[.agg (mnA 1 e (if 4 * (t - m) * D < 3 * N then m else t) p), V]) ∧ EvRow w' w.heap.size V (if 4 * (t - m) * D < 3 * N then [] else [bnE N D m t v]) ∧ Below w.heap.size w w' := by
  have CT : Hid (∀ W, Calls Try.prog 105 #[rat N D] W fun e w' => e = .returned (.int .i64 (twI N D)) ∧ Below W.heap.size W w') := Lib.hid fun W => two_any N D W h
  have CS : Hid (∀ W, Calls Try.prog 106 #[rat N D, .int .i64 0] W fun e w' => e = .returned (.int .i64 (smI N D 0)) ∧ Below W.heap.size W w') := Lib.hid fun W => sample_any N D 0 W h (by omega) (by omega)
  have htw : ¬ twI N D ≤ t - m := fun hh => hl ((tw_iff h.d1).1 hh)
  have HE : Hid (bnE N D m t v = ⟨2, m + smI N D 0, t, if 5 * N < 4 * (t - m) * D then 0 else v, 0, [], if 5 * N < 4 * (t - m) * D then 5 else 0⟩) := Lib.hid rfl
  have s0 : 0 ≤ smI N D 0 := sc_nn (by have := h.d1; omega) (by omega) (by have := h.d1; have := h.n1; omega)
  have s1 := (sm_bd h 0).2
  have s2 := (bd_next h 0).2
  rw [bd_zero] at s2
  obtain ⟨d1, d2, n1, n2, n3⟩ := h
  have hd0 : 0 ≤ (t - m) * D := Int.mul_nonneg (by omega) (by omega)
  have e4' : 4 * (t - m) * D = 4 * ((t - m) * D) := Int.mul_assoc _ _ _
  have hdd : t - m ≤ (t - m) * D := by have := Int.mul_le_mul_of_nonneg_left d1 (show 0 ≤ t - m by omega); omega
  generalize bnE N D m t v = BE at *
  obtain ⟨RM, eRM⟩ : ∃ x, x = (if 4 * (t - m) * D < 3 * N then m else t) := ⟨_, rfl⟩
  obtain ⟨RL, eRL⟩ : ∃ x, x = (if 4 * (t - m) * D < 3 * N then [] else [BE]) := ⟨_, rfl⟩
  rw [← eRM, ← eRL]
  have HRM := Lib.hid eRM; have HRL := Lib.hid eRL
  clear eRM eRL
  generalize twI N D = TW at *
  generalize smI N D 0 = SM at *
  generalize bdI N D (0 + 1) = BD at *
  obtain ⟨W, b4, b5, b8, eW, e8, e5, e4, ⟨l4, l5, l8, l0⟩, r4, r5, r8, B0⟩ := ebox_at w N D (mnA 1 e m p) (mnA 0 0 0 0)
  have HB0 := Lib.hid B0; have H4 := Lib.hid r4; have H5 := Lib.hid r5; have H8 := Lib.hid r8
  obtain ⟨⟨c0, c1, c2, c3, c4, c5, c6, c7⟩, c8⟩ := row8 r5
  obtain ⟨a0, a1⟩ := row2 r4
  have HS : Hid (W.cell? ⟨b4, 0, none⟩ = some (.int .i64 N) ∧ W.cell? ⟨b4, 1, none⟩ = some (.int .i64 D) ∧ W.cell? ⟨b5, 0, none⟩ = some (.int .i64 1) ∧ W.cell? ⟨b5, 2, none⟩ = some (.int .i64 m) ∧ b4 < W.heap.size ∧ b5 < W.heap.size ∧ Below W.heap.size W W) := Lib.hid ⟨a0, a1, c0, c2, by omega, by omega, Below.refl _ _⟩
  have q1 : IntKind.i64.wrap (t - m) = t - m := IntWalk.i64_in _ (by omega)
  have q2 : IntKind.i64.wrap (m + SM) = m + SM := IntWalk.i64_in _ (by omega)
  have q3 : IntKind.i64.wrap (4 * (t - m)) = 4 * (t - m) := IntWalk.i64_in _ (by omega)
  have q4 : IntKind.i64.wrap (4 * (t - m) * D) = 4 * (t - m) * D := IntWalk.i64_in _ (by omega)
  have q5 : IntKind.i64.wrap (5 * N) = 5 * N := IntWalk.i64_in _ (by omega)
  have q6 : IntKind.i64.wrap (3 * N) = 3 * N := IntWalk.i64_in _ (by omega)
  have ht1 : ((1 : Int) == 0) = false := rfl
  clear c0 c1 c2 c3 c4 c5 c6 c7 c8 a0 a1 r4 r5 r8 B0 s1 s2 hd0 e4' hdd
  go_enter Try.func77, Try.ntmps77
  go_upto_region 1 with (fail)
  rw [← eW, ← e8, ← e5, ← e4]
  clear eW e8 e5 e4
  go_region_held3 (fun w' => w'.cell? ⟨b4, 0, none⟩ = some (.int .i64 N) ∧ w'.cell? ⟨b4, 1, none⟩ = some (.int .i64 D) ∧ w'.cell? ⟨b5, 0, none⟩ = some (.int .i64 1) ∧ w'.cell? ⟨b5, 2, none⟩ = some (.int .i64 m) ∧ b4 < w'.heap.size ∧ b5 < w'.heap.size ∧ Below W.heap.size W w') (first | with_reducible assumption | with_reducible exact held4 HS.out (Below.refl _ _).drew | fail)
    (first | (go_at_call 105; refine (CT.out _).mono ?_; rintro e5 X ⟨rfl, k5⟩; have h5 := held4 (by with_reducible assumption) k5))
  rename_i hS9
  have hX := hS9.2.2.2.2.2.2
  have X4 := Lib.hid (H4.out.keep hX)
  have X5 := Lib.hid (H5.out.keep hX)
  have X8 := Lib.hid (H8.out.keep hX)
  have XB := Lib.hid (HB0.out.trans (hX.mono HB0.out.size))
  obtain ⟨f0, f1, f2, f3, f4, f5, _⟩ := hS9
  have HX : Hid (X.cell? ⟨b4, 0, none⟩ = some (.int .i64 N) ∧ X.cell? ⟨b4, 1, none⟩ = some (.int .i64 D) ∧ X.cell? ⟨b5, 0, none⟩ = some (.int .i64 1) ∧ X.cell? ⟨b5, 2, none⟩ = some (.int .i64 m) ∧ b4 < X.heap.size ∧ b5 < X.heap.size ∧ Below X.heap.size X X) := Lib.hid ⟨f0, f1, f2, f3, f4, f5, Below.refl _ _⟩
  have lX : b8 < X.heap.size := by have := hX.size; omega
  have lw : w.heap.size ≤ X.heap.size := by omega
  clear H4 H5 H8 HB0 hX HS CT k5 h5
  go_upto_region 5 with (fail)
  clear f0 f1 f2 f3 htw
  have v1 : X.heap.size ≤ X.heap.size := Nat.le_refl _
  have v0 : X.heap.size ≤ X.drew.heap.size := Nat.le_refl _
  go_cut [10] from 11 (fun pp wc => ∃ q, pp = .pointer (some ⟨q, 0, none⟩) ∧ X.heap.size ≤ q ∧ Hid (RowAt wc q 44 #[.int .i64 2, .int .i64 (m + SM), .int .i64 t, .int .i64 v, .int .i64 0, .string ⟨#[]⟩, .int .i64 0]) ∧ Hid (RowAt wc b4 23 #[.int .i64 N, .int .i64 D]) ∧ Hid (RowAt wc b5 39 (mnA 1 e m p)) ∧ Hid (RowAt wc b8 39 (mnA 0 0 0 0)) ∧ Hid (Below w.heap.size w wc))
  case first =>
    go_region_held3 (fun w' => w'.cell? ⟨b4, 0, none⟩ = some (.int .i64 N) ∧ w'.cell? ⟨b4, 1, none⟩ = some (.int .i64 D) ∧ w'.cell? ⟨b5, 0, none⟩ = some (.int .i64 1) ∧ w'.cell? ⟨b5, 2, none⟩ = some (.int .i64 m) ∧ b4 < w'.heap.size ∧ b5 < w'.heap.size ∧ Below X.heap.size X w') (first | with_reducible assumption | (with_reducible refine held4S ?_ f4 f5 (by with_reducible assumption); with_reducible refine held4S ?_ f4 f5 (by with_reducible assumption); with_reducible refine held4S ?_ f4 f5 (by with_reducible assumption); with_reducible refine held4S ?_ f4 f5 (by with_reducible assumption); with_reducible refine held4S ?_ f4 f5 (by with_reducible assumption); with_reducible refine held4S ?_ f4 f5 (by with_reducible assumption); with_reducible refine held4S ?_ f4 f5 (by with_reducible assumption); with_reducible assumption) | with_reducible exact held4 HX.out (Below.refl _ _).drew | with_reducible exact held4 (by with_reducible assumption) (ba _ _) | fail)
      (first
        | (go_at_call 106; refine (CS.out _).mono ?_; rintro e6 w6 ⟨rfl, k6⟩; have h6 := held4 (by with_reducible assumption) k6; have v6 := h6.2.2.2.2.2.2.size; (try (have r6 := (show RowAt _ _ 44 #[.int .i64 0, .int .i64 0, .int .i64 0, .int .i64 0, .int .i64 0, .string ⟨#[]⟩, .int .i64 0] from RowAt.keep (by first | with_reducible exact RowAt.new _ _ _ | with_reducible exact RowAt.drew1 (RowAt.new _ _ _) | with_reducible assumption) k6); (try simp only [show X.drew.heap = X.heap from rfl] at r6); obtain ⟨⟨g0, g1, g2, g3, g4, g5, g6⟩, g7⟩ := row_seven' r6))))
    all_goals
      rename_i hS9
      have hX9 := hS9.2.2.2.2.2.2
      first
      | have R9 := set7 (x0 := .int .i64 2) (x1 := .int .i64 (m + SM)) (x2 := .int .i64 t) (x3 := .int .i64 v) (x4 := .int .i64 0) (x5 := .string ⟨#[]⟩) (x6 := .int .i64 0) (by with_reducible assumption)
      | have R9 := new_of hX9
      have R9' := Lib.hid R9
      have Y4 := Lib.hid (X4.out.keep hX9)
      have Y5 := Lib.hid (X5.out.keep hX9)
      have Y8 := Lib.hid (X8.out.keep hX9)
      have YB := Lib.hid (XB.out.trans (hX9.mono lw))
      clear hS9 hX9 R9
      go_wp2
      go_meet
      case rel => exact ⟨_, rfl, by with_reducible assumption, R9', Y4, Y5, Y8, YB⟩
  case rest =>
    obtain ⟨w0, hw0⟩ : ∃ x, x = wc := ⟨_, rfl⟩
    subst hw0
    obtain ⟨q, rfl, hq, HQ, H4, H5, H8, HB⟩ := hcut
    obtain ⟨⟨g0, g1, g2, g3, g4, g5, g6, g7⟩, g8⟩ := row8 H5.out
    obtain ⟨⟨k0, k1, k2, k3, k4, k5, k6⟩, k7⟩ := row7 HQ.out
    obtain ⟨i0, i1⟩ := row2 H4.out
    have lq := HQ.out.lt
    have lb5 := H5.out.lt
    by_cases hE : 4 * (t - m) * D < 3 * N
    · have n1' : ¬ 5 * N < 4 * (t - m) * D := by omega
      have n2' : ¬ 3 * N ≤ 4 * (t - m) * D := by omega
      obtain rfl : m = RM := by rw [HRM.out, if_pos hE]
      obtain rfl : RL = [] := by rw [HRL.out, if_pos hE]
      go_wp2_with (first | (refine wpList_store_at H8.out (Nat.le_refl _) (mnA 1 e m p) (.tmp 8) (.tmp 65) 39 rfl rfl rfl rfl (by kernel_rfl) rfl rfl ?_; intro w9 r9 b9; obtain ⟨⟨p0, p1, p2, p3, p4, p5, p6, p7⟩, p8⟩ := row8 r9))
      (try simp only [Exit.inBlock, Exit.then]); refine bodyPost_ret (by simp [results, Try.results77, go_sem, p0, p1, p2, p3, p4, p5, p6, p7]; try rfl) rfl ?_
      exact ⟨_, rfl, KRow.nil _ _, HB.out.trans (b9.mono (by omega))⟩
    have n2' : 3 * N ≤ 4 * (t - m) * D := by omega
    obtain rfl : t = RM := by rw [HRM.out, if_neg hE]
    obtain rfl : RL = [BE] := by rw [HRL.out, if_neg hE]
    by_cases hF : 5 * N < 4 * (t - m) * D
    · have HE' : Hid (BE = ⟨2, m + SM, t, 0, 0, [], 5⟩) := Lib.hid (HE.out.trans (by rw [if_pos hF, if_pos hF]))
      go_wp2
      have Y8 : RowAt (((w0.setCell ⟨q, 3, none⟩ (.int .i64 0)).setCell ⟨q, 6, none⟩ (.int .i64 5)).setCell ⟨b5, 2, none⟩ (.int .i64 t)) b8 39 (mnA 0 0 0 0) := ((H8.out.other _ _ (by simp only; omega)).other _ _ (by simp only; omega)).other _ _ (by simp only; omega)
      have Y5 : RowAt (((w0.setCell ⟨q, 3, none⟩ (.int .i64 0)).setCell ⟨q, 6, none⟩ (.int .i64 5)).setCell ⟨b5, 2, none⟩ (.int .i64 t)) b5 39 (mnA 1 e t p) := by simpa using ((H5.out.other ⟨q, 3, none⟩ (.int .i64 0) (by simp only; omega)).other ⟨q, 6, none⟩ (.int .i64 5) (by simp only; omega)).set 2 (.int .i64 t)
      have Yq : RowAt (((w0.setCell ⟨q, 3, none⟩ (.int .i64 0)).setCell ⟨q, 6, none⟩ (.int .i64 5)).setCell ⟨b5, 2, none⟩ (.int .i64 t)) q 44 #[.int .i64 2, .int .i64 (m + SM), .int .i64 t, .int .i64 0, .int .i64 0, .string ⟨#[]⟩, .int .i64 5] := RowAt.other (by simpa using (HQ.out.set 3 (.int .i64 0)).set 6 (.int .i64 5)) _ _ (by simp only; omega)
      have YB : Below w.heap.size w (((w0.setCell ⟨q, 3, none⟩ (.int .i64 0)).setCell ⟨q, 6, none⟩ (.int .i64 5)).setCell ⟨b5, 2, none⟩ (.int .i64 t)) := ((HB.out.setCell (by simp only; omega) _).setCell (by simp only; omega) _).setCell (by simp only; omega) _
      obtain ⟨Z, eZ⟩ : ∃ Z, Z = (((w0.setCell ⟨q, 3, none⟩ (.int .i64 0)).setCell ⟨q, 6, none⟩ (.int .i64 5)).setCell ⟨b5, 2, none⟩ (.int .i64 t)) := ⟨_, rfl⟩
      rw [← eZ] at Y8 Y5 Yq YB
      rw [← eZ]
      clear eZ g0 g1 g2 g3 g4 g5 g6 g7 g8 k0 k1 k2 k3 k4 k5 k6 k7 H4 H5 H8 HQ HB i0 i1
      have hY8 := Lib.hid Y8; have hYB := Lib.hid YB
      obtain ⟨⟨g0, g1, g2, g3, g4, g5, g6, g7⟩, g8⟩ := row8 Y5
      obtain ⟨⟨k0, k1, k2, k3, k4, k5, k6⟩, k7⟩ := row7 Yq
      obtain ⟨⟨j0, j1, j2, j3, j4, j5, j6, j7⟩, j8⟩ := row8 Y8
      have lq := Yq.lt
      have lb5 := Y5.lt
      have lb8 := Y8.lt
      clear Y8 Y5 Yq YB
      go_region
      obtain ⟨w9, e9, r9, k9, B9⟩ := end_at (.int .i64 1) (.int .i64 e) (.int .i64 t) (.int .i64 0) (.int .i64 0) (.int .i64 0) (.int .i64 p) (.string ⟨#[]⟩) 0 (m + SM) t 0 5 hY8.out hYB.out (by omega)
      rw [← e9]
      clear e9
      obtain ⟨⟨p0, p1, p2, p3, p4, p5, p6, p7⟩, p8⟩ := row8 r9
      have K9 := Lib.hid k9
      clear k9
      go_wp2
      (try simp only [Exit.inBlock, Exit.then]); refine bodyPost_ret (by simp [results, Try.results77, go_sem, p0, p1, p2, p3, p4, p5, p6, p7]; try rfl) rfl ?_
      exact ⟨_, rfl, by rw [HE'.out]; exact K9.out, B9.drew⟩
    · have HE' : Hid (BE = ⟨2, m + SM, t, v, 0, [], 0⟩) := Lib.hid (HE.out.trans (by rw [if_neg hF, if_neg hF]))
      go_wp2
      have Y8 : RowAt (w0.setCell ⟨b5, 2, none⟩ (.int .i64 t)) b8 39 (mnA 0 0 0 0) := H8.out.other _ _ (by simp only; omega)
      have Y5 : RowAt (w0.setCell ⟨b5, 2, none⟩ (.int .i64 t)) b5 39 (mnA 1 e t p) := by simpa using H5.out.set 2 (.int .i64 t)
      have Yq : RowAt (w0.setCell ⟨b5, 2, none⟩ (.int .i64 t)) q 44 #[.int .i64 2, .int .i64 (m + SM), .int .i64 t, .int .i64 v, .int .i64 0, .string ⟨#[]⟩, .int .i64 0] := HQ.out.other _ _ (by simp only; omega)
      have YB : Below w.heap.size w (w0.setCell ⟨b5, 2, none⟩ (.int .i64 t)) := HB.out.setCell (by simp only; omega) _
      obtain ⟨Z, eZ⟩ : ∃ Z, Z = (w0.setCell ⟨b5, 2, none⟩ (.int .i64 t)) := ⟨_, rfl⟩
      rw [← eZ] at Y8 Y5 Yq YB
      rw [← eZ]
      clear eZ g0 g1 g2 g3 g4 g5 g6 g7 g8 k0 k1 k2 k3 k4 k5 k6 k7 H4 H5 H8 HQ HB i0 i1
      have hY8 := Lib.hid Y8; have hYB := Lib.hid YB
      obtain ⟨⟨g0, g1, g2, g3, g4, g5, g6, g7⟩, g8⟩ := row8 Y5
      obtain ⟨⟨k0, k1, k2, k3, k4, k5, k6⟩, k7⟩ := row7 Yq
      obtain ⟨⟨j0, j1, j2, j3, j4, j5, j6, j7⟩, j8⟩ := row8 Y8
      have lq := Yq.lt
      have lb5 := Y5.lt
      have lb8 := Y8.lt
      clear Y8 Y5 Yq YB
      go_region
      obtain ⟨w9, e9, r9, k9, B9⟩ := end_at (.int .i64 1) (.int .i64 e) (.int .i64 t) (.int .i64 0) (.int .i64 0) (.int .i64 0) (.int .i64 p) (.string ⟨#[]⟩) v (m + SM) t 0 0 hY8.out hYB.out (by omega)
      rw [← e9]
      clear e9
      obtain ⟨⟨p0, p1, p2, p3, p4, p5, p6, p7⟩, p8⟩ := row8 r9
      have K9 := Lib.hid k9
      clear k9
      go_wp2
      (try simp only [Exit.inBlock, Exit.then]); refine bodyPost_ret (by simp [results, Try.results77, go_sem, p0, p1, p2, p3, p4, p5, p6, p7]; try rfl) rfl ?_
      exact ⟨_, rfl, by rw [HE'.out]; exact K9.out, B9.drew⟩

end Go.Proofs.Ytmbeaagpjpphhaa
