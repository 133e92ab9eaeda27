/-
  Layer 17: the walk of the specification's edge.
-/
import Derived.Test.YtmbeaagpjpphhaaZ21
import Derived.Test.YtmbeaagpjpphhaaZ23
namespace Go.Proofs.Ytmbeaagpjpphhaa
open Go Go.RowKit Go.Joins
set_option linter.unusedVariables false
set_option linter.unusedSimpArgs false

/-- The boxes of an edge: configuration, state, result. -/
theorem rbox_at (w : World) (N D : Int) (z : Bool) (S Z : Array Value) : ∃ W b4 b5 b8, W = ((w.alloc (.cells (manA N D z) 59)).alloc (.cells S 39)).alloc (.cells Z 39) ∧ b8 = w.heap.size + 1 + 1 ∧ b5 = w.heap.size + 1 ∧ b4 = w.heap.size ∧ (b4 < b5 ∧ b5 < b8 ∧ b8 < W.heap.size ∧ w.heap.size ≤ b4) ∧
    RowAt W b4 59 (manA N D z) ∧ RowAt W b5 39 S ∧ RowAt W b8 39 Z ∧ Below w.heap.size w W := by
  refine ⟨_, _, _, _, rfl, rfl, rfl, rfl, by simp only [World.size_alloc]; omega, ?_, ?_, ?_, by (repeat' (first | with_reducible exact Below.refl _ _ | with_reducible exact Nat.le_refl _ | with_reducible assumption | with_reducible refine below_drewN ?_ _ | with_reducible refine Below.drew ?_ | with_reducible refine Below.trans ?_ (Below.mono (by assumption) ?_) | with_reducible refine Below.alloc ?_ ?_ _ | with_reducible refine Below.setCell ?_ ?_ _ | with_reducible refine le_setCell ?_ _ _ | with_reducible refine le_alloc ?_ _ | with_reducible refine le_drewN ?_ _ | with_reducible refine le_drew ?_ | with_reducible refine Nat.le_trans ?_ (Below.size (by assumption)) | (simp only [World.size_alloc, World.size_setCell]; omega) | omega))⟩
  · exact ((RowAt.new w _ _).alloc _).alloc _
  · exact (RowAt.at (by simp only [World.size_alloc])).alloc _
  · exact RowAt.at (by simp only [World.size_alloc])

/-- The copy of the state in a new box. -/
theorem rnext_at {w W : World} {b4 b5 b8 : Nat} {A S Z : Array Value} (S' : Array Value) (l4 : b4 < b5 ∧ b5 < b8 ∧ b8 < W.heap.size) (r4 : RowAt W b4 59 A) (r5 : RowAt W b5 39 S) (r8 : RowAt W b8 39 Z) (B0 : Below w.heap.size w W) : ∃ X n, X = W.alloc (.cells S' 39) ∧ n = W.heap.size ∧ (b8 < n ∧ n < X.heap.size ∧ w.heap.size ≤ n) ∧ RowAt X b4 59 A ∧ RowAt X b5 39 S ∧ RowAt X b8 39 Z ∧ RowAt X n 39 S' ∧ Below w.heap.size w X :=
  ⟨_, _, rfl, rfl, ⟨l4.2.2, by simp only [World.size_alloc]; omega, B0.size⟩, r4.alloc _, r5.alloc _, r8.alloc _, RowAt.new _ _ _, B0.alloc B0.size _⟩

set_option maxRecDepth 20000 in
set_option maxHeartbeats 8000000 in
/-- No last middle. -/
theorem redge_idle (N D e m p t v : Int) (z : Bool) (w : World) (h : Bt N D) (hv : v = 0 ∨ v = 1) (hm : 0 ≤ m ∧ m ≤ t) (ht : t ≤ 1099511627776) :
    Calls Try.prog 83 #[.agg (manA N D z), .agg (rnA 1 e m 0 p), .int .i64 t, .int .i64 v] w fun r w' => r = .returned (.tuple #[.agg (rnA 1 e (if v = 1 then t else m) (if v = 1 then 1 else 0) v), .slice none 0 0]) ∧ Below w.heap.size w w' := by
  have d1 := h.d1; have d2 := h.d2; have n1' := h.n1; have n2' := h.n2
  obtain ⟨W, b4, b5, b8, eW, e8, e5, e4, ⟨l4, l5, l8, l0⟩, r4, r5, r8, B0⟩ := rbox_at w N D z (rnA 1 e m 0 p) (rnA 0 0 0 0 0)
  have HB0 := Lib.hid B0; have H5 := Lib.hid r5; have H8 := Lib.hid r8; have H4 := Lib.hid r4
  obtain ⟨⟨c0, c1, c2, c3, c4, c5, c6, c7⟩, c8⟩ := row8 r5
  obtain ⟨a0, a1, a2⟩ := row3 r4
  clear r4 r5 r8 B0
  have q1 : IntKind.i64.wrap (t - m) = t - m := IntWalk.i64_in _ (by omega)
  have hc : ((0 : Int) == 0) = true := rfl
  rcases hv with rfl | rfl
  · go_enter Try.func83, Try.ntmps83
    go_upto_region 2 with (fail)
    rw [← eW, ← e8, ← e5, ← e4]
    clear eW e8 e5 e4
    go_upto_region 4 with (fail)
    obtain ⟨X, n, eX, en, ⟨ln, lX, lw⟩, s4, s5, s8, sn, BX⟩ := rnext_at (rnA 1 e m 0 0) ⟨l4, l5, l8⟩ H4.out H5.out H8.out HB0.out
    rw [← eX, ← en]
    clear eX en c0 c1 c2 c3 c4 c5 c6 c7 c8 a0 a1 a2 H4 H5 H8 HB0
    obtain ⟨⟨c0, c1, c2, c3, c4, c5, c6, c7⟩, c8⟩ := row8 s5
    obtain ⟨⟨n0, n1, n2, n3, n4, n5, n6, n7⟩, n8⟩ := row8 sn
    obtain ⟨a0, a1, a2⟩ := row3 s4
    have HBX := Lib.hid BX; have H4 := Lib.hid s4; have H5 := Lib.hid s5; have H8 := Lib.hid s8; have Hn := Lib.hid sn
    clear s4 s5 s8 sn BX
    have N8 : RowAt (X.setCell ⟨n, 3, none⟩ (.int .i64 0)) b8 39 (rnA 0 0 0 0 0) := H8.out.other _ _ (by simp only; omega)
    have NB : Below w.heap.size w (X.setCell ⟨n, 3, none⟩ (.int .i64 0)) := HBX.out.setCell (by simp only; omega) _
    go_wp2_with (first | (refine wpList_store_at N8 (Nat.le_refl _) (rnA 1 e m 0 0) (.tmp 8) (.tmp 45) 39 rfl rfl rfl rfl (by kernel_rfl) rfl rfl ?_; intro w9 r9 b9; obtain ⟨⟨p0, p1, p2, p3, p4, p5, p6, p7⟩, p8⟩ := row8 r9))
    (try simp only [Exit.inBlock, Exit.then]); refine bodyPost_ret (by simp [results, Try.results83, go_sem, p0, p1, p2, p3, p4, p5, p6, p7]; try rfl) rfl ?_
    exact ⟨rfl, NB.trans (b9.mono (by omega))⟩
  · go_enter Try.func83, Try.ntmps83
    go_upto_region 2 with (fail)
    rw [← eW, ← e8, ← e5, ← e4]
    clear eW e8 e5 e4
    go_upto_region 4 with (fail)
    obtain ⟨X, n, eX, en, ⟨ln, lX, lw⟩, s4, s5, s8, sn, BX⟩ := rnext_at (rnA 1 e m 0 1) ⟨l4, l5, l8⟩ H4.out H5.out H8.out HB0.out
    rw [← eX, ← en]
    clear eX en c0 c1 c2 c3 c4 c5 c6 c7 c8 a0 a1 a2 H4 H5 H8 HB0
    obtain ⟨⟨c0, c1, c2, c3, c4, c5, c6, c7⟩, c8⟩ := row8 s5
    obtain ⟨⟨n0, n1, n2, n3, n4, n5, n6, n7⟩, n8⟩ := row8 sn
    obtain ⟨a0, a1, a2⟩ := row3 s4
    have HBX := Lib.hid BX; have H4 := Lib.hid s4; have H5 := Lib.hid s5; have H8 := Lib.hid s8; have Hn := Lib.hid sn
    clear s4 s5 s8 sn BX
    have N8 : RowAt (((X.setCell ⟨n, 3, none⟩ (.int .i64 0)).setCell ⟨n, 3, none⟩ (.int .i64 1)).setCell ⟨n, 2, none⟩ (.int .i64 t)) b8 39 (rnA 0 0 0 0 0) := ((H8.out.other _ _ (by simp only; omega)).other _ _ (by simp only; omega)).other _ _ (by simp only; omega)
    have NB : Below w.heap.size w (((X.setCell ⟨n, 3, none⟩ (.int .i64 0)).setCell ⟨n, 3, none⟩ (.int .i64 1)).setCell ⟨n, 2, none⟩ (.int .i64 t)) := ((HBX.out.setCell (by simp only; omega) _).setCell (by simp only; omega) _).setCell (by simp only; omega) _
    go_wp2_with (first | (refine wpList_store_at N8 (Nat.le_refl _) (rnA 1 e t 1 1) (.tmp 8) (.tmp 45) 39 rfl rfl rfl rfl (by kernel_rfl) rfl rfl ?_; intro w9 r9 b9; obtain ⟨⟨p0, p1, p2, p3, p4, p5, p6, p7⟩, p8⟩ := row8 r9))
    (try simp only [Exit.inBlock, Exit.then]); refine bodyPost_ret (by simp [results, Try.results83, go_sem, p0, p1, p2, p3, p4, p5, p6, p7]; try rfl) rfl ?_
    exact ⟨rfl, NB.trans (b9.mono (by omega))⟩

set_option maxRecDepth 20000 in
set_option maxHeartbeats 8000000 in
/-- The edge is much too late. -/
theorem redge_big (N D e m p t v : Int) (z : Bool) (w : World) (h : Bt N D) (hv : v = 0 ∨ v = 1) (hm : 0 ≤ m ∧ m ≤ t) (ht : t ≤ 1099511627776) (hb : 4194304 ≤ t - m) :
    Calls Try.prog 83 #[.agg (manA N D z), .agg (rnA 1 e m 1 p), .int .i64 t, .int .i64 v] w fun r w' => r = .returned (.tuple #[.agg (rnA 1 e (if v = 1 then t else m) (if v = 1 then 1 else 0) v), .slice none 0 0]) ∧ Below w.heap.size w w' := by
  have d1 := h.d1; have d2 := h.d2; have n1' := h.n1; have n2' := h.n2
  obtain ⟨W, b4, b5, b8, eW, e8, e5, e4, ⟨l4, l5, l8, l0⟩, r4, r5, r8, B0⟩ := rbox_at w N D z (rnA 1 e m 1 p) (rnA 0 0 0 0 0)
  have HB0 := Lib.hid B0; have H5 := Lib.hid r5; have H8 := Lib.hid r8; have H4 := Lib.hid r4
  obtain ⟨⟨c0, c1, c2, c3, c4, c5, c6, c7⟩, c8⟩ := row8 r5
  obtain ⟨a0, a1, a2⟩ := row3 r4
  clear r4 r5 r8 B0
  have q1 : IntKind.i64.wrap (t - m) = t - m := IntWalk.i64_in _ (by omega)
  have hc : ((1 : Int) == 0) = false := rfl
  rcases hv with rfl | rfl
  · go_enter Try.func83, Try.ntmps83
    go_upto_region 2 with (fail)
    rw [← eW, ← e8, ← e5, ← e4]
    clear eW e8 e5 e4
    go_upto_region 4 with (fail)
    obtain ⟨X, n, eX, en, ⟨ln, lX, lw⟩, s4, s5, s8, sn, BX⟩ := rnext_at (rnA 1 e m 1 0) ⟨l4, l5, l8⟩ H4.out H5.out H8.out HB0.out
    rw [← eX, ← en]
    clear eX en c0 c1 c2 c3 c4 c5 c6 c7 c8 a0 a1 a2 H4 H5 H8 HB0
    obtain ⟨⟨c0, c1, c2, c3, c4, c5, c6, c7⟩, c8⟩ := row8 s5
    obtain ⟨⟨n0, n1, n2, n3, n4, n5, n6, n7⟩, n8⟩ := row8 sn
    obtain ⟨a0, a1, a2⟩ := row3 s4
    have HBX := Lib.hid BX; have H4 := Lib.hid s4; have H5 := Lib.hid s5; have H8 := Lib.hid s8; have Hn := Lib.hid sn
    clear s4 s5 s8 sn BX
    have N8 : RowAt (X.setCell ⟨n, 3, none⟩ (.int .i64 0)) b8 39 (rnA 0 0 0 0 0) := H8.out.other _ _ (by simp only; omega)
    have NB : Below w.heap.size w (X.setCell ⟨n, 3, none⟩ (.int .i64 0)) := HBX.out.setCell (by simp only; omega) _
    go_wp2_with (first | (refine wpList_store_at N8 (Nat.le_refl _) (rnA 1 e m 0 0) (.tmp 8) (.tmp 45) 39 rfl rfl rfl rfl (by kernel_rfl) rfl rfl ?_; intro w9 r9 b9; obtain ⟨⟨p0, p1, p2, p3, p4, p5, p6, p7⟩, p8⟩ := row8 r9))
    (try simp only [Exit.inBlock, Exit.then]); refine bodyPost_ret (by simp [results, Try.results83, go_sem, p0, p1, p2, p3, p4, p5, p6, p7]; try rfl) rfl ?_
    exact ⟨rfl, NB.trans (b9.mono (by omega))⟩
  · go_enter Try.func83, Try.ntmps83
    go_upto_region 2 with (fail)
    rw [← eW, ← e8, ← e5, ← e4]
    clear eW e8 e5 e4
    go_upto_region 4 with (fail)
    obtain ⟨X, n, eX, en, ⟨ln, lX, lw⟩, s4, s5, s8, sn, BX⟩ := rnext_at (rnA 1 e m 1 1) ⟨l4, l5, l8⟩ H4.out H5.out H8.out HB0.out
    rw [← eX, ← en]
    clear eX en c0 c1 c2 c3 c4 c5 c6 c7 c8 a0 a1 a2 H4 H5 H8 HB0
    obtain ⟨⟨c0, c1, c2, c3, c4, c5, c6, c7⟩, c8⟩ := row8 s5
    obtain ⟨⟨n0, n1, n2, n3, n4, n5, n6, n7⟩, n8⟩ := row8 sn
    obtain ⟨a0, a1, a2⟩ := row3 s4
    have HBX := Lib.hid BX; have H4 := Lib.hid s4; have H5 := Lib.hid s5; have H8 := Lib.hid s8; have Hn := Lib.hid sn
    clear s4 s5 s8 sn BX
    have N8 : RowAt (((X.setCell ⟨n, 3, none⟩ (.int .i64 0)).setCell ⟨n, 3, none⟩ (.int .i64 1)).setCell ⟨n, 2, none⟩ (.int .i64 t)) b8 39 (rnA 0 0 0 0 0) := ((H8.out.other _ _ (by simp only; omega)).other _ _ (by simp only; omega)).other _ _ (by simp only; omega)
    have NB : Below w.heap.size w (((X.setCell ⟨n, 3, none⟩ (.int .i64 0)).setCell ⟨n, 3, none⟩ (.int .i64 1)).setCell ⟨n, 2, none⟩ (.int .i64 t)) := ((HBX.out.setCell (by simp only; omega) _).setCell (by simp only; omega) _).setCell (by simp only; omega) _
    go_wp2_with (first | (refine wpList_store_at N8 (Nat.le_refl _) (rnA 1 e t 1 1) (.tmp 8) (.tmp 45) 39 rfl rfl rfl rfl (by kernel_rfl) rfl rfl ?_; intro w9 r9 b9; obtain ⟨⟨p0, p1, p2, p3, p4, p5, p6, p7⟩, p8⟩ := row8 r9))
    (try simp only [Exit.inBlock, Exit.then]); refine bodyPost_ret (by simp [results, Try.results83, go_sem, p0, p1, p2, p3, p4, p5, p6, p7]; try rfl) rfl ?_
    exact ⟨rfl, NB.trans (b9.mono (by omega))⟩

set_option maxRecDepth 20000 in
set_option maxHeartbeats 8000000 in
/-- The edge is too late. -/
theorem redge_late (N D e m p t v : Int) (z : Bool) (w : World) (h : Bt N D) (hv : v = 0 ∨ v = 1) (hm : 0 ≤ m ∧ m ≤ t) (ht : t ≤ 1099511627776) (hb : ¬ 4194304 ≤ t - m) (hl : 2 * N ≤ (t - m) * D) :
    Calls Try.prog 83 #[.agg (manA N D z), .agg (rnA 1 e m 1 p), .int .i64 t, .int .i64 v] w fun r w' => r = .returned (.tuple #[.agg (rnA 1 e (if v = 1 then t else m) (if v = 1 then 1 else 0) v), .slice none 0 0]) ∧ Below w.heap.size w w' := by
  have d1 := h.d1; have d2 := h.d2; have n1' := h.n1; have n2' := h.n2
  obtain ⟨W, b4, b5, b8, eW, e8, e5, e4, ⟨l4, l5, l8, l0⟩, r4, r5, r8, B0⟩ := rbox_at w N D z (rnA 1 e m 1 p) (rnA 0 0 0 0 0)
  have HB0 := Lib.hid B0; have H5 := Lib.hid r5; have H8 := Lib.hid r8; have H4 := Lib.hid r4
  obtain ⟨⟨c0, c1, c2, c3, c4, c5, c6, c7⟩, c8⟩ := row8 r5
  obtain ⟨a0, a1, a2⟩ := row3 r4
  clear r4 r5 r8 B0
  have q1 : IntKind.i64.wrap (t - m) = t - m := IntWalk.i64_in _ (by omega)
  have hc : ((1 : Int) == 0) = false := rfl
  have hd0 : 0 ≤ (t - m) * D := Int.mul_nonneg (by omega) (by omega)
  have hd1 : (t - m) * D ≤ 4194304 * D := Int.mul_le_mul_of_nonneg_right (by omega) (by omega)
  have q2 : IntKind.i64.wrap ((t - m) * D) = (t - m) * D := IntWalk.i64_in _ (by omega)
  have q3 : IntKind.i64.wrap (2 * N) = 2 * N := IntWalk.i64_in _ (by omega)
  rcases hv with rfl | rfl
  · go_enter Try.func83, Try.ntmps83
    go_upto_region 2 with (fail)
    rw [← eW, ← e8, ← e5, ← e4]
    clear eW e8 e5 e4
    go_upto_region 4 with (fail)
    obtain ⟨X, n, eX, en, ⟨ln, lX, lw⟩, s4, s5, s8, sn, BX⟩ := rnext_at (rnA 1 e m 1 0) ⟨l4, l5, l8⟩ H4.out H5.out H8.out HB0.out
    rw [← eX, ← en]
    clear eX en c0 c1 c2 c3 c4 c5 c6 c7 c8 a0 a1 a2 H4 H5 H8 HB0
    obtain ⟨⟨c0, c1, c2, c3, c4, c5, c6, c7⟩, c8⟩ := row8 s5
    obtain ⟨⟨n0, n1, n2, n3, n4, n5, n6, n7⟩, n8⟩ := row8 sn
    obtain ⟨a0, a1, a2⟩ := row3 s4
    have HBX := Lib.hid BX; have H4 := Lib.hid s4; have H5 := Lib.hid s5; have H8 := Lib.hid s8; have Hn := Lib.hid sn
    clear s4 s5 s8 sn BX
    have N8 : RowAt (X.setCell ⟨n, 3, none⟩ (.int .i64 0)) b8 39 (rnA 0 0 0 0 0) := H8.out.other _ _ (by simp only; omega)
    have NB : Below w.heap.size w (X.setCell ⟨n, 3, none⟩ (.int .i64 0)) := HBX.out.setCell (by simp only; omega) _
    go_wp2_with (first | (refine wpList_store_at N8 (Nat.le_refl _) (rnA 1 e m 0 0) (.tmp 8) (.tmp 45) 39 rfl rfl rfl rfl (by kernel_rfl) rfl rfl ?_; intro w9 r9 b9; obtain ⟨⟨p0, p1, p2, p3, p4, p5, p6, p7⟩, p8⟩ := row8 r9))
    (try simp only [Exit.inBlock, Exit.then]); refine bodyPost_ret (by simp [results, Try.results83, go_sem, p0, p1, p2, p3, p4, p5, p6, p7]; try rfl) rfl ?_
    exact ⟨rfl, NB.trans (b9.mono (by omega))⟩
  · go_enter Try.func83, Try.ntmps83
    go_upto_region 2 with (fail)
    rw [← eW, ← e8, ← e5, ← e4]
    clear eW e8 e5 e4
    go_upto_region 4 with (fail)
    obtain ⟨X, n, eX, en, ⟨ln, lX, lw⟩, s4, s5, s8, sn, BX⟩ := rnext_at (rnA 1 e m 1 1) ⟨l4, l5, l8⟩ H4.out H5.out H8.out HB0.out
    rw [← eX, ← en]
    clear eX en c0 c1 c2 c3 c4 c5 c6 c7 c8 a0 a1 a2 H4 H5 H8 HB0
    obtain ⟨⟨c0, c1, c2, c3, c4, c5, c6, c7⟩, c8⟩ := row8 s5
    obtain ⟨⟨n0, n1, n2, n3, n4, n5, n6, n7⟩, n8⟩ := row8 sn
    obtain ⟨a0, a1, a2⟩ := row3 s4
    have HBX := Lib.hid BX; have H4 := Lib.hid s4; have H5 := Lib.hid s5; have H8 := Lib.hid s8; have Hn := Lib.hid sn
    clear s4 s5 s8 sn BX
    have N8 : RowAt (((X.setCell ⟨n, 3, none⟩ (.int .i64 0)).setCell ⟨n, 3, none⟩ (.int .i64 1)).setCell ⟨n, 2, none⟩ (.int .i64 t)) b8 39 (rnA 0 0 0 0 0) := ((H8.out.other _ _ (by simp only; omega)).other _ _ (by simp only; omega)).other _ _ (by simp only; omega)
    have NB : Below w.heap.size w (((X.setCell ⟨n, 3, none⟩ (.int .i64 0)).setCell ⟨n, 3, none⟩ (.int .i64 1)).setCell ⟨n, 2, none⟩ (.int .i64 t)) := ((HBX.out.setCell (by simp only; omega) _).setCell (by simp only; omega) _).setCell (by simp only; omega) _
    go_wp2_with (first | (refine wpList_store_at N8 (Nat.le_refl _) (rnA 1 e t 1 1) (.tmp 8) (.tmp 45) 39 rfl rfl rfl rfl (by kernel_rfl) rfl rfl ?_; intro w9 r9 b9; obtain ⟨⟨p0, p1, p2, p3, p4, p5, p6, p7⟩, p8⟩ := row8 r9))
    (try simp only [Exit.inBlock, Exit.then]); refine bodyPost_ret (by simp [results, Try.results83, go_sem, p0, p1, p2, p3, p4, p5, p6, p7]; try rfl) rfl ?_
    exact ⟨rfl, NB.trans (b9.mono (by omega))⟩

end Go.Proofs.Ytmbeaagpjpphhaa
