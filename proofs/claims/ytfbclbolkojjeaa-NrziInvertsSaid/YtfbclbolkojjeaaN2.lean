/-
  Layer 16: the walks of Step, the program's and the specification's.
-/
import Derived.Test.YtfbclbolkojjeaaN1
namespace Go.Proofs.Ytfbclbolkojjeaa
open Go Go.RowKit Go.Joins
set_option linter.unusedVariables false
set_option linter.unusedSimpArgs false

/-- The boxes of a step: configuration, state, event, result. -/
theorem boxes_at (w : World) (z : Bool) (S : Array Value) (k f t v a : Int) (s : ByteArray) (u : Int) (Z : Array Value) : ∃ W b3 b4 b5 b6, W = (((w.alloc (.cells #[.bool z] 59)).alloc (.cells S 39)).alloc (.cells (evA k f t v a s u) 44)).alloc (.cells Z 39) ∧ b6 = w.heap.size + 1 + 1 + 1 ∧ b5 = w.heap.size + 1 + 1 ∧ b4 = w.heap.size + 1 ∧ b3 = w.heap.size ∧ (b3 < b4 ∧ b4 < b5 ∧ b5 < b6 ∧ b6 < W.heap.size ∧ w.heap.size ≤ b3) ∧
    RowAt W b3 59 #[.bool z] ∧ RowAt W b4 39 S ∧ RowAt W b5 44 (evA k f t v a s u) ∧ RowAt W b6 39 Z ∧ Below w.heap.size w W := by
  refine ⟨_, _, _, _, _, rfl, rfl, rfl, rfl, rfl, by simp only [World.size_alloc]; omega, ?_, ?_, ?_, ?_, by (repeat' (first | with_reducible exact Below.refl _ _ | with_reducible exact Nat.le_refl _ | with_reducible assumption | with_reducible refine below_drewN ?_ _ | with_reducible refine Below.drew ?_ | with_reducible refine Below.trans ?_ (Below.mono (by assumption) ?_) | with_reducible refine Below.alloc ?_ ?_ _ | with_reducible refine Below.setCell ?_ ?_ _ | with_reducible refine le_setCell ?_ _ _ | with_reducible refine le_alloc ?_ _ | with_reducible refine le_drewN ?_ _ | with_reducible refine le_drew ?_ | with_reducible refine Nat.le_trans ?_ (Below.size (by assumption)) | (simp only [World.size_alloc, World.size_setCell]; omega) | omega))⟩
  · exact (((RowAt.new w _ _).alloc _).alloc _).alloc _
  · exact ((RowAt.at (by simp only [World.size_alloc])).alloc _).alloc _
  · exact (RowAt.at (by simp only [World.size_alloc])).alloc _
  · exact RowAt.at (by simp only [World.size_alloc])
theorem row8 {w : World} {b : Nat} {T : TypeId} {x0 x1 x2 x3 x4 x5 x6 x7 : Value} (h : RowAt w b T #[x0, x1, x2, x3, x4, x5, x6, x7]) : (w.cell? ⟨b, 0, none⟩ = some x0 ∧ w.cell? ⟨b, 1, none⟩ = some x1 ∧ w.cell? ⟨b, 2, none⟩ = some x2 ∧ w.cell? ⟨b, 3, none⟩ = some x3 ∧ w.cell? ⟨b, 4, none⟩ = some x4 ∧ w.cell? ⟨b, 5, none⟩ = some x5 ∧ w.cell? ⟨b, 6, none⟩ = some x6 ∧ w.cell? ⟨b, 7, none⟩ = some x7) ∧ ∀ j, w.frozen? ⟨b, j, none⟩ = false :=
  ⟨⟨h.cell 0, h.cell 1, h.cell 2, h.cell 3, h.cell 4, h.cell 5, h.cell 6, h.cell 7⟩, fun j => h.frozen j⟩
theorem row7 {w : World} {b : Nat} {T : TypeId} {x0 x1 x2 x3 x4 x5 x6 : Value} (h : RowAt w b T #[x0, x1, x2, x3, x4, x5, x6]) : (w.cell? ⟨b, 0, none⟩ = some x0 ∧ w.cell? ⟨b, 1, none⟩ = some x1 ∧ w.cell? ⟨b, 2, none⟩ = some x2 ∧ w.cell? ⟨b, 3, none⟩ = some x3 ∧ w.cell? ⟨b, 4, none⟩ = some x4 ∧ w.cell? ⟨b, 5, none⟩ = some x5 ∧ w.cell? ⟨b, 6, none⟩ = some x6) ∧ ∀ j, w.frozen? ⟨b, j, none⟩ = false :=
  ⟨⟨h.cell 0, h.cell 1, h.cell 2, h.cell 3, h.cell 4, h.cell 5, h.cell 6⟩, fun j => h.frozen j⟩

set_option maxRecDepth 20000 in
set_option maxHeartbeats 8000000 in
theorem step_no (z : Bool) (q p k f t v a : Int) (s : ByteArray) (u : Int) (w : World) (hs : s.size ≤ 140737488351232) (h : ¬ AcP q k f t v a s.size u) : Calls Try.prog 36 #[.agg #[.bool z], .agg (stP q p), .agg (evA k f t v a s u)] w fun e w' => e = .returned (.tuple #[.agg (stP q p), .slice none 0 0]) ∧ Below w.heap.size w w' := by
  have HA : Hid (∀ W, Calls Try.prog 68 #[.int .i64 q, .agg (evA k f t v a s u)] W fun e w' => e = .returned (.bool false) ∧ Below W.heap.size W w') := Lib.hid fun W => by have := accepts_xy q k f t v a s u W hs; rwa [decide_eq_false h] at this
  obtain ⟨W, b3, b4, b5, b6, eW, e6, e5, e4, e3, ⟨l3, l4, l5, l6, l0⟩, r0, r1, r2, r3, B0⟩ := boxes_at w z (stP q p) k f t v a s u (stP 0 0)
  have HB0 := Lib.hid B0
  go_enter Try.func36, Try.ntmps36
  go_wp2_with (first | (rw [← eW, ← e6, ← e5, ← e4, ← e3]; clear eW e6 e5 e4 e3; go_at_call 68; go_must (refine (HA.out _).mono ?_; rintro e1 w1 ⟨rfl, b1⟩; obtain ⟨⟨c0, c1, c2, c3, c4, c5, c6, c7⟩, c8⟩ := row8 (r1.keep b1); have B1 := Lib.hid (HB0.out.trans (b1.mono HB0.out.size)); have R3 := Lib.hid (r3.keep b1))) | (refine wpList_store_at R3.out (Nat.le_refl _) (stP q p) (.tmp 6) (.tmp 15) 39 rfl rfl rfl rfl (by kernel_rfl) rfl rfl ?_; intro w9 r9 b9; obtain ⟨⟨p0, p1, p2, p3, p4, p5, p6, p7⟩, p8⟩ := row8 r9))
  (try simp only [Exit.inBlock, Exit.then]); refine bodyPost_ret (by simp [results, Try.results36, go_sem, p0, p1, p2, p3, p4, p5, p6, p7]; try rfl) rfl ?_
  have B2 := HB0.out.trans (b1.mono HB0.out.size)
  exact ⟨rfl, by (repeat' (first | with_reducible exact Below.refl _ _ | with_reducible exact Nat.le_refl _ | with_reducible assumption | with_reducible refine below_drewN ?_ _ | with_reducible refine Below.drew ?_ | with_reducible refine Below.trans ?_ (Below.mono (by assumption) ?_) | with_reducible refine Below.alloc ?_ ?_ _ | with_reducible refine Below.setCell ?_ ?_ _ | with_reducible refine le_setCell ?_ _ _ | with_reducible refine le_alloc ?_ _ | with_reducible refine le_drewN ?_ _ | with_reducible refine le_drew ?_ | with_reducible refine Nat.le_trans ?_ (Below.size (by assumption)) | (simp only [World.size_alloc, World.size_setCell]; omega) | omega))⟩

set_option maxRecDepth 20000 in
set_option maxHeartbeats 8000000 in
theorem refStep_no (z : Bool) (q p k f t v a : Int) (s : ByteArray) (u : Int) (w : World) (hs : s.size ≤ 140737488351232) (h : ¬ AcP q k f t v a s.size u) : Calls Try.prog 37 #[.agg #[.bool z], .agg (stR q p), .agg (evA k f t v a s u)] w fun e w' => e = .returned (.tuple #[.agg (stR q p), .slice none 0 0]) ∧ Below w.heap.size w w' := by
  have HA : Hid (∀ W, Calls Try.prog 69 #[.agg (evA k f t v a s u), .int .i64 q] W fun e w' => e = .returned (.bool false) ∧ Below W.heap.size W w') := Lib.hid fun W => by have := refAccepts_xy q k f t v a s u W hs; rwa [decide_eq_false h] at this
  obtain ⟨W, b3, b4, b5, b6, eW, e6, e5, e4, e3, ⟨l3, l4, l5, l6, l0⟩, r0, r1, r2, r3, B0⟩ := boxes_at w z (stR q p) k f t v a s u (stR 0 0)
  have HB0 := Lib.hid B0
  go_enter Try.func37, Try.ntmps37
  go_wp2_with (first | (rw [← eW, ← e6, ← e5, ← e4, ← e3]; clear eW e6 e5 e4 e3; go_at_call 69; go_must (refine (HA.out _).mono ?_; rintro e1 w1 ⟨rfl, b1⟩; obtain ⟨⟨c0, c1, c2, c3, c4, c5, c6, c7⟩, c8⟩ := row8 (r1.keep b1); have B1 := Lib.hid (HB0.out.trans (b1.mono HB0.out.size)); have R3 := Lib.hid (r3.keep b1))) | (refine wpList_store_at R3.out (Nat.le_refl _) (stR q p) (.tmp 6) (.tmp 14) 39 rfl rfl rfl rfl (by kernel_rfl) rfl rfl ?_; intro w9 r9 b9; obtain ⟨⟨p0, p1, p2, p3, p4, p5, p6, p7⟩, p8⟩ := row8 r9))
  (try simp only [Exit.inBlock, Exit.then]); refine bodyPost_ret (by simp [results, Try.results37, go_sem, p0, p1, p2, p3, p4, p5, p6, p7]; try rfl) rfl ?_
  have B2 := HB0.out.trans (b1.mono HB0.out.size)
  exact ⟨rfl, by (repeat' (first | with_reducible exact Below.refl _ _ | with_reducible exact Nat.le_refl _ | with_reducible assumption | with_reducible refine below_drewN ?_ _ | with_reducible refine Below.drew ?_ | with_reducible refine Below.trans ?_ (Below.mono (by assumption) ?_) | with_reducible refine Below.alloc ?_ ?_ _ | with_reducible refine Below.setCell ?_ ?_ _ | with_reducible refine le_setCell ?_ _ _ | with_reducible refine le_alloc ?_ _ | with_reducible refine le_drewN ?_ _ | with_reducible refine le_drew ?_ | with_reducible refine Nat.le_trans ?_ (Below.size (by assumption)) | (simp only [World.size_alloc, World.size_setCell]; omega) | omega))⟩

/-- Behind the state's two stores and the new event. -/
theorem after_at {w W0 : World} {b4 b6 : Nat} {S Z : Array Value} (n f t v a : Int) (u : Int) (R1 : RowAt W0 b4 39 S) (R3 : RowAt W0 b6 39 Z) (B : Below w.heap.size w W0) :
    ∃ w2 b8, w2 = W0.alloc (.cells (evA 2 f t n a ⟨#[]⟩ u) 44) ∧ b8 = W0.heap.size ∧ b4 < b8 ∧ b6 < b8 ∧ b4 < w2.heap.size ∧ b6 < w2.heap.size ∧ b8 < w2.heap.size ∧ RowAt w2 b4 39 S ∧ RowAt w2 b6 39 Z ∧ RowAt w2 b8 44 (evA 2 f t n a ⟨#[]⟩ u) ∧ Below w.heap.size w w2 := by
  have := R1.lt
  have := R3.lt
  refine ⟨_, _, rfl, rfl, R1.lt, R3.lt, ?_, ?_, ?_, R1.alloc _, R3.alloc _, RowAt.new _ _ _, B.alloc B.size _⟩ <;> rw [World.size_alloc] <;> omega
theorem set8 {w : World} {q : Nat} {T : TypeId} {z0 z1 z2 z3 z4 z5 z6 z7 x0 x1 x2 x3 x4 x5 x6 x7 : Value} (h : RowAt w q T #[z0, z1, z2, z3, z4, z5, z6, z7]) : RowAt ((((((((w.setCell ⟨q, 0, none⟩ x0).setCell ⟨q, 1, none⟩ x1).setCell ⟨q, 2, none⟩ x2).setCell ⟨q, 3, none⟩ x3).setCell ⟨q, 4, none⟩ x4).setCell ⟨q, 5, none⟩ x5).setCell ⟨q, 6, none⟩ x6).setCell ⟨q, 7, none⟩ x7) q T #[x0, x1, x2, x3, x4, x5, x6, x7] := by
  simpa using (((((((h.set 0 x0).set 1 x1).set 2 x2).set 3 x3).set 4 x4).set 5 x5).set 6 x6).set 7 x7
/-- The end of a step: the state in the result, the event in a literal. -/
theorem end_at {w w2 : World} {b6 : Nat} {z0 z1 z2 z3 z4 z5 z6 z7 : Value} (x0 x1 x2 x3 x4 x5 x6 x7 : Value) (n f t a u : Int) (q6 : RowAt w2 b6 39 #[z0, z1, z2, z3, z4, z5, z6, z7]) (B : Below w.heap.size w w2) (hb : w.heap.size ≤ b6) :
    ∃ w9, w9 = ((((((((w2.setCell ⟨b6, 0, none⟩ x0).setCell ⟨b6, 1, none⟩ x1).setCell ⟨b6, 2, none⟩ x2).setCell ⟨b6, 3, none⟩ x3).setCell ⟨b6, 4, none⟩ x4).setCell ⟨b6, 5, none⟩ x5).setCell ⟨b6, 6, none⟩ x6).setCell ⟨b6, 7, none⟩ x7).alloc (.cells (evA 2 f t n a ⟨#[]⟩ u) 44) ∧
      RowAt w9 b6 39 #[x0, x1, x2, x3, x4, x5, x6, x7] ∧ EvRow w9 w.heap.size (.slice (some ⟨w2.heap.size, 0, none⟩) 1 1) [⟨2, f, t, n, a, [], u⟩] ∧ Below w.heap.size w w9 := by
  have B8 : Below w.heap.size w ((((((((w2.setCell ⟨b6, 0, none⟩ x0).setCell ⟨b6, 1, none⟩ x1).setCell ⟨b6, 2, none⟩ x2).setCell ⟨b6, 3, none⟩ x3).setCell ⟨b6, 4, none⟩ x4).setCell ⟨b6, 5, none⟩ x5).setCell ⟨b6, 6, none⟩ x6).setCell ⟨b6, 7, none⟩ x7) := (((((((B.setCell hb _).setCell hb _).setCell hb _).setCell hb _).setCell hb _).setCell hb _).setCell hb _).setCell hb _
  refine ⟨_, rfl, (set8 q6).alloc _, ?_, B8.alloc B8.size _⟩
  have hz : ((((((((w2.setCell ⟨b6, 0, none⟩ x0).setCell ⟨b6, 1, none⟩ x1).setCell ⟨b6, 2, none⟩ x2).setCell ⟨b6, 3, none⟩ x3).setCell ⟨b6, 4, none⟩ x4).setCell ⟨b6, 5, none⟩ x5).setCell ⟨b6, 6, none⟩ x6).setCell ⟨b6, 7, none⟩ x7).heap.size = w2.heap.size := by simp only [World.size_setCell]
  rw [← hz]
  exact KRow.lit evC_size _ _ B8.size [(⟨2, f, t, n, a, [], u⟩ : Ev)] _ rfl 1 rfl (by simp)

set_option maxRecDepth 20000 in
set_option maxHeartbeats 8000000 in
theorem step_yes (z : Bool) (q p k f t v a : Int) (s : ByteArray) (u : Int) (w : World) (hs : s.size ≤ 140737488351232) (h : AcP q k f t v a s.size u) : Calls Try.prog 36 #[.agg #[.bool z], .agg (stP q p), .agg (evA k f t v a s u)] w fun e w' => ∃ V, e = .returned (.tuple #[.agg (stP f v), V]) ∧ EvRow w' w.heap.size V [⟨2, f, t, nvI z v p, a, [], u⟩] ∧ Below w.heap.size w w' := by
  have HA : Hid (∀ W, Calls Try.prog 68 #[.int .i64 q, .agg (evA k f t v a s u)] W fun e w' => e = .returned (.bool true) ∧ Below W.heap.size W w') := Lib.hid fun W => by have := accepts_xy q k f t v a s u W hs; rwa [decide_eq_true h] at this
  obtain ⟨W, b3, b4, b5, b6, eW, e6, e5, e4, e3, ⟨l3, l4, l5, l6, l0⟩, r0, r1, r2, r3, B0⟩ := boxes_at w z (stP q p) k f t v a s u (stP 0 0)
  have HB0 := Lib.hid B0
  have HN : Hid (nvI z v p = if (decide (v ≠ p)) ≠ z then 1 else 0) := Lib.hid rfl
  generalize nvI z v p = NV at *
  clear h
  by_cases hvp : v = p
  · subst hvp
    cases z
    · obtain rfl : NV = 0 := by rw [HN.out]; simp
      go_enter Try.func36, Try.ntmps36
      go_wp2_with (first | (rw [← eW, ← e6, ← e5, ← e4, ← e3]; clear eW e6 e5 e4 e3; go_at_call 68; go_must (refine (HA.out _).mono ?_; rintro e1 w1 ⟨rfl, b1⟩; have s1 := b1.size; have n3 : b3 < w1.heap.size := (by omega); have n4 : b4 < w1.heap.size := (by omega); have n5 : b5 < w1.heap.size := (by omega); have n6 : b6 < w1.heap.size := (by omega); have c0 := (r0.keep b1).get1; obtain ⟨⟨d0, d1, d2, d3, d4, d5, d6, d7⟩, d8⟩ := row8 (r1.keep b1); obtain ⟨⟨f0, f1, f2, f3, f4, f5, f6⟩, f7⟩ := row7 (r2.keep b1); have R1 := Lib.hid (r1.keep b1); have R3 := Lib.hid (r3.keep b1))))
      go_region
      go_wp2
      have R1' : RowAt ((w1.setCell ⟨b4, 2, none⟩ (.int .i64 f)).setCell ⟨b4, 6, none⟩ (.int .i64 v)) b4 39 (stP f v) := by simpa using (R1.out.set 2 (.int .i64 f)).set 6 (.int .i64 v)
      have R3' := (R3.out.other ⟨b4, 2, none⟩ (.int .i64 f) (by simp only; omega)).other ⟨b4, 6, none⟩ (.int .i64 v) (by simp only; omega)
      have B2 : Below w.heap.size w ((w1.setCell ⟨b4, 2, none⟩ (.int .i64 f)).setCell ⟨b4, 6, none⟩ (.int .i64 v)) := (((HB0.out.trans (b1.mono HB0.out.size)).setCell (by simp only; omega) _).setCell (by simp only; omega) _)
      have hz0 : ((w1.setCell ⟨b4, 2, none⟩ (.int .i64 f)).setCell ⟨b4, 6, none⟩ (.int .i64 v)).heap.size = w1.heap.size := by rw [World.size_setCell, World.size_setCell]
      obtain ⟨w2, b8, e2, e8, m4, m6, m7, m8, m9, q4, q6, q8, B3⟩ := after_at 0 f t v a u R1' R3' B2
      rw [hz0] at e8
      rw [← e2, ← e8]
      obtain ⟨⟨g0, g1, g2, g3, g4, g5, g6, g7⟩, g8⟩ := row8 q4
      obtain ⟨⟨h0, h1, h2, h3, h4, h5, h6⟩, h7⟩ := row7 q8
      obtain ⟨⟨i0, i1, i2, i3, i4, i5, i6, i7⟩, i8⟩ := row8 q6
      have hb3 := Lib.hid B3
      have hq6 := Lib.hid q6
      clear R1' R3' B2 hz0 e2 e8 q4 q6 q8 B3 R1 R3 n3 n4 n5 n6 s1 c0 d0 d1 d2 d3 d4 d5 d6 d7 d8 f0 f1 f2 f3 f4 f5 f6 f7 r0 r1 r2 r3 B0
      go_region
      obtain ⟨w9, e9, r9, k9, B9⟩ := end_at (.int .i64 0) (.int .i64 0) (.int .i64 f) (.int .i64 0) (.int .i64 0) (.int .i64 0) (.int .i64 v) (.string ⟨#[]⟩) 0 f t a u hq6.out hb3.out (by omega)
      rw [← e9]
      clear e9
      obtain ⟨⟨p0, p1, p2, p3, p4, p5, p6, p7⟩, p8⟩ := row8 r9
      have K9 := Lib.hid k9
      clear k9
      go_wp2
      (try simp only [Exit.inBlock, Exit.then]); refine bodyPost_ret (by simp [results, Try.results36, go_sem, p0, p1, p2, p3, p4, p5, p6, p7]; try rfl) rfl ?_
      exact ⟨_, rfl, K9.out, B9.drew.drew⟩
    · obtain rfl : NV = 1 := by rw [HN.out]; simp
      go_enter Try.func36, Try.ntmps36
      go_wp2_with (first | (rw [← eW, ← e6, ← e5, ← e4, ← e3]; clear eW e6 e5 e4 e3; go_at_call 68; go_must (refine (HA.out _).mono ?_; rintro e1 w1 ⟨rfl, b1⟩; have s1 := b1.size; have n3 : b3 < w1.heap.size := (by omega); have n4 : b4 < w1.heap.size := (by omega); have n5 : b5 < w1.heap.size := (by omega); have n6 : b6 < w1.heap.size := (by omega); have c0 := (r0.keep b1).get1; obtain ⟨⟨d0, d1, d2, d3, d4, d5, d6, d7⟩, d8⟩ := row8 (r1.keep b1); obtain ⟨⟨f0, f1, f2, f3, f4, f5, f6⟩, f7⟩ := row7 (r2.keep b1); have R1 := Lib.hid (r1.keep b1); have R3 := Lib.hid (r3.keep b1))))
      go_region
      go_wp2
      have R1' : RowAt ((w1.setCell ⟨b4, 2, none⟩ (.int .i64 f)).setCell ⟨b4, 6, none⟩ (.int .i64 v)) b4 39 (stP f v) := by simpa using (R1.out.set 2 (.int .i64 f)).set 6 (.int .i64 v)
      have R3' := (R3.out.other ⟨b4, 2, none⟩ (.int .i64 f) (by simp only; omega)).other ⟨b4, 6, none⟩ (.int .i64 v) (by simp only; omega)
      have B2 : Below w.heap.size w ((w1.setCell ⟨b4, 2, none⟩ (.int .i64 f)).setCell ⟨b4, 6, none⟩ (.int .i64 v)) := (((HB0.out.trans (b1.mono HB0.out.size)).setCell (by simp only; omega) _).setCell (by simp only; omega) _)
      have hz0 : ((w1.setCell ⟨b4, 2, none⟩ (.int .i64 f)).setCell ⟨b4, 6, none⟩ (.int .i64 v)).heap.size = w1.heap.size := by rw [World.size_setCell, World.size_setCell]
      obtain ⟨w2, b8, e2, e8, m4, m6, m7, m8, m9, q4, q6, q8, B3⟩ := after_at 1 f t v a u R1' R3' B2
      rw [hz0] at e8
      rw [← e2, ← e8]
      obtain ⟨⟨g0, g1, g2, g3, g4, g5, g6, g7⟩, g8⟩ := row8 q4
      obtain ⟨⟨h0, h1, h2, h3, h4, h5, h6⟩, h7⟩ := row7 q8
      obtain ⟨⟨i0, i1, i2, i3, i4, i5, i6, i7⟩, i8⟩ := row8 q6
      have hb3 := Lib.hid B3
      have hq6 := Lib.hid q6
      clear R1' R3' B2 hz0 e2 e8 q4 q6 q8 B3 R1 R3 n3 n4 n5 n6 s1 c0 d0 d1 d2 d3 d4 d5 d6 d7 d8 f0 f1 f2 f3 f4 f5 f6 f7 r0 r1 r2 r3 B0
      go_region
      obtain ⟨w9, e9, r9, k9, B9⟩ := end_at (.int .i64 0) (.int .i64 0) (.int .i64 f) (.int .i64 0) (.int .i64 0) (.int .i64 0) (.int .i64 v) (.string ⟨#[]⟩) 1 f t a u hq6.out hb3.out (by omega)
      rw [← e9]
      clear e9
      obtain ⟨⟨p0, p1, p2, p3, p4, p5, p6, p7⟩, p8⟩ := row8 r9
      have K9 := Lib.hid k9
      clear k9
      go_wp2
      (try simp only [Exit.inBlock, Exit.then]); refine bodyPost_ret (by simp [results, Try.results36, go_sem, p0, p1, p2, p3, p4, p5, p6, p7]; try rfl) rfl ?_
      exact ⟨_, rfl, K9.out, B9.drew.drew⟩
  · have hvp' : (v != p) = true := by simpa using hvp
    cases z
    · obtain rfl : NV = 1 := by rw [HN.out]; simp [hvp]
      clear hvp HN
      go_enter Try.func36, Try.ntmps36
      go_wp2_with (first | (rw [← eW, ← e6, ← e5, ← e4, ← e3]; clear eW e6 e5 e4 e3; go_at_call 68; go_must (refine (HA.out _).mono ?_; rintro e1 w1 ⟨rfl, b1⟩; have s1 := b1.size; have n3 : b3 < w1.heap.size := (by omega); have n4 : b4 < w1.heap.size := (by omega); have n5 : b5 < w1.heap.size := (by omega); have n6 : b6 < w1.heap.size := (by omega); have c0 := (r0.keep b1).get1; obtain ⟨⟨d0, d1, d2, d3, d4, d5, d6, d7⟩, d8⟩ := row8 (r1.keep b1); obtain ⟨⟨f0, f1, f2, f3, f4, f5, f6⟩, f7⟩ := row7 (r2.keep b1); have R1 := Lib.hid (r1.keep b1); have R3 := Lib.hid (r3.keep b1))))
      go_region
      go_wp2
      have R1' : RowAt ((w1.setCell ⟨b4, 2, none⟩ (.int .i64 f)).setCell ⟨b4, 6, none⟩ (.int .i64 v)) b4 39 (stP f v) := by simpa using (R1.out.set 2 (.int .i64 f)).set 6 (.int .i64 v)
      have R3' := (R3.out.other ⟨b4, 2, none⟩ (.int .i64 f) (by simp only; omega)).other ⟨b4, 6, none⟩ (.int .i64 v) (by simp only; omega)
      have B2 : Below w.heap.size w ((w1.setCell ⟨b4, 2, none⟩ (.int .i64 f)).setCell ⟨b4, 6, none⟩ (.int .i64 v)) := (((HB0.out.trans (b1.mono HB0.out.size)).setCell (by simp only; omega) _).setCell (by simp only; omega) _)
      have hz0 : ((w1.setCell ⟨b4, 2, none⟩ (.int .i64 f)).setCell ⟨b4, 6, none⟩ (.int .i64 v)).heap.size = w1.heap.size := by rw [World.size_setCell, World.size_setCell]
      obtain ⟨w2, b8, e2, e8, m4, m6, m7, m8, m9, q4, q6, q8, B3⟩ := after_at 1 f t v a u R1' R3' B2
      rw [hz0] at e8
      rw [← e2, ← e8]
      obtain ⟨⟨g0, g1, g2, g3, g4, g5, g6, g7⟩, g8⟩ := row8 q4
      obtain ⟨⟨h0, h1, h2, h3, h4, h5, h6⟩, h7⟩ := row7 q8
      obtain ⟨⟨i0, i1, i2, i3, i4, i5, i6, i7⟩, i8⟩ := row8 q6
      have hb3 := Lib.hid B3
      have hq6 := Lib.hid q6
      clear R1' R3' B2 hz0 e2 e8 q4 q6 q8 B3 R1 R3 n3 n4 n5 n6 s1 c0 d0 d1 d2 d3 d4 d5 d6 d7 d8 f0 f1 f2 f3 f4 f5 f6 f7 r0 r1 r2 r3 B0
      go_region
      obtain ⟨w9, e9, r9, k9, B9⟩ := end_at (.int .i64 0) (.int .i64 0) (.int .i64 f) (.int .i64 0) (.int .i64 0) (.int .i64 0) (.int .i64 v) (.string ⟨#[]⟩) 1 f t a u hq6.out hb3.out (by omega)
      rw [← e9]
      clear e9
      obtain ⟨⟨p0, p1, p2, p3, p4, p5, p6, p7⟩, p8⟩ := row8 r9
      have K9 := Lib.hid k9
      clear k9
      go_wp2
      (try simp only [Exit.inBlock, Exit.then]); refine bodyPost_ret (by simp [results, Try.results36, go_sem, p0, p1, p2, p3, p4, p5, p6, p7]; try rfl) rfl ?_
      exact ⟨_, rfl, K9.out, B9.drew.drew⟩
    · obtain rfl : NV = 0 := by rw [HN.out]; simp [hvp]
      clear hvp HN
      go_enter Try.func36, Try.ntmps36
      go_wp2_with (first | (rw [← eW, ← e6, ← e5, ← e4, ← e3]; clear eW e6 e5 e4 e3; go_at_call 68; go_must (refine (HA.out _).mono ?_; rintro e1 w1 ⟨rfl, b1⟩; have s1 := b1.size; have n3 : b3 < w1.heap.size := (by omega); have n4 : b4 < w1.heap.size := (by omega); have n5 : b5 < w1.heap.size := (by omega); have n6 : b6 < w1.heap.size := (by omega); have c0 := (r0.keep b1).get1; obtain ⟨⟨d0, d1, d2, d3, d4, d5, d6, d7⟩, d8⟩ := row8 (r1.keep b1); obtain ⟨⟨f0, f1, f2, f3, f4, f5, f6⟩, f7⟩ := row7 (r2.keep b1); have R1 := Lib.hid (r1.keep b1); have R3 := Lib.hid (r3.keep b1))))
      go_region
      go_wp2
      have R1' : RowAt ((w1.setCell ⟨b4, 2, none⟩ (.int .i64 f)).setCell ⟨b4, 6, none⟩ (.int .i64 v)) b4 39 (stP f v) := by simpa using (R1.out.set 2 (.int .i64 f)).set 6 (.int .i64 v)
      have R3' := (R3.out.other ⟨b4, 2, none⟩ (.int .i64 f) (by simp only; omega)).other ⟨b4, 6, none⟩ (.int .i64 v) (by simp only; omega)
      have B2 : Below w.heap.size w ((w1.setCell ⟨b4, 2, none⟩ (.int .i64 f)).setCell ⟨b4, 6, none⟩ (.int .i64 v)) := (((HB0.out.trans (b1.mono HB0.out.size)).setCell (by simp only; omega) _).setCell (by simp only; omega) _)
      have hz0 : ((w1.setCell ⟨b4, 2, none⟩ (.int .i64 f)).setCell ⟨b4, 6, none⟩ (.int .i64 v)).heap.size = w1.heap.size := by rw [World.size_setCell, World.size_setCell]
      obtain ⟨w2, b8, e2, e8, m4, m6, m7, m8, m9, q4, q6, q8, B3⟩ := after_at 0 f t v a u R1' R3' B2
      rw [hz0] at e8
      rw [← e2, ← e8]
      obtain ⟨⟨g0, g1, g2, g3, g4, g5, g6, g7⟩, g8⟩ := row8 q4
      obtain ⟨⟨h0, h1, h2, h3, h4, h5, h6⟩, h7⟩ := row7 q8
      obtain ⟨⟨i0, i1, i2, i3, i4, i5, i6, i7⟩, i8⟩ := row8 q6
      have hb3 := Lib.hid B3
      have hq6 := Lib.hid q6
      clear R1' R3' B2 hz0 e2 e8 q4 q6 q8 B3 R1 R3 n3 n4 n5 n6 s1 c0 d0 d1 d2 d3 d4 d5 d6 d7 d8 f0 f1 f2 f3 f4 f5 f6 f7 r0 r1 r2 r3 B0
      go_region
      obtain ⟨w9, e9, r9, k9, B9⟩ := end_at (.int .i64 0) (.int .i64 0) (.int .i64 f) (.int .i64 0) (.int .i64 0) (.int .i64 0) (.int .i64 v) (.string ⟨#[]⟩) 0 f t a u hq6.out hb3.out (by omega)
      rw [← e9]
      clear e9
      obtain ⟨⟨p0, p1, p2, p3, p4, p5, p6, p7⟩, p8⟩ := row8 r9
      have K9 := Lib.hid k9
      clear k9
      go_wp2
      (try simp only [Exit.inBlock, Exit.then]); refine bodyPost_ret (by simp [results, Try.results36, go_sem, p0, p1, p2, p3, p4, p5, p6, p7]; try rfl) rfl ?_
      exact ⟨_, rfl, K9.out, B9.drew.drew⟩
set_option maxRecDepth 20000 in
set_option maxHeartbeats 8000000 in
theorem refStep_yes (z : Bool) (q p k f t v a : Int) (s : ByteArray) (u : Int) (w : World) (hs : s.size ≤ 140737488351232) (h : AcP q k f t v a s.size u) : Calls Try.prog 37 #[.agg #[.bool z], .agg (stR q p), .agg (evA k f t v a s u)] w fun e w' => ∃ V, e = .returned (.tuple #[.agg (stR f v), V]) ∧ EvRow w' w.heap.size V [⟨2, f, t, nvI z v p, a, [], u⟩] ∧ Below w.heap.size w w' := by
  have HA : Hid (∀ W, Calls Try.prog 69 #[.agg (evA k f t v a s u), .int .i64 q] W fun e w' => e = .returned (.bool true) ∧ Below W.heap.size W w') := Lib.hid fun W => by have := refAccepts_xy q k f t v a s u W hs; rwa [decide_eq_true h] at this
  obtain ⟨W, b3, b4, b5, b6, eW, e6, e5, e4, e3, ⟨l3, l4, l5, l6, l0⟩, r0, r1, r2, r3, B0⟩ := boxes_at w z (stR q p) k f t v a s u (stR 0 0)
  have HB0 := Lib.hid B0
  have HN : Hid (nvI z v p = if (decide (v ≠ p)) ≠ z then 1 else 0) := Lib.hid rfl
  generalize nvI z v p = NV at *
  clear h
  by_cases hvp : v = p
  · subst hvp
    cases z
    · obtain rfl : NV = 0 := by rw [HN.out]; simp
      go_enter Try.func37, Try.ntmps37
      go_wp2_with (first | (rw [← eW, ← e6, ← e5, ← e4, ← e3]; clear eW e6 e5 e4 e3; go_at_call 69; go_must (refine (HA.out _).mono ?_; rintro e1 w1 ⟨rfl, b1⟩; have s1 := b1.size; have n3 : b3 < w1.heap.size := (by omega); have n4 : b4 < w1.heap.size := (by omega); have n5 : b5 < w1.heap.size := (by omega); have n6 : b6 < w1.heap.size := (by omega); have c0 := (r0.keep b1).get1; obtain ⟨⟨d0, d1, d2, d3, d4, d5, d6, d7⟩, d8⟩ := row8 (r1.keep b1); obtain ⟨⟨f0, f1, f2, f3, f4, f5, f6⟩, f7⟩ := row7 (r2.keep b1); have R1 := Lib.hid (r1.keep b1); have R3 := Lib.hid (r3.keep b1))))
      have R1' : RowAt ((w1.setCell ⟨b4, 6, none⟩ (.int .i64 v)).setCell ⟨b4, 1, none⟩ (.int .i64 f)) b4 39 (stR f v) := by simpa using (R1.out.set 6 (.int .i64 v)).set 1 (.int .i64 f)
      have R3' := (R3.out.other ⟨b4, 6, none⟩ (.int .i64 v) (by simp only; omega)).other ⟨b4, 1, none⟩ (.int .i64 f) (by simp only; omega)
      have B2 : Below w.heap.size w ((w1.setCell ⟨b4, 6, none⟩ (.int .i64 v)).setCell ⟨b4, 1, none⟩ (.int .i64 f)) := (((HB0.out.trans (b1.mono HB0.out.size)).setCell (by simp only; omega) _).setCell (by simp only; omega) _)
      have hz0 : ((w1.setCell ⟨b4, 6, none⟩ (.int .i64 v)).setCell ⟨b4, 1, none⟩ (.int .i64 f)).heap.size = w1.heap.size := by rw [World.size_setCell, World.size_setCell]
      obtain ⟨w2, b8, e2, e8, m4, m6, m7, m8, m9, q4, q6, q8, B3⟩ := after_at 0 f t v a u R1' R3' B2
      rw [hz0] at e8
      rw [← e2, ← e8]
      obtain ⟨⟨g0, g1, g2, g3, g4, g5, g6, g7⟩, g8⟩ := row8 q4
      obtain ⟨⟨h0, h1, h2, h3, h4, h5, h6⟩, h7⟩ := row7 q8
      obtain ⟨⟨i0, i1, i2, i3, i4, i5, i6, i7⟩, i8⟩ := row8 q6
      have hb3 := Lib.hid B3
      have hq6 := Lib.hid q6
      clear R1' R3' B2 hz0 e2 e8 q4 q6 q8 B3 R1 R3 n3 n4 n5 n6 s1 c0 d0 d1 d2 d3 d4 d5 d6 d7 d8 f0 f1 f2 f3 f4 f5 f6 f7 r0 r1 r2 r3 B0
      go_region
      obtain ⟨w9, e9, r9, k9, B9⟩ := end_at (.int .i64 0) (.int .i64 f) (.int .i64 0) (.int .i64 0) (.int .i64 0) (.int .i64 0) (.int .i64 v) (.string ⟨#[]⟩) 0 f t a u hq6.out hb3.out (by omega)
      rw [← e9]
      clear e9
      obtain ⟨⟨p0, p1, p2, p3, p4, p5, p6, p7⟩, p8⟩ := row8 r9
      have K9 := Lib.hid k9
      clear k9
      go_wp2
      (try simp only [Exit.inBlock, Exit.then]); refine bodyPost_ret (by simp [results, Try.results37, go_sem, p0, p1, p2, p3, p4, p5, p6, p7]; try rfl) rfl ?_
      exact ⟨_, rfl, K9.out, B9.drew⟩
    · obtain rfl : NV = 1 := by rw [HN.out]; simp
      go_enter Try.func37, Try.ntmps37
      go_wp2_with (first | (rw [← eW, ← e6, ← e5, ← e4, ← e3]; clear eW e6 e5 e4 e3; go_at_call 69; go_must (refine (HA.out _).mono ?_; rintro e1 w1 ⟨rfl, b1⟩; have s1 := b1.size; have n3 : b3 < w1.heap.size := (by omega); have n4 : b4 < w1.heap.size := (by omega); have n5 : b5 < w1.heap.size := (by omega); have n6 : b6 < w1.heap.size := (by omega); have c0 := (r0.keep b1).get1; obtain ⟨⟨d0, d1, d2, d3, d4, d5, d6, d7⟩, d8⟩ := row8 (r1.keep b1); obtain ⟨⟨f0, f1, f2, f3, f4, f5, f6⟩, f7⟩ := row7 (r2.keep b1); have R1 := Lib.hid (r1.keep b1); have R3 := Lib.hid (r3.keep b1))))
      have R1' : RowAt ((w1.setCell ⟨b4, 6, none⟩ (.int .i64 v)).setCell ⟨b4, 1, none⟩ (.int .i64 f)) b4 39 (stR f v) := by simpa using (R1.out.set 6 (.int .i64 v)).set 1 (.int .i64 f)
      have R3' := (R3.out.other ⟨b4, 6, none⟩ (.int .i64 v) (by simp only; omega)).other ⟨b4, 1, none⟩ (.int .i64 f) (by simp only; omega)
      have B2 : Below w.heap.size w ((w1.setCell ⟨b4, 6, none⟩ (.int .i64 v)).setCell ⟨b4, 1, none⟩ (.int .i64 f)) := (((HB0.out.trans (b1.mono HB0.out.size)).setCell (by simp only; omega) _).setCell (by simp only; omega) _)
      have hz0 : ((w1.setCell ⟨b4, 6, none⟩ (.int .i64 v)).setCell ⟨b4, 1, none⟩ (.int .i64 f)).heap.size = w1.heap.size := by rw [World.size_setCell, World.size_setCell]
      obtain ⟨w2, b8, e2, e8, m4, m6, m7, m8, m9, q4, q6, q8, B3⟩ := after_at 1 f t v a u R1' R3' B2
      rw [hz0] at e8
      rw [← e2, ← e8]
      obtain ⟨⟨g0, g1, g2, g3, g4, g5, g6, g7⟩, g8⟩ := row8 q4
      obtain ⟨⟨h0, h1, h2, h3, h4, h5, h6⟩, h7⟩ := row7 q8
      obtain ⟨⟨i0, i1, i2, i3, i4, i5, i6, i7⟩, i8⟩ := row8 q6
      have hb3 := Lib.hid B3
      have hq6 := Lib.hid q6
      clear R1' R3' B2 hz0 e2 e8 q4 q6 q8 B3 R1 R3 n3 n4 n5 n6 s1 c0 d0 d1 d2 d3 d4 d5 d6 d7 d8 f0 f1 f2 f3 f4 f5 f6 f7 r0 r1 r2 r3 B0
      go_region
      obtain ⟨w9, e9, r9, k9, B9⟩ := end_at (.int .i64 0) (.int .i64 f) (.int .i64 0) (.int .i64 0) (.int .i64 0) (.int .i64 0) (.int .i64 v) (.string ⟨#[]⟩) 1 f t a u hq6.out hb3.out (by omega)
      rw [← e9]
      clear e9
      obtain ⟨⟨p0, p1, p2, p3, p4, p5, p6, p7⟩, p8⟩ := row8 r9
      have K9 := Lib.hid k9
      clear k9
      go_wp2
      (try simp only [Exit.inBlock, Exit.then]); refine bodyPost_ret (by simp [results, Try.results37, go_sem, p0, p1, p2, p3, p4, p5, p6, p7]; try rfl) rfl ?_
      exact ⟨_, rfl, K9.out, B9.drew⟩
  · have hvp' : (v != p) = true := by simpa using hvp
    cases z
    · obtain rfl : NV = 1 := by rw [HN.out]; simp [hvp]
      clear hvp HN
      go_enter Try.func37, Try.ntmps37
      go_wp2_with (first | (rw [← eW, ← e6, ← e5, ← e4, ← e3]; clear eW e6 e5 e4 e3; go_at_call 69; go_must (refine (HA.out _).mono ?_; rintro e1 w1 ⟨rfl, b1⟩; have s1 := b1.size; have n3 : b3 < w1.heap.size := (by omega); have n4 : b4 < w1.heap.size := (by omega); have n5 : b5 < w1.heap.size := (by omega); have n6 : b6 < w1.heap.size := (by omega); have c0 := (r0.keep b1).get1; obtain ⟨⟨d0, d1, d2, d3, d4, d5, d6, d7⟩, d8⟩ := row8 (r1.keep b1); obtain ⟨⟨f0, f1, f2, f3, f4, f5, f6⟩, f7⟩ := row7 (r2.keep b1); have R1 := Lib.hid (r1.keep b1); have R3 := Lib.hid (r3.keep b1))))
      have R1' : RowAt ((w1.setCell ⟨b4, 6, none⟩ (.int .i64 v)).setCell ⟨b4, 1, none⟩ (.int .i64 f)) b4 39 (stR f v) := by simpa using (R1.out.set 6 (.int .i64 v)).set 1 (.int .i64 f)
      have R3' := (R3.out.other ⟨b4, 6, none⟩ (.int .i64 v) (by simp only; omega)).other ⟨b4, 1, none⟩ (.int .i64 f) (by simp only; omega)
      have B2 : Below w.heap.size w ((w1.setCell ⟨b4, 6, none⟩ (.int .i64 v)).setCell ⟨b4, 1, none⟩ (.int .i64 f)) := (((HB0.out.trans (b1.mono HB0.out.size)).setCell (by simp only; omega) _).setCell (by simp only; omega) _)
      have hz0 : ((w1.setCell ⟨b4, 6, none⟩ (.int .i64 v)).setCell ⟨b4, 1, none⟩ (.int .i64 f)).heap.size = w1.heap.size := by rw [World.size_setCell, World.size_setCell]
      obtain ⟨w2, b8, e2, e8, m4, m6, m7, m8, m9, q4, q6, q8, B3⟩ := after_at 1 f t v a u R1' R3' B2
      rw [hz0] at e8
      rw [← e2, ← e8]
      obtain ⟨⟨g0, g1, g2, g3, g4, g5, g6, g7⟩, g8⟩ := row8 q4
      obtain ⟨⟨h0, h1, h2, h3, h4, h5, h6⟩, h7⟩ := row7 q8
      obtain ⟨⟨i0, i1, i2, i3, i4, i5, i6, i7⟩, i8⟩ := row8 q6
      have hb3 := Lib.hid B3
      have hq6 := Lib.hid q6
      clear R1' R3' B2 hz0 e2 e8 q4 q6 q8 B3 R1 R3 n3 n4 n5 n6 s1 c0 d0 d1 d2 d3 d4 d5 d6 d7 d8 f0 f1 f2 f3 f4 f5 f6 f7 r0 r1 r2 r3 B0
      go_region
      obtain ⟨w9, e9, r9, k9, B9⟩ := end_at (.int .i64 0) (.int .i64 f) (.int .i64 0) (.int .i64 0) (.int .i64 0) (.int .i64 0) (.int .i64 v) (.string ⟨#[]⟩) 1 f t a u hq6.out hb3.out (by omega)
      rw [← e9]
      clear e9
      obtain ⟨⟨p0, p1, p2, p3, p4, p5, p6, p7⟩, p8⟩ := row8 r9
      have K9 := Lib.hid k9
      clear k9
      go_wp2
      (try simp only [Exit.inBlock, Exit.then]); refine bodyPost_ret (by simp [results, Try.results37, go_sem, p0, p1, p2, p3, p4, p5, p6, p7]; try rfl) rfl ?_
      exact ⟨_, rfl, K9.out, B9.drew⟩
    · obtain rfl : NV = 0 := by rw [HN.out]; simp [hvp]
      clear hvp HN
      go_enter Try.func37, Try.ntmps37
      go_wp2_with (first | (rw [← eW, ← e6, ← e5, ← e4, ← e3]; clear eW e6 e5 e4 e3; go_at_call 69; go_must (refine (HA.out _).mono ?_; rintro e1 w1 ⟨rfl, b1⟩; have s1 := b1.size; have n3 : b3 < w1.heap.size := (by omega); have n4 : b4 < w1.heap.size := (by omega); have n5 : b5 < w1.heap.size := (by omega); have n6 : b6 < w1.heap.size := (by omega); have c0 := (r0.keep b1).get1; obtain ⟨⟨d0, d1, d2, d3, d4, d5, d6, d7⟩, d8⟩ := row8 (r1.keep b1); obtain ⟨⟨f0, f1, f2, f3, f4, f5, f6⟩, f7⟩ := row7 (r2.keep b1); have R1 := Lib.hid (r1.keep b1); have R3 := Lib.hid (r3.keep b1))))
      have R1' : RowAt ((w1.setCell ⟨b4, 6, none⟩ (.int .i64 v)).setCell ⟨b4, 1, none⟩ (.int .i64 f)) b4 39 (stR f v) := by simpa using (R1.out.set 6 (.int .i64 v)).set 1 (.int .i64 f)
      have R3' := (R3.out.other ⟨b4, 6, none⟩ (.int .i64 v) (by simp only; omega)).other ⟨b4, 1, none⟩ (.int .i64 f) (by simp only; omega)
      have B2 : Below w.heap.size w ((w1.setCell ⟨b4, 6, none⟩ (.int .i64 v)).setCell ⟨b4, 1, none⟩ (.int .i64 f)) := (((HB0.out.trans (b1.mono HB0.out.size)).setCell (by simp only; omega) _).setCell (by simp only; omega) _)
      have hz0 : ((w1.setCell ⟨b4, 6, none⟩ (.int .i64 v)).setCell ⟨b4, 1, none⟩ (.int .i64 f)).heap.size = w1.heap.size := by rw [World.size_setCell, World.size_setCell]
      obtain ⟨w2, b8, e2, e8, m4, m6, m7, m8, m9, q4, q6, q8, B3⟩ := after_at 0 f t v a u R1' R3' B2
      rw [hz0] at e8
      rw [← e2, ← e8]
      obtain ⟨⟨g0, g1, g2, g3, g4, g5, g6, g7⟩, g8⟩ := row8 q4
      obtain ⟨⟨h0, h1, h2, h3, h4, h5, h6⟩, h7⟩ := row7 q8
      obtain ⟨⟨i0, i1, i2, i3, i4, i5, i6, i7⟩, i8⟩ := row8 q6
      have hb3 := Lib.hid B3
      have hq6 := Lib.hid q6
      clear R1' R3' B2 hz0 e2 e8 q4 q6 q8 B3 R1 R3 n3 n4 n5 n6 s1 c0 d0 d1 d2 d3 d4 d5 d6 d7 d8 f0 f1 f2 f3 f4 f5 f6 f7 r0 r1 r2 r3 B0
      go_region
      obtain ⟨w9, e9, r9, k9, B9⟩ := end_at (.int .i64 0) (.int .i64 f) (.int .i64 0) (.int .i64 0) (.int .i64 0) (.int .i64 0) (.int .i64 v) (.string ⟨#[]⟩) 0 f t a u hq6.out hb3.out (by omega)
      rw [← e9]
      clear e9
      obtain ⟨⟨p0, p1, p2, p3, p4, p5, p6, p7⟩, p8⟩ := row8 r9
      have K9 := Lib.hid k9
      clear k9
      go_wp2
      (try simp only [Exit.inBlock, Exit.then]); refine bodyPost_ret (by simp [results, Try.results37, go_sem, p0, p1, p2, p3, p4, p5, p6, p7]; try rfl) rfl ?_
      exact ⟨_, rfl, K9.out, B9.drew⟩

/-- A step: the next state's begin and bit, and what it gives. -/
theorem step_any (z : Bool) (q p : Int) (e : Ev) (w : World) (hs : e.d.length ≤ 140737488351232) : Calls Try.prog 36 #[.agg #[.bool z], .agg (stP q p), evV e] w fun r w' => ∃ V, r = .returned (.tuple #[.agg (stP (nzS z ⟨q, p, []⟩ e).q (nzS z ⟨q, p, []⟩ e).p), V]) ∧ EvRow w' w.heap.size V (nzS z ⟨q, p, []⟩ e).o ∧ Below w.heap.size w w' := by
  have hz : (⟨e.d.toArray⟩ : ByteArray).size = e.d.length := size_mk _
  unfold nzS
  by_cases h : AcE q e
  · rw [if_pos h]
    exact step_yes z q p e.k e.f e.t e.v e.a ⟨e.d.toArray⟩ e.u w (by omega) (by rw [hz]; exact h)
  · rw [if_neg h]
    exact (step_no z q p e.k e.f e.t e.v e.a ⟨e.d.toArray⟩ e.u w (by omega) (by rw [hz]; exact h)).mono fun r w' ⟨h1, h2⟩ => ⟨_, h1, KRow.nil _ _, h2⟩
theorem refStep_any (z : Bool) (q p : Int) (e : Ev) (w : World) (hs : e.d.length ≤ 140737488351232) : Calls Try.prog 37 #[.agg #[.bool z], .agg (stR q p), evV e] w fun r w' => ∃ V, r = .returned (.tuple #[.agg (stR (nzS z ⟨q, p, []⟩ e).q (nzS z ⟨q, p, []⟩ e).p), V]) ∧ EvRow w' w.heap.size V (nzS z ⟨q, p, []⟩ e).o ∧ Below w.heap.size w w' := by
  have hz : (⟨e.d.toArray⟩ : ByteArray).size = e.d.length := size_mk _
  unfold nzS
  by_cases h : AcE q e
  · rw [if_pos h]
    exact refStep_yes z q p e.k e.f e.t e.v e.a ⟨e.d.toArray⟩ e.u w (by omega) (by rw [hz]; exact h)
  · rw [if_neg h]
    exact (refStep_no z q p e.k e.f e.t e.v e.a ⟨e.d.toArray⟩ e.u w (by omega) (by rw [hz]; exact h)).mono fun r w' ⟨h1, h2⟩ => ⟨_, h1, KRow.nil _ _, h2⟩

end Go.Proofs.Ytfbclbolkojjeaa
