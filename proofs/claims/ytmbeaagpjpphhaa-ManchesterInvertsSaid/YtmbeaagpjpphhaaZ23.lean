/-
  Layer 17: edge as one; the walk of the program's Step.
  Layer 17: the program's Step as one, its Decode.
  Layer 17: an invalid configuration: Step and Decode of the program do nothing; two states compared.
-/
import Derived.Test.YtmbeaagpjpphhaaZ22
import Derived.Test.YtmbeaagpjpphhaaZ19
namespace Go.Proofs.Ytmbeaagpjpphhaa
open Go Go.RowKit Go.Joins
set_option linter.unusedVariables false
set_option linter.unusedSimpArgs false

theorem edge_any (N D y e m p t v : Int) (w : World) (h : Bt N D) (hy : y = 0 ∨ y = 1) (hv : v = 0 ∨ v = 1) (hm : 0 ≤ m ∧ m ≤ t) (ht : t ≤ 1099511627776) :
    Calls Try.prog 77 #[rat N D, .agg (mnA y e m p), .int .i64 t, .int .i64 v] w fun r w' => ∃ V, r = .returned (.tuple #[.agg (mnA (edG y N D y m t v).1 e (edG y N D y m t v).2.1 p), V]) ∧ EvRow w' w.heap.size V (edG y N D y m t v).2.2 ∧ Below w.heap.size w w' := by
  rcases hy with rfl | rfl
  · refine (edge_idle N D e m p t v w hv).mono fun r w' ⟨h1, h2⟩ => ⟨.slice none 0 0, h1.trans ?_, ?_, h2⟩
    · unfold edG; rw [if_pos (show (0 : Int) = 0 ∨ 2 * N ≤ (t - m) * D from .inl rfl)]; split <;> rfl
    · unfold edG; rw [if_pos (show (0 : Int) = 0 ∨ 2 * N ≤ (t - m) * D from .inl rfl)]; split <;> exact KRow.nil _ _
  · by_cases hl : 2 * N ≤ (t - m) * D
    · refine (edge_late N D e m p t v w h hv hm ht hl).mono fun r w' ⟨h1, h2⟩ => ⟨.slice none 0 0, h1.trans ?_, ?_, h2⟩
      · unfold edG; rw [if_pos (show (1 : Int) = 0 ∨ 2 * N ≤ (t - m) * D from .inr hl)]; split <;> rfl
      · unfold edG; rw [if_pos (show (1 : Int) = 0 ∨ 2 * N ≤ (t - m) * D from .inr hl)]; split <;> exact KRow.nil _ _
    · refine (edge_near N D e m p t v w h hv hm ht hl).mono fun r w' ⟨V, h1, h2, h3⟩ => ⟨V, h1.trans ?_, ?_, h3⟩
      · unfold edG; rw [if_neg (show ¬ ((1 : Int) = 0 ∨ 2 * N ≤ (t - m) * D) by omega)]; split <;> rfl
      · revert h2; unfold edG; rw [if_neg (show ¬ ((1 : Int) = 0 ∨ 2 * N ≤ (t - m) * D) by omega)]; split <;> exact id

/-- The boxes of a step: configuration, state, event, result. -/
theorem mbox_at (w : World) (N D : Int) (z : Bool) (S : Array Value) (k f t v a : Int) (s : ByteArray) (u : Int) (Z : Array Value) : ∃ W b3 b4 b5 b6, W = (((w.alloc (.cells (manA N D z) 59)).alloc (.cells S 39)).alloc (.cells (evA k f t v a s u) 44)).alloc (.cells Z 39) ∧ b6 = w.heap.size + 1 + 1 + 1 ∧ b5 = w.heap.size + 1 + 1 ∧ b4 = w.heap.size + 1 ∧ b3 = w.heap.size ∧ (b3 < b4 ∧ b4 < b5 ∧ b5 < b6 ∧ b6 < W.heap.size ∧ w.heap.size ≤ b3) ∧
    RowAt W b3 59 (manA N D z) ∧ RowAt W b4 39 S ∧ RowAt W b5 44 (evA k f t v a s u) ∧ RowAt W b6 39 Z ∧ Below w.heap.size w W := by
  refine ⟨_, _, _, _, _, rfl, rfl, rfl, rfl, rfl, by simp only [World.size_alloc]; omega, ?_, ?_, ?_, ?_, by (repeat' (first | with_reducible exact Below.refl _ _ | with_reducible exact Nat.le_refl _ | with_reducible assumption | with_reducible refine below_drewN ?_ _ | with_reducible refine Below.drew ?_ | with_reducible refine Below.trans ?_ (Below.mono (by assumption) ?_) | with_reducible refine Below.alloc ?_ ?_ _ | with_reducible refine Below.setCell ?_ ?_ _ | with_reducible refine le_setCell ?_ _ _ | with_reducible refine le_alloc ?_ _ | with_reducible refine le_drewN ?_ _ | with_reducible refine le_drew ?_ | with_reducible refine Nat.le_trans ?_ (Below.size (by assumption)) | (simp only [World.size_alloc, World.size_setCell]; omega) | omega))⟩
  · exact (((RowAt.new w _ _).alloc _).alloc _).alloc _
  · exact ((RowAt.at (by simp only [World.size_alloc])).alloc _).alloc _
  · exact (RowAt.at (by simp only [World.size_alloc])).alloc _
  · exact RowAt.at (by simp only [World.size_alloc])
theorem row3 {w : World} {b : Nat} {T : TypeId} {x0 x1 x2 : Value} (h : RowAt w b T #[x0, x1, x2]) : w.cell? ⟨b, 0, none⟩ = some x0 ∧ w.cell? ⟨b, 1, none⟩ = some x1 ∧ w.cell? ⟨b, 2, none⟩ = some x2 := ⟨h.cell 0, h.cell 1, h.cell 2⟩

set_option maxRecDepth 20000 in
set_option maxHeartbeats 8000000 in
/-- An event that is not accepted. -/
theorem manStep_no (N D : Int) (z : Bool) (y e m p k f t v a : Int) (s : ByteArray) (u : Int) (w : World) (h : Bt N D) (hk : ckE N D = 0) (hs : s.size ≤ 140737488351232) (hA : ¬ AcL e e k f t v a s.size u) :
    Calls Try.prog 37 #[.agg (manA N D z), .agg (mnA y e m p), .agg (evA k f t v a s u)] w fun r w' => r = .returned (.tuple #[.agg (mnA y e m p), .slice none 0 0]) ∧ Below w.heap.size w w' := by
  have d1 := h.d1; have d2 := h.d2; have n1 := h.n1; have n2 := h.n2
  have CK : Hid (∀ W, Calls Try.prog 34 #[.agg (manA N D z)] W fun e w' => e = .returned (.int .i64 0) ∧ Below W.heap.size W w') := Lib.hid fun W => by have := manCheck_any N D z W (by omega) (by omega) (by omega) (by omega); rwa [hk] at this
  have CA : Hid (∀ W, Calls Try.prog 75 #[.int .i64 e, .int .i64 1, .agg (evA k f t v a s u)] W fun r w' => r = .returned (.bool false) ∧ Below W.heap.size W w') := Lib.hid fun W => by have := acceptsLevel_any e k f t v a s u W hs; rwa [decide_eq_false hA] at this
  obtain ⟨W, b3, b4, b5, b6, eW, e6, e5, e4, e3, ⟨l3, l4, l5, l6, l0⟩, r3, r4, r5, r6, B0⟩ := mbox_at w N D z (mnA y e m p) k f t v a s u (mnA 0 0 0 0)
  have HB0 := Lib.hid B0
  have H3 := Lib.hid r3; have H4 := Lib.hid r4; have H5 := Lib.hid r5; have H6 := Lib.hid r6
  obtain ⟨a0, a1, a2⟩ := row3 r3
  clear r3 r4 r5 r6 B0
  go_enter Try.func37, Try.ntmps37
  go_wp2_with (first
    | (rw [← eW, ← e6, ← e5, ← e4, ← e3]; clear eW e6 e5 e4 e3; go_at_call 34; go_must (refine (CK.out _).mono ?_; rintro e1 w1 ⟨rfl, b1⟩; have K5 := Lib.hid (H5.out.keep b1); have K4 := Lib.hid (H4.out.keep b1); have K6 := Lib.hid (H6.out.keep b1); have B1 := Lib.hid (HB0.out.trans (b1.mono HB0.out.size)); obtain ⟨⟨c0, c1, c2, c3, c4, c5, c6⟩, c7⟩ := row7 K5.out; obtain ⟨⟨f0, f1, f2, f3, f4, f5, f6, f7⟩, f8⟩ := row8 K4.out))
    | (go_at_call 75; go_must (refine (CA.out _).mono ?_; rintro e2 w2 ⟨rfl, b2⟩; have K46 := Lib.hid (K6.out.keep b2); have K44 := K4.out.keep b2; have B2 := Lib.hid (B1.out.trans (b2.mono B1.out.size)); obtain ⟨⟨g0, g1, g2, g3, g4, g5, g6, g7⟩, g8⟩ := row8 K44))
    | (refine wpList_store_at K46.out (Nat.le_refl _) (mnA y e m p) (.tmp 6) (.tmp 20) 39 rfl rfl rfl rfl (by kernel_rfl) rfl rfl ?_; intro w9 r9 b9; obtain ⟨⟨p0, p1, p2, p3, p4, p5, p6, p7⟩, p8⟩ := row8 r9))
  (try simp only [Exit.inBlock, Exit.then]); refine bodyPost_ret (by simp [results, Try.results37, go_sem, p0, p1, p2, p3, p4, p5, p6, p7]; try rfl) rfl ?_
  exact ⟨rfl, B2.out.trans (b9.mono (by omega))⟩

set_option maxRecDepth 20000 in
set_option maxHeartbeats 8000000 in
/-- An event that is accepted: the signal stays. -/
theorem manStep_same (N D : Int) (z : Bool) (y e m p k f t v a : Int) (s : ByteArray) (u : Int) (w : World) (h : Bt N D) (hk : ckE N D = 0) (hs : s.size ≤ 140737488351232) (hA : AcL e e k f t v a s.size u) (hp : sgI z v = p) :
    Calls Try.prog 37 #[.agg (manA N D z), .agg (mnA y e m p), .agg (evA k f t v a s u)] w fun r w' => r = .returned (.tuple #[.agg (mnA y t m p), .slice none 0 0]) ∧ Below w.heap.size w w' := by
  have d1 := h.d1; have d2 := h.d2; have n1 := h.n1; have n2 := h.n2
  have hv := hA.2.2.2.2.1
  have CK : Hid (∀ W, Calls Try.prog 34 #[.agg (manA N D z)] W fun e w' => e = .returned (.int .i64 0) ∧ Below W.heap.size W w') := Lib.hid fun W => by have := manCheck_any N D z W (by omega) (by omega) (by omega) (by omega); rwa [hk] at this
  have CA : Hid (∀ W, Calls Try.prog 75 #[.int .i64 e, .int .i64 1, .agg (evA k f t v a s u)] W fun r w' => r = .returned (.bool true) ∧ Below W.heap.size W w') := Lib.hid fun W => by have := acceptsLevel_any e k f t v a s u W hs; rwa [decide_eq_true hA] at this
  have CG : Hid (∀ W, Calls Try.prog 76 #[.agg (manA N D z), .int .i64 v] W fun r w' => r = .returned (.int .i64 p) ∧ Below W.heap.size W w') := Lib.hid fun W => by have := signal_any N D z v W hv; rwa [hp] at this
  obtain ⟨W, b3, b4, b5, b6, eW, e6, e5, e4, e3, ⟨l3, l4, l5, l6, l0⟩, r3, r4, r5, r6, B0⟩ := mbox_at w N D z (mnA y e m p) k f t v a s u (mnA 0 0 0 0)
  have HB0 := Lib.hid B0
  have H3 := Lib.hid r3; have H4 := Lib.hid r4; have H5 := Lib.hid r5; have H6 := Lib.hid r6
  obtain ⟨a0, a1, a2⟩ := row3 r3
  have hpp : (p != p) = false := by simp
  clear r3 r4 r5 r6 B0 hA
  go_enter Try.func37, Try.ntmps37
  go_wp2_with (first
    | (rw [← eW, ← e6, ← e5, ← e4, ← e3]; clear eW e6 e5 e4 e3; go_at_call 34; go_must (refine (CK.out _).mono ?_; rintro e1 w1 ⟨rfl, b1⟩; have K5 := Lib.hid (H5.out.keep b1); have K4 := Lib.hid (H4.out.keep b1); have K6 := Lib.hid (H6.out.keep b1); have K3 := Lib.hid (H3.out.keep b1); have B1 := Lib.hid (HB0.out.trans (b1.mono HB0.out.size)); obtain ⟨⟨c0, c1, c2, c3, c4, c5, c6⟩, c7⟩ := row7 K5.out; obtain ⟨⟨f0, f1, f2, f3, f4, f5, f6, f7⟩, f8⟩ := row8 K4.out))
    | (go_at_call 75; go_must (refine (CA.out _).mono ?_; rintro e2 w2 ⟨rfl, b2⟩; have L5 := Lib.hid (K5.out.keep b2); have L4 := Lib.hid (K4.out.keep b2); have L6 := Lib.hid (K6.out.keep b2); have B2 := Lib.hid (B1.out.trans (b2.mono B1.out.size)); obtain ⟨g0, g1, g2⟩ := row3 (K3.out.keep b2); obtain ⟨⟨i0, i1, i2, i3, i4, i5, i6⟩, i7⟩ := row7 L5.out))
    | (go_at_call 76; go_must (refine (CG.out _).mono ?_; rintro e3 w3 ⟨rfl, b3'⟩; have M4 := Lib.hid (L4.out.keep b3'); have M6 := Lib.hid (L6.out.keep b3'); have B3 := Lib.hid (B2.out.trans (b3'.mono B2.out.size)); obtain ⟨⟨j0, j1, j2, j3, j4, j5, j6⟩, j7⟩ := row7 (L5.out.keep b3'); obtain ⟨⟨q0, q1, q2, q3, q4, q5, q6, q7⟩, q8⟩ := row8 M4.out; have N6 := Lib.hid ((M6.out.other ⟨b4, 1, none⟩ (.int .i64 t) (by simp only; omega)).other ⟨b4, 6, none⟩ (.int .i64 p) (by simp only; omega)); have N0 := Lib.hid ((B3.out.setCell (p := ⟨b4, 1, none⟩) (by simp only; omega) (.int .i64 t)).setCell (p := ⟨b4, 6, none⟩) (by simp only; omega) (.int .i64 p))))
    | (refine wpList_store_at N6.out (Nat.le_refl _) (mnA y t m p) (.tmp 6) (.tmp 44) 39 rfl rfl rfl rfl (by kernel_rfl) rfl rfl ?_; intro w9 r9 b9; obtain ⟨⟨p0, p1, p2, p3, p4, p5, p6, p7⟩, p8⟩ := row8 r9))
  (try simp only [Exit.inBlock, Exit.then]); refine bodyPost_ret (by simp [results, Try.results37, go_sem, p0, p1, p2, p3, p4, p5, p6, p7]; try rfl) rfl ?_
  exact ⟨rfl, N0.out.trans (b9.mono (by omega))⟩

set_option maxRecDepth 20000 in
set_option maxHeartbeats 8000000 in
/-- An event that is accepted: the signal turns. -/
theorem manStep_turn (N D : Int) (z : Bool) (y e m p k f t v a : Int) (s : ByteArray) (u : Int) (w : World) (h : Bt N D) (hk : ckE N D = 0) (hs : s.size ≤ 140737488351232) (hA : AcL e e k f t v a s.size u) (hp : sgI z v ≠ p) (hs' : RcN ⟨y, e, m, p, []⟩) :
    Calls Try.prog 37 #[.agg (manA N D z), .agg (mnA y e m p), .agg (evA k f t v a s u)] w fun r w' => ∃ V, r = .returned (.tuple #[.agg (mnA (edG y N D y m f (sgI z v)).1 t (edG y N D y m f (sgI z v)).2.1 (sgI z v)), V]) ∧ EvRow w' w.heap.size V (edG y N D y m f (sgI z v)).2.2 ∧ Below w.heap.size w w' := by
  have d1 := h.d1; have d2 := h.d2; have n1 := h.n1; have n2 := h.n2
  have hv := hA.2.2.2.2.1
  have CK : Hid (∀ W, Calls Try.prog 34 #[.agg (manA N D z)] W fun e w' => e = .returned (.int .i64 0) ∧ Below W.heap.size W w') := Lib.hid fun W => by have := manCheck_any N D z W (by omega) (by omega) (by omega) (by omega); rwa [hk] at this
  have CA : Hid (∀ W, Calls Try.prog 75 #[.int .i64 e, .int .i64 1, .agg (evA k f t v a s u)] W fun r w' => r = .returned (.bool true) ∧ Below W.heap.size W w') := Lib.hid fun W => by have := acceptsLevel_any e k f t v a s u W hs; rwa [decide_eq_true hA] at this
  have CG : Hid (∀ W, Calls Try.prog 76 #[.agg (manA N D z), .int .i64 v] W fun r w' => r = .returned (.int .i64 (sgI z v)) ∧ Below W.heap.size W w') := Lib.hid fun W => signal_any N D z v W hv
  obtain ⟨x1, x2, x3, _⟩ := acN_bd (e := ⟨k, f, t, v, a, s.data.toList, u⟩) hs' (by unfold AcN; rw [show s.data.toList.length = s.size from Array.length_toList]; exact hA)
  simp only at x1 x2 x3
  have CE : Hid (∀ W, Calls Try.prog 77 #[rat N D, .agg (mnA y e m p), .int .i64 f, .int .i64 (sgI z v)] W fun r w' => ∃ V, r = .returned (.tuple #[.agg (mnA (edG y N D y m f (sgI z v)).1 e (edG y N D y m f (sgI z v)).2.1 p), V]) ∧ EvRow w' W.heap.size V (edG y N D y m f (sgI z v)).2.2 ∧ Below W.heap.size W w') := Lib.hid fun W => edge_any N D y e m p f (sgI z v) W h hs'.y (sg_bit z hv) ⟨hs'.m.1, by have := hs'.m.2; simp only at this; omega⟩ (by omega)
  have hpp : (sgI z v != p) = true := by simpa using hp
  generalize sgI z v = SV at *
  generalize (edG y N D y m f SV).1 = Y1 at *
  generalize (edG y N D y m f SV).2.1 = M1 at *
  generalize (edG y N D y m f SV).2.2 = O1 at *
  obtain ⟨W, b3, b4, b5, b6, eW, e6, e5, e4, e3, ⟨l3, l4, l5, l6, l0⟩, r3, r4, r5, r6, B0⟩ := mbox_at w N D z (mnA y e m p) k f t v a s u (mnA 0 0 0 0)
  have HB0 := Lib.hid B0
  have H3 := Lib.hid r3; have H4 := Lib.hid r4; have H5 := Lib.hid r5; have H6 := Lib.hid r6
  obtain ⟨a0, a1, a2⟩ := row3 r3
  clear r3 r4 r5 r6 B0 hA hs'
  go_enter Try.func37, Try.ntmps37
  go_wp2_with (first
    | (rw [← eW, ← e6, ← e5, ← e4, ← e3]; clear eW e6 e5 e4 e3; go_at_call 34; go_must (refine (CK.out _).mono ?_; rintro e1 w1 ⟨rfl, b1⟩; have K5 := Lib.hid (H5.out.keep b1); have K4 := Lib.hid (H4.out.keep b1); have K6 := Lib.hid (H6.out.keep b1); have K3 := Lib.hid (H3.out.keep b1); have B1 := Lib.hid (HB0.out.trans (b1.mono HB0.out.size)); obtain ⟨⟨c0, c1, c2, c3, c4, c5, c6⟩, c7⟩ := row7 K5.out; obtain ⟨⟨f0, f1, f2, f3, f4, f5, f6, f7⟩, f8⟩ := row8 K4.out))
    | (go_at_call 75; go_must (refine (CA.out _).mono ?_; rintro e2 w2 ⟨rfl, b2⟩; have L5 := Lib.hid (K5.out.keep b2); have L4 := Lib.hid (K4.out.keep b2); have L6 := Lib.hid (K6.out.keep b2); have B2 := Lib.hid (B1.out.trans (b2.mono B1.out.size)); obtain ⟨g0, g1, g2⟩ := row3 (K3.out.keep b2); obtain ⟨⟨i0, i1, i2, i3, i4, i5, i6⟩, i7⟩ := row7 L5.out))
    | (go_at_call 76; go_must (refine (CG.out _).mono ?_; rintro e3 w3 ⟨rfl, b3'⟩; have M4 := Lib.hid (L4.out.keep b3'); have M6 := Lib.hid (L6.out.keep b3'); have B3 := Lib.hid (B2.out.trans (b3'.mono B2.out.size)); obtain ⟨⟨j0, j1, j2, j3, j4, j5, j6⟩, j7⟩ := row7 (L5.out.keep b3'); obtain ⟨⟨q0, q1, q2, q3, q4, q5, q6, q7⟩, q8⟩ := row8 M4.out; have M5 := Lib.hid (L5.out.keep b3'); obtain ⟨u0, u1, u2⟩ := row3 ((K3.out.keep b2).keep b3')))
    | (go_at_call 77; go_must (refine (CE.out _).mono ?_; rintro e4 w4 ⟨V4, rfl, v4, b4'⟩; obtain ⟨VA, VN, VC, rfl, hVN⟩ := v4.form; clear hVN; have P4 := Lib.hid (M4.out.keep b4'); have P5 := Lib.hid (M5.out.keep b4'); have P6 := Lib.hid (M6.out.keep b4'); have P0 := Lib.hid (B3.out.trans (b4'.mono B3.out.size)); have PV := Lib.hid v4; have PS := M6.out.lt; have PW := B3.out.size))
    | (refine wpList_store_kp P4.out (mnA Y1 e M1 p) (.tmp 4) (.tmp 37) 39 rfl rfl rfl rfl (by kernel_rfl) rfl rfl ?_; intro w5 r5 k5; have R4 := Lib.hid r5; have R6 := k5.row P6.out (by simp only [List.mem_singleton]; omega); obtain ⟨⟨y0, y1, y2, y3, y4, y5, y6⟩, y7⟩ := row7 (k5.row P5.out (by simp only [List.mem_singleton]; omega)); obtain ⟨⟨z0, z1, z2, z3, z4, z5, z6, z7⟩, z8⟩ := row8 r5; have RV := Lib.hid (PV.out.kp (k5.trans (((Kp.refl [b4] w5).setCell (p := ⟨b4, 1, none⟩) (.inl (by simp)) (.int .i64 t)).setCell (p := ⟨b4, 6, none⟩) (.inl (by simp)) (.int .i64 SV))) (fun g hg hx => by have := (PV.out.lt g hg).1; simp only [List.mem_singleton] at hx; omega)); have R0 := k5.below (B := w.heap.size) (by simp only [List.mem_singleton]; intro k hk; omega) P0.out.size; have N6 := Lib.hid ((R6.other ⟨b4, 1, none⟩ (.int .i64 t) (by simp only; omega)).other ⟨b4, 6, none⟩ (.int .i64 SV) (by simp only; omega)); have N0 := Lib.hid (((P0.out.trans R0).setCell (p := ⟨b4, 1, none⟩) (by simp only; omega) (.int .i64 t)).setCell (p := ⟨b4, 6, none⟩) (by simp only; omega) (.int .i64 SV)))
    | (refine wpList_store_kp N6.out (mnA Y1 t M1 SV) (.tmp 6) (.tmp 44) 39 rfl rfl rfl rfl (by kernel_rfl) rfl rfl ?_; intro w9 r9 k9; obtain ⟨⟨p0, p1, p2, p3, p4, p5, p6, p7⟩, p8⟩ := row8 r9))
  (try simp only [Exit.inBlock, Exit.then]); refine bodyPost_ret (by simp [results, Try.results37, go_sem, p0, p1, p2, p3, p4, p5, p6, p7]; try rfl) rfl ?_
  exact ⟨_, rfl, (RV.out.kp k9 (fun g hg hx => by have := (PV.out.lt g hg).1; simp only [List.mem_singleton] at hx; omega)).mono PW, N0.out.trans (k9.below (by simp only [List.mem_singleton]; intro k hk; omega) N0.out.size)⟩


end Go.Proofs.Ytmbeaagpjpphhaa

namespace Go.Proofs.Ytmbeaagpjpphhaa
open Go Go.RowKit Go.Joins
set_option linter.unusedVariables false
set_option linter.unusedSimpArgs false

theorem manStep_any (N D : Int) (z : Bool) (s : MN) (x : Ev) (w : World) (h : Bt N D) (hk : ckE N D = 0) (hs : RcN s) (hd : x.d.length ≤ 140737488351232) :
    Calls Try.prog 37 #[.agg (manA N D z), .agg (mnA s.y s.e s.m s.p), .agg (evA x.k x.f x.t x.v x.a ⟨x.d.toArray⟩ x.u)] w fun r w' => ∃ V, r = .returned (.tuple #[.agg (mnA (mnS z N D ⟨s.y, s.e, s.m, s.p, []⟩ x).y (mnS z N D ⟨s.y, s.e, s.m, s.p, []⟩ x).e (mnS z N D ⟨s.y, s.e, s.m, s.p, []⟩ x).m (mnS z N D ⟨s.y, s.e, s.m, s.p, []⟩ x).p), V]) ∧ EvRow w' w.heap.size V (mnS z N D ⟨s.y, s.e, s.m, s.p, []⟩ x).o ∧ Below w.heap.size w w' := by
  have hsz : (⟨x.d.toArray⟩ : ByteArray).size ≤ 140737488351232 := by simpa [ByteArray.size] using hd
  have hz : (⟨x.d.toArray⟩ : ByteArray).size = x.d.length := by simp [ByteArray.size]
  unfold mnS
  by_cases hA : AcL s.e s.e x.k x.f x.t x.v x.a x.d.length x.u
  · have hA' := hA
    rw [← hz] at hA'
    rw [if_pos (show AcN ⟨s.y, s.e, s.m, s.p, []⟩ x from hA)]
    by_cases hp : sgI z x.v = s.p
    · rw [if_pos (show sgI z x.v = (⟨s.y, s.e, s.m, s.p, []⟩ : MN).p from hp)]
      exact (manStep_same N D z s.y s.e s.m s.p x.k x.f x.t x.v x.a _ x.u w h hk hsz hA' hp).mono fun r w' ⟨h1, h2⟩ => ⟨.slice none 0 0, h1, KRow.nil _ _, h2⟩
    · rw [if_neg (show ¬ sgI z x.v = (⟨s.y, s.e, s.m, s.p, []⟩ : MN).p from hp)]
      exact manStep_turn N D z s.y s.e s.m s.p x.k x.f x.t x.v x.a _ x.u w h hk hsz hA' hp ⟨hs.y, hs.m, hs.e, hs.p⟩
  · have hA' := hA
    rw [← hz] at hA'
    rw [if_neg (show ¬ AcN ⟨s.y, s.e, s.m, s.p, []⟩ x from hA)]
    exact (manStep_no N D z s.y s.e s.m s.p x.k x.f x.t x.v x.a _ x.u w h hk hsz hA').mono fun r w' ⟨h1, h2⟩ => ⟨.slice none 0 0, h1, KRow.nil _ _, h2⟩

theorem mtwo_boxes (w : World) (N D : Int) (z : Bool) (S : Array Value) : ∃ W b5 b6, W = (w.alloc (.cells (manA N D z) 59)).alloc (.cells S 39) ∧ b6 = w.heap.size + 1 ∧ b5 = w.heap.size ∧ (b5 < b6 ∧ b6 < W.heap.size ∧ w.heap.size ≤ b5) ∧ RowAt W b5 59 (manA N D z) ∧ RowAt W b6 39 S ∧ Below w.heap.size w W := by
  refine ⟨_, _, _, rfl, rfl, rfl, by simp only [World.size_alloc]; omega, (RowAt.new w _ _).alloc _, RowAt.at (by simp only [World.size_alloc]), by (repeat' (first | with_reducible exact Below.refl _ _ | with_reducible exact Nat.le_refl _ | with_reducible assumption | with_reducible refine below_drewN ?_ _ | with_reducible refine Below.drew ?_ | with_reducible refine Below.trans ?_ (Below.mono (by assumption) ?_) | with_reducible refine Below.alloc ?_ ?_ _ | with_reducible refine Below.setCell ?_ ?_ _ | with_reducible refine le_setCell ?_ _ _ | with_reducible refine le_alloc ?_ _ | with_reducible refine le_drewN ?_ _ | with_reducible refine le_drew ?_ | with_reducible refine Nat.le_trans ?_ (Below.size (by assumption)) | (simp only [World.size_alloc, World.size_setCell]; omega) | omega))⟩

theorem man_held {w W W' : World} {b : Nat} {N D : Int} {z : Bool} (h : W.cell? ⟨b, 0, none⟩ = some (.int .i64 N) ∧ W.cell? ⟨b, 1, none⟩ = some (.int .i64 D) ∧ W.cell? ⟨b, 2, none⟩ = some (.bool z) ∧ b < W.heap.size ∧ Below w.heap.size w W) (hb : Below W.heap.size W W') : W'.cell? ⟨b, 0, none⟩ = some (.int .i64 N) ∧ W'.cell? ⟨b, 1, none⟩ = some (.int .i64 D) ∧ W'.cell? ⟨b, 2, none⟩ = some (.bool z) ∧ b < W'.heap.size ∧ Below w.heap.size w W' :=
  ⟨(hb.cell (p := ⟨b, 0, none⟩) h.2.2.2.1).trans h.1, (hb.cell (p := ⟨b, 1, none⟩) h.2.2.2.1).trans h.2.1, (hb.cell (p := ⟨b, 2, none⟩) h.2.2.2.1).trans h.2.2.1, Nat.lt_of_lt_of_le h.2.2.2.1 hb.size, h.2.2.2.2.trans (hb.mono h.2.2.2.2.size)⟩

set_option maxRecDepth 20000 in
set_option maxHeartbeats 8000000 in
theorem manDecodeG_any (N D : Int) (z : Bool) (l : List Ev) (V : Value) (w : World) (hT : EvArg w V l) (h : Bt N D) (hk : ckE N D = 0) (hl : l.length ≤ 1099511627776) (hd : ∀ j (h : j < l.length), l[j].d.length ≤ 140737488351232) :
    Calls Try.prog 81 #[.agg (manA N D z), .agg (mnA 0 0 0 0), V, .func (.func 37) #[] #[], .func (.func 41) #[] #[]] w fun e w' => ∃ v, e = .returned v ∧ EvRow w' w.heap.size v (mnR z N D l).o ∧ Below w.heap.size w w' := by
  have CS := Lib.hid (fun s e W hs hd => manStep_any N D z s e W h hk hs hd)
  have CE := Lib.hid (fun S W => manEnd_any N D z S W)
  have HD := Lib.hid hd
  obtain ⟨A, c, rfl, hA⟩ := hT
  have HA := Lib.hid hA
  have hl' : (l.length : Int) ≤ 1099511627776 := by omega
  obtain ⟨W, b5, b6, eW, e6, e5, ⟨l5, l6, l0⟩, r5, r6, B0⟩ := mtwo_boxes w N D z (mnA 0 0 0 0)
  have HB0 := Lib.hid B0; have H5 := Lib.hid r5; have H6 := Lib.hid r6
  have hL := mnR_len z N D l
  clear hA hd r5 r6 B0
  go_enter Try.func81, Try.ntmps81
  go_wp2
  rw [← eW, ← e6, ← e5]
  clear eW e6 e5
  go_loopw [18, 11] (fun i r wr => ∃ (j : Nat) (y e m p : Int) (o : List Ev), j ≤ l.length ∧ i = .int .i64 j ∧ Hid (mnR z N D (l.take j) = ⟨y, e, m, p, o⟩) ∧ Hid (EvRow wr W.heap.size r o) ∧ Hid (RowAt wr b5 59 (manA N D z)) ∧ Hid (RowAt wr b6 39 (mnA y e m p)) ∧ Hid (Below w.heap.size w wr) ∧ W.heap.size ≤ wr.heap.size) (fun i _ _ => l.length - (intOf i).toNat)
  case atStart => exact ⟨0, 0, 0, 0, 0, [], Nat.zero_le _, rfl, Lib.hid rfl, Lib.hid (KRow.nil _ _), H5, H6, HB0, Nat.le_refl _⟩
  case round =>
    obtain ⟨j, y, e, m, p, o, hj, rfl, HQ, HR, HZ, HS, HB, hW⟩ := hrel
    have hb := HB.out
    have ho : o.length ≤ j := by have := mnR_len z N D (l.take j); rw [HQ.out, List.length_take] at this; simp only at this; omega
    obtain ⟨⟨g0, g1, g2, g3, g4, g5, g6, g7⟩, g8⟩ := row8 HS.out
    obtain ⟨z0, z1, z2⟩ := row3 HZ.out
    have m5 : b5 < wr.heap.size := by omega
    have m6 : b6 < wr.heap.size := by omega
    clear g8
    by_cases hjl : j < l.length
    · obtain ⟨g, o', rfl, hg, hc⟩ := HA.out (by omega)
      obtain ⟨a0, a1, a2, a3, a4, a5, a6⟩ := arg_seven hc j hjl
      have f0 := (hb.cell (p := ⟨g, o' + j * 7, none⟩) hg).trans a0
      have f1 := (hb.cell (p := ⟨g, o' + j * 7 + 1, none⟩) hg).trans a1
      have f2 := (hb.cell (p := ⟨g, o' + j * 7 + 2, none⟩) hg).trans a2
      have f3 := (hb.cell (p := ⟨g, o' + j * 7 + 3, none⟩) hg).trans a3
      have f4 := (hb.cell (p := ⟨g, o' + j * 7 + 4, none⟩) hg).trans a4
      have f5 := (hb.cell (p := ⟨g, o' + j * 7 + 5, none⟩) hg).trans a5
      have f6 := (hb.cell (p := ⟨g, o' + j * 7 + 6, none⟩) hg).trans a6
      have HN : Hid (mnR z N D (l.take (j + 1)) = mnS z N D ⟨y, e, m, p, o⟩ l[j]) := Lib.hid (by rw [mnR_snoc z N D hjl, HQ.out])
      have HP := Lib.hid (HN.out.trans (mnS_parts z N D y e m p o l[j]))
      have CSj : Hid (∀ W, Calls Try.prog 37 #[.agg (manA N D z), .agg (mnA y e m p), .agg (evA l[j].k l[j].f l[j].t l[j].v l[j].a ⟨l[j].d.toArray⟩ l[j].u)] W fun r w' => ∃ V, r = .returned (.tuple #[.agg (mnA (mnS z N D ⟨y, e, m, p, []⟩ l[j]).y (mnS z N D ⟨y, e, m, p, []⟩ l[j]).e (mnS z N D ⟨y, e, m, p, []⟩ l[j]).m (mnS z N D ⟨y, e, m, p, []⟩ l[j]).p), V]) ∧ EvRow w' W.heap.size V (mnS z N D ⟨y, e, m, p, []⟩ l[j]).o ∧ Below W.heap.size W w') := Lib.hid fun W => CS.out ⟨y, e, m, p, o⟩ l[j] W (by have := rcN_all z N D (l.take j); rw [HQ.out] at this; exact this) (HD.out j hjl)
      have hone := mnS_one z N D y e m p l[j]
      clear a0 a1 a2 a3 a4 a5 a6 hc HN HQ
      generalize (mnS z N D ⟨y, e, m, p, []⟩ l[j]).y = y' at *
      generalize (mnS z N D ⟨y, e, m, p, []⟩ l[j]).e = e' at *
      generalize (mnS z N D ⟨y, e, m, p, []⟩ l[j]).m = m' at *
      generalize (mnS z N D ⟨y, e, m, p, []⟩ l[j]).p = p' at *
      generalize (mnS z N D ⟨y, e, m, p, []⟩ l[j]).o = x' at *
      generalize (⟨l[j].d.toArray⟩ : ByteArray) = x5 at *
      generalize l[j].k = x0 at *
      generalize l[j].f = x1 at *
      generalize l[j].t = x2 at *
      generalize l[j].v = x3 at *
      generalize l[j].a = x4 at *
      generalize l[j].u = x6 at *
      obtain ⟨RA, RN, RC, rfl, hRN⟩ := HR.out.form
      clear hRN
      go_wp2_with (first
        | (go_at_call 37; go_must (refine (CSj.out _).mono ?_; rintro e1 w1 ⟨V1, rfl, v1, b1⟩; obtain ⟨VA, VN, VC, rfl, hVN⟩ := v1.form; clear hVN; have k1 := (ba wr _).trans (b1.mono (by rw [World.size_alloc]; omega)); have V1 := Lib.hid v1; have B1 := Lib.hid (hb.trans (k1.mono hb.size)); have R1 := Lib.hid (HR.out.keep k1); have Z1 := Lib.hid ((HZ.out.keep k1).alloc (.cells (mnA y' e' m' p') 39)); have S1 := Lib.hid ((HS.out.keep k1).alloc (.cells (mnA y' e' m' p') 39)); have s1 := k1.size))
        | (refine wpList_store_kp S1.out (mnA y' e' m' p') (.tmp 6) (.tmp 30) 39 rfl rfl rfl rfl (by kernel_rfl) rfl rfl ?_; intro w3 r3 k3; have R3 := Lib.hid ((R1.out.alloc _).kp k3 (fun g hg hx => by have := R1.out.lt g hg; simp only [List.mem_singleton] at hx; omega)); have V3 := Lib.hid ((((V1.out.alloc _).kp k3 (fun g hg hx => by have := V1.out.lt g hg; rw [World.size_alloc] at this; simp only [List.mem_singleton] at hx; omega)).arg evC_size)); have Z3 := Lib.hid (k3.row Z1.out (by simp only [List.mem_singleton]; omega)); have S3 := Lib.hid r3; have B3 := Lib.hid ((B1.out.alloc B1.out.size _).trans (k3.below (by simp only [List.mem_singleton]; intro k hk; omega) (by rw [World.size_alloc]; exact Nat.le_trans B1.out.size (Nat.le_succ _)))); have s3 := k3.size; rw [World.size_alloc] at s3; clear r3 k3)
        | (at_builtin; go_must (refine wpList_append_arg Try.underlying36 ev_info rfl (by omega) evC_size ev_one rfl _ _ rfl rfl rfl R3.out V3.out (by omega) (by omega) (by omega) ?_; intro v4 w4 r4 b4; have R4 := Lib.hid r4; have B4 := Lib.hid b4; clear r4 b4)))
      go_roundw
      case rel => exact ⟨j + 1, y', e', m', p', o ++ x', by omega, val_int (by omega), HP, R4, Lib.hid (Z3.out.below B4.out (by omega)), Lib.hid (S3.out.below B4.out l6), Lib.hid (B3.out.trans (B4.out.mono HB0.out.size)), by have := B4.out.size; omega⟩
      case measure => simp [intOf]; omega
    · have he : l.take j = l := List.take_of_length_le (by omega)
      rw [he] at HQ
      have HO : Hid ((mnR z N D l).o = o) := Lib.hid (by rw [HQ.out])
      obtain ⟨RA, RN, RC, rfl, hRN⟩ := HR.out.form
      clear hRN he HQ
      go_wp2_with (first
        | (go_at_call 41; go_must (refine (CE.out _ _).mono ?_; rintro e1 w1 ⟨rfl, b1⟩; have R1 := Lib.hid (HR.out.keep b1); have B1 := Lib.hid (hb.trans (b1.mono hb.size)); have s1 := b1.size))
        | (at_builtin; go_must (refine wpList_append_arg Try.underlying36 ev_info rfl (by omega) evC_size ev_one rfl _ _ rfl rfl rfl R1.out (EvArg.none _) (by omega) (by simp only [List.length_nil]; omega) (by simp only [List.length_nil]; omega) ?_; intro v4 w4 r4 b4; rw [List.append_nil] at r4; have R4 := Lib.hid r4; have B4 := Lib.hid b4; clear r4 b4)))
      go_returns
      exact ⟨_, rfl, by rw [HO.out]; exact R4.out.mono HB0.out.size, B1.out.trans (B4.out.mono HB0.out.size)⟩

set_option maxRecDepth 20000 in
set_option maxHeartbeats 8000000 in
theorem manDecode_any (N D : Int) (z : Bool) (l : List Ev) (V : Value) (w : World) (hT : EvArg w V l) (h : Bt N D) (hk : ckE N D = 0) (hl : l.length ≤ 1099511627776) (hd : ∀ j (h : j < l.length), l[j].d.length ≤ 140737488351232) :
    Calls Try.prog 42 #[.agg (manA N D z), V] w fun e w' => ∃ v, e = .returned v ∧ EvRow w' w.heap.size v (mnR z N D l).o ∧ Below w.heap.size w w' := by
  have CS := Lib.hid (fun W => manStart_any N D z W)
  have CD := Lib.hid (fun W (hb : Below w.heap.size w W) => manDecodeG_any N D z l V W (hT.keep hb) h hk hl hd)
  obtain ⟨A, c, rfl, hA⟩ := hT
  obtain ⟨W, b, eW, eb, c0, c1, c2, l0, B0⟩ := man_at w N D z
  have hb0 := Lib.hid B0
  have HC : Hid (W.cell? ⟨b, 0, none⟩ = some (.int .i64 N) ∧ W.cell? ⟨b, 1, none⟩ = some (.int .i64 D) ∧ W.cell? ⟨b, 2, none⟩ = some (.bool z) ∧ b < W.heap.size ∧ Below w.heap.size w W) := Lib.hid ⟨c0, c1, c2, l0, B0⟩
  clear hA
  go_enter Try.func42, Try.ntmps42
  go_wp2
  rw [← eW, ← eb]
  clear eW eb
  go_region_held3 (fun w' => w'.cell? ⟨b, 0, none⟩ = some (.int .i64 N) ∧ w'.cell? ⟨b, 1, none⟩ = some (.int .i64 D) ∧ w'.cell? ⟨b, 2, none⟩ = some (.bool z) ∧ b < w'.heap.size ∧ Below w.heap.size w w') (first | with_reducible assumption | with_reducible exact man_held HC.out (Below.refl _ _).drew | fail)
    (first
      | (go_at_call 40; refine (CS.out _).mono ?_; rintro e5 w5 ⟨rfl, b5⟩; have h5 := man_held (by with_reducible assumption) b5)
      | (go_at_call 81; refine (CD.out _ (And.right (And.right (And.right (And.right (by with_reducible assumption : _ ∧ _ ∧ _ ∧ b < _ ∧ Below w.heap.size w _)))))).mono ?_; rintro e6 w6 ⟨v6, rfl, r6, b6⟩; have h6 := man_held (by with_reducible assumption) b6))
  have hr6 := Lib.hid (r6.mono h5.2.2.2.2.size)
  have hb6 := Lib.hid h6.2.2.2.2
  go_wp2
  go_returns
  exact ⟨_, rfl, hr6.out, hb6.out⟩

end Go.Proofs.Ytmbeaagpjpphhaa

namespace Go.Proofs.Ytmbeaagpjpphhaa
open Go Go.RowKit Go.Joins
set_option linter.unusedVariables false
set_option linter.unusedSimpArgs false

/-- Any state. -/
abbrev stA (x0 x1 x2 x3 x4 x5 x6 : Int) (d : ByteArray) : Array Value := #[.int .i64 x0, .int .i64 x1, .int .i64 x2, .int .i64 x3, .int .i64 x4, .int .i64 x5, .int .i64 x6, .string d]
set_option maxRecDepth 20000 in
set_option maxHeartbeats 4000000 in
theorem manStep_bad (N D : Int) (z : Bool) (x0 x1 x2 x3 x4 x5 x6 : Int) (d : ByteArray) (k f t v a : Int) (s : ByteArray) (u : Int) (w : World) (hN0 : -9223372036854775808 ≤ N) (hN1 : N ≤ 9223372036854775807) (hD0 : -9223372036854775808 ≤ D) (hD1 : D ≤ 9223372036854775807) (hk : ckE N D ≠ 0) :
    Calls Try.prog 37 #[.agg (manA N D z), .agg (stA x0 x1 x2 x3 x4 x5 x6 d), .agg (evA k f t v a s u)] w fun r w' => r = .returned (.tuple #[.agg (stA x0 x1 x2 x3 x4 x5 x6 d), .slice none 0 0]) ∧ Below w.heap.size w w' := by
  have CK := Lib.hid (fun W => manCheck_any N D z W hN0 hN1 hD0 hD1)
  have hk' : (ckE N D != 0) = true := by simpa using hk
  generalize ckE N D = KE at *
  obtain ⟨W, b3, b4, b5, b6, eW, e6, e5, e4, e3, ⟨l3, l4, l5, l6, l0⟩, r3, r4, r5, r6, B0⟩ := mbox_at w N D z (stA x0 x1 x2 x3 x4 x5 x6 d) k f t v a s u (mnA 0 0 0 0)
  have HB0 := Lib.hid B0
  have H4 := Lib.hid r4; have H6 := Lib.hid r6
  obtain ⟨a0, a1, a2⟩ := row3 r3
  clear r3 r4 r5 r6 B0
  go_enter Try.func37, Try.ntmps37
  go_wp2_with (first
    | (rw [← eW, ← e6, ← e5, ← e4, ← e3]; clear eW e6 e5 e4 e3; go_at_call 34; go_must (refine (CK.out _).mono ?_; rintro e1 w1 ⟨rfl, b1⟩; have K6 := Lib.hid (H6.out.keep b1); have B1 := Lib.hid (HB0.out.trans (b1.mono HB0.out.size)); obtain ⟨⟨f0, f1, f2, f3, f4, f5, f6, f7⟩, f8⟩ := row8 (H4.out.keep b1)))
    | (refine wpList_store_at K6.out (Nat.le_refl _) (stA x0 x1 x2 x3 x4 x5 x6 d) (.tmp 6) (.tmp 20) 39 rfl rfl rfl rfl (by kernel_rfl) rfl rfl ?_; intro w9 r9 b9; obtain ⟨⟨p0, p1, p2, p3, p4, p5, p6, p7⟩, p8⟩ := row8 r9))
  (try simp only [Exit.inBlock, Exit.then]); refine bodyPost_ret (by simp [results, Try.results37, go_sem, p0, p1, p2, p3, p4, p5, p6, p7]; try rfl) rfl ?_
  exact ⟨rfl, B1.out.trans (b9.mono (by omega))⟩

/-- The fold that does nothing. -/
def bdQ (z : Bool) (N D : Int) (s : MN) (e : Ev) : MN := s
def bdP (z : Bool) (N D : Int) (l : List Ev) : MN := l.foldl (bdQ z N D) MN.zero
theorem bdP_zero (z : Bool) (N D : Int) (l : List Ev) : bdP z N D l = MN.zero := by
  unfold bdP
  induction l with
  | nil => rfl
  | cons e l ih => exact ih
theorem bdP_snoc (z : Bool) (N D : Int) {l : List Ev} {j : Nat} (hj : j < l.length) : bdP z N D (l.take (j + 1)) = bdQ z N D (bdP z N D (l.take j)) l[j] := by rw [bdP_zero]; unfold bdQ; rw [bdP_zero]
theorem bdQ_parts (z : Bool) (N D y e0 m p : Int) (o : List Ev) (e : Ev) : bdQ z N D ⟨y, e0, m, p, o⟩ e = ⟨(bdQ z N D ⟨y, e0, m, p, []⟩ e).y, (bdQ z N D ⟨y, e0, m, p, []⟩ e).e, (bdQ z N D ⟨y, e0, m, p, []⟩ e).m, (bdQ z N D ⟨y, e0, m, p, []⟩ e).p, o ++ (bdQ z N D ⟨y, e0, m, p, []⟩ e).o⟩ := by simp [bdQ]
theorem bdQ_one (z : Bool) (N D y e0 m p : Int) (e : Ev) : (bdQ z N D ⟨y, e0, m, p, []⟩ e).o.length ≤ 1 := by simp [bdQ]
theorem bdP_len (z : Bool) (N D : Int) (l : List Ev) : (bdP z N D l).o.length ≤ l.length := by rw [bdP_zero]; simp
theorem badStep_any (N D : Int) (z : Bool) (s : MN) (x : Ev) (w : World) (hN0 : -9223372036854775808 ≤ N) (hN1 : N ≤ 9223372036854775807) (hD0 : -9223372036854775808 ≤ D) (hD1 : D ≤ 9223372036854775807) (hk : ckE N D ≠ 0) :
    Calls Try.prog 37 #[.agg (manA N D z), .agg (mnA s.y s.e s.m s.p), .agg (evA x.k x.f x.t x.v x.a ⟨x.d.toArray⟩ x.u)] w fun r w' => ∃ V, r = .returned (.tuple #[.agg (mnA (bdQ z N D ⟨s.y, s.e, s.m, s.p, []⟩ x).y (bdQ z N D ⟨s.y, s.e, s.m, s.p, []⟩ x).e (bdQ z N D ⟨s.y, s.e, s.m, s.p, []⟩ x).m (bdQ z N D ⟨s.y, s.e, s.m, s.p, []⟩ x).p), V]) ∧ EvRow w' w.heap.size V (bdQ z N D ⟨s.y, s.e, s.m, s.p, []⟩ x).o ∧ Below w.heap.size w w' :=
  (manStep_bad N D z s.y s.e s.m 0 0 0 s.p ⟨#[]⟩ x.k x.f x.t x.v x.a _ x.u w hN0 hN1 hD0 hD1 hk).mono fun r w' ⟨h1, h2⟩ => ⟨.slice none 0 0, h1, KRow.nil _ _, h2⟩

set_option maxRecDepth 20000 in
set_option maxHeartbeats 8000000 in
theorem badDecodeG_any (N D : Int) (z : Bool) (l : List Ev) (V : Value) (w : World) (hT : EvArg w V l) (hN0 : -9223372036854775808 ≤ N) (hN1 : N ≤ 9223372036854775807) (hD0 : -9223372036854775808 ≤ D) (hD1 : D ≤ 9223372036854775807) (hk : ckE N D ≠ 0) (hl : l.length ≤ 1099511627776) (hd : ∀ j (h : j < l.length), l[j].d.length ≤ 140737488351232) :
    Calls Try.prog 81 #[.agg (manA N D z), .agg (mnA 0 0 0 0), V, .func (.func 37) #[] #[], .func (.func 41) #[] #[]] w fun e w' => ∃ v, e = .returned v ∧ EvRow w' w.heap.size v (bdP z N D l).o ∧ Below w.heap.size w w' := by
  have CS := Lib.hid (fun s e W => badStep_any N D z s e W hN0 hN1 hD0 hD1 hk)
  have CE := Lib.hid (fun S W => manEnd_any N D z S W)
  have HD := Lib.hid hd
  obtain ⟨A, c, rfl, hA⟩ := hT
  have HA := Lib.hid hA
  have hl' : (l.length : Int) ≤ 1099511627776 := by omega
  obtain ⟨W, b5, b6, eW, e6, e5, ⟨l5, l6, l0⟩, r5, r6, B0⟩ := mtwo_boxes w N D z (mnA 0 0 0 0)
  have HB0 := Lib.hid B0; have H5 := Lib.hid r5; have H6 := Lib.hid r6
  have hL := bdP_len z N D l
  clear hA hd r5 r6 B0
  go_enter Try.func81, Try.ntmps81
  go_wp2
  rw [← eW, ← e6, ← e5]
  clear eW e6 e5
  go_loopw [18, 11] (fun i r wr => ∃ (j : Nat) (y e m p : Int) (o : List Ev), j ≤ l.length ∧ i = .int .i64 j ∧ Hid (bdP z N D (l.take j) = ⟨y, e, m, p, o⟩) ∧ Hid (EvRow wr W.heap.size r o) ∧ Hid (RowAt wr b5 59 (manA N D z)) ∧ Hid (RowAt wr b6 39 (mnA y e m p)) ∧ Hid (Below w.heap.size w wr) ∧ W.heap.size ≤ wr.heap.size) (fun i _ _ => l.length - (intOf i).toNat)
  case atStart => exact ⟨0, 0, 0, 0, 0, [], Nat.zero_le _, rfl, Lib.hid rfl, Lib.hid (KRow.nil _ _), H5, H6, HB0, Nat.le_refl _⟩
  case round =>
    obtain ⟨j, y, e, m, p, o, hj, rfl, HQ, HR, HZ, HS, HB, hW⟩ := hrel
    have hb := HB.out
    have ho : o.length ≤ j := by have := bdP_len z N D (l.take j); rw [HQ.out, List.length_take] at this; simp only at this; omega
    obtain ⟨⟨g0, g1, g2, g3, g4, g5, g6, g7⟩, g8⟩ := row8 HS.out
    obtain ⟨z0, z1, z2⟩ := row3 HZ.out
    have m5 : b5 < wr.heap.size := by omega
    have m6 : b6 < wr.heap.size := by omega
    clear g8
    by_cases hjl : j < l.length
    · obtain ⟨g, o', rfl, hg, hc⟩ := HA.out (by omega)
      obtain ⟨a0, a1, a2, a3, a4, a5, a6⟩ := arg_seven hc j hjl
      have f0 := (hb.cell (p := ⟨g, o' + j * 7, none⟩) hg).trans a0
      have f1 := (hb.cell (p := ⟨g, o' + j * 7 + 1, none⟩) hg).trans a1
      have f2 := (hb.cell (p := ⟨g, o' + j * 7 + 2, none⟩) hg).trans a2
      have f3 := (hb.cell (p := ⟨g, o' + j * 7 + 3, none⟩) hg).trans a3
      have f4 := (hb.cell (p := ⟨g, o' + j * 7 + 4, none⟩) hg).trans a4
      have f5 := (hb.cell (p := ⟨g, o' + j * 7 + 5, none⟩) hg).trans a5
      have f6 := (hb.cell (p := ⟨g, o' + j * 7 + 6, none⟩) hg).trans a6
      have HN : Hid (bdP z N D (l.take (j + 1)) = bdQ z N D ⟨y, e, m, p, o⟩ l[j]) := Lib.hid (by rw [bdP_snoc z N D hjl, HQ.out])
      have HP := Lib.hid (HN.out.trans (bdQ_parts z N D y e m p o l[j]))
      have CSj : Hid (∀ W, Calls Try.prog 37 #[.agg (manA N D z), .agg (mnA y e m p), .agg (evA l[j].k l[j].f l[j].t l[j].v l[j].a ⟨l[j].d.toArray⟩ l[j].u)] W fun r w' => ∃ V, r = .returned (.tuple #[.agg (mnA (bdQ z N D ⟨y, e, m, p, []⟩ l[j]).y (bdQ z N D ⟨y, e, m, p, []⟩ l[j]).e (bdQ z N D ⟨y, e, m, p, []⟩ l[j]).m (bdQ z N D ⟨y, e, m, p, []⟩ l[j]).p), V]) ∧ EvRow w' W.heap.size V (bdQ z N D ⟨y, e, m, p, []⟩ l[j]).o ∧ Below W.heap.size W w') := Lib.hid fun W => CS.out ⟨y, e, m, p, o⟩ l[j] W
      have hone := bdQ_one z N D y e m p l[j]
      clear a0 a1 a2 a3 a4 a5 a6 hc HN HQ
      generalize (bdQ z N D ⟨y, e, m, p, []⟩ l[j]).y = y' at *
      generalize (bdQ z N D ⟨y, e, m, p, []⟩ l[j]).e = e' at *
      generalize (bdQ z N D ⟨y, e, m, p, []⟩ l[j]).m = m' at *
      generalize (bdQ z N D ⟨y, e, m, p, []⟩ l[j]).p = p' at *
      generalize (bdQ z N D ⟨y, e, m, p, []⟩ l[j]).o = x' at *
      generalize (⟨l[j].d.toArray⟩ : ByteArray) = x5 at *
      generalize l[j].k = x0 at *
      generalize l[j].f = x1 at *
      generalize l[j].t = x2 at *
      generalize l[j].v = x3 at *
      generalize l[j].a = x4 at *
      generalize l[j].u = x6 at *
      obtain ⟨RA, RN, RC, rfl, hRN⟩ := HR.out.form
      clear hRN
      go_wp2_with (first
        | (go_at_call 37; go_must (refine (CSj.out _).mono ?_; rintro e1 w1 ⟨V1, rfl, v1, b1⟩; obtain ⟨VA, VN, VC, rfl, hVN⟩ := v1.form; clear hVN; have k1 := (ba wr _).trans (b1.mono (by rw [World.size_alloc]; omega)); have V1 := Lib.hid v1; have B1 := Lib.hid (hb.trans (k1.mono hb.size)); have R1 := Lib.hid (HR.out.keep k1); have Z1 := Lib.hid ((HZ.out.keep k1).alloc (.cells (mnA y' e' m' p') 39)); have S1 := Lib.hid ((HS.out.keep k1).alloc (.cells (mnA y' e' m' p') 39)); have s1 := k1.size))
        | (refine wpList_store_kp S1.out (mnA y' e' m' p') (.tmp 6) (.tmp 30) 39 rfl rfl rfl rfl (by kernel_rfl) rfl rfl ?_; intro w3 r3 k3; have R3 := Lib.hid ((R1.out.alloc _).kp k3 (fun g hg hx => by have := R1.out.lt g hg; simp only [List.mem_singleton] at hx; omega)); have V3 := Lib.hid ((((V1.out.alloc _).kp k3 (fun g hg hx => by have := V1.out.lt g hg; rw [World.size_alloc] at this; simp only [List.mem_singleton] at hx; omega)).arg evC_size)); have Z3 := Lib.hid (k3.row Z1.out (by simp only [List.mem_singleton]; omega)); have S3 := Lib.hid r3; have B3 := Lib.hid ((B1.out.alloc B1.out.size _).trans (k3.below (by simp only [List.mem_singleton]; intro k hk; omega) (by rw [World.size_alloc]; exact Nat.le_trans B1.out.size (Nat.le_succ _)))); have s3 := k3.size; rw [World.size_alloc] at s3; clear r3 k3)
        | (at_builtin; go_must (refine wpList_append_arg Try.underlying36 ev_info rfl (by omega) evC_size ev_one rfl _ _ rfl rfl rfl R3.out V3.out (by omega) (by omega) (by omega) ?_; intro v4 w4 r4 b4; have R4 := Lib.hid r4; have B4 := Lib.hid b4; clear r4 b4)))
      go_roundw
      case rel => exact ⟨j + 1, y', e', m', p', o ++ x', by omega, val_int (by omega), HP, R4, Lib.hid (Z3.out.below B4.out (by omega)), Lib.hid (S3.out.below B4.out l6), Lib.hid (B3.out.trans (B4.out.mono HB0.out.size)), by have := B4.out.size; omega⟩
      case measure => simp [intOf]; omega
    · have he : l.take j = l := List.take_of_length_le (by omega)
      rw [he] at HQ
      have HO : Hid ((bdP z N D l).o = o) := Lib.hid (by rw [HQ.out])
      obtain ⟨RA, RN, RC, rfl, hRN⟩ := HR.out.form
      clear hRN he HQ
      go_wp2_with (first
        | (go_at_call 41; go_must (refine (CE.out _ _).mono ?_; rintro e1 w1 ⟨rfl, b1⟩; have R1 := Lib.hid (HR.out.keep b1); have B1 := Lib.hid (hb.trans (b1.mono hb.size)); have s1 := b1.size))
        | (at_builtin; go_must (refine wpList_append_arg Try.underlying36 ev_info rfl (by omega) evC_size ev_one rfl _ _ rfl rfl rfl R1.out (EvArg.none _) (by omega) (by simp only [List.length_nil]; omega) (by simp only [List.length_nil]; omega) ?_; intro v4 w4 r4 b4; rw [List.append_nil] at r4; have R4 := Lib.hid r4; have B4 := Lib.hid b4; clear r4 b4)))
      go_returns
      exact ⟨_, rfl, by rw [HO.out]; exact R4.out.mono HB0.out.size, B1.out.trans (B4.out.mono HB0.out.size)⟩

set_option maxRecDepth 20000 in
set_option maxHeartbeats 8000000 in
theorem badDecode_any (N D : Int) (z : Bool) (l : List Ev) (V : Value) (w : World) (hT : EvArg w V l) (hN0 : -9223372036854775808 ≤ N) (hN1 : N ≤ 9223372036854775807) (hD0 : -9223372036854775808 ≤ D) (hD1 : D ≤ 9223372036854775807) (hk : ckE N D ≠ 0) (hl : l.length ≤ 1099511627776) (hd : ∀ j (h : j < l.length), l[j].d.length ≤ 140737488351232) :
    Calls Try.prog 42 #[.agg (manA N D z), V] w fun e w' => ∃ v, e = .returned v ∧ EvRow w' w.heap.size v (bdP z N D l).o ∧ Below w.heap.size w w' := by
  have CS := Lib.hid (fun W => manStart_any N D z W)
  have CD := Lib.hid (fun W (hb : Below w.heap.size w W) => badDecodeG_any N D z l V W (hT.keep hb) hN0 hN1 hD0 hD1 hk hl hd)
  obtain ⟨A, c, rfl, hA⟩ := hT
  obtain ⟨W, b, eW, eb, c0, c1, c2, l0, B0⟩ := man_at w N D z
  have hb0 := Lib.hid B0
  have HC : Hid (W.cell? ⟨b, 0, none⟩ = some (.int .i64 N) ∧ W.cell? ⟨b, 1, none⟩ = some (.int .i64 D) ∧ W.cell? ⟨b, 2, none⟩ = some (.bool z) ∧ b < W.heap.size ∧ Below w.heap.size w W) := Lib.hid ⟨c0, c1, c2, l0, B0⟩
  clear hA
  go_enter Try.func42, Try.ntmps42
  go_wp2
  rw [← eW, ← eb]
  clear eW eb
  go_region_held3 (fun w' => w'.cell? ⟨b, 0, none⟩ = some (.int .i64 N) ∧ w'.cell? ⟨b, 1, none⟩ = some (.int .i64 D) ∧ w'.cell? ⟨b, 2, none⟩ = some (.bool z) ∧ b < w'.heap.size ∧ Below w.heap.size w w') (first | with_reducible assumption | with_reducible exact man_held HC.out (Below.refl _ _).drew | fail)
    (first
      | (go_at_call 40; refine (CS.out _).mono ?_; rintro e5 w5 ⟨rfl, b5⟩; have h5 := man_held (by with_reducible assumption) b5)
      | (go_at_call 81; refine (CD.out _ (And.right (And.right (And.right (And.right (by with_reducible assumption : _ ∧ _ ∧ _ ∧ b < _ ∧ Below w.heap.size w _)))))).mono ?_; rintro e6 w6 ⟨v6, rfl, r6, b6⟩; have h6 := man_held (by with_reducible assumption) b6))
  have hr6 := Lib.hid (r6.mono h5.2.2.2.2.size)
  have hb6 := Lib.hid h6.2.2.2.2
  go_wp2
  go_returns
  exact ⟨_, rfl, hr6.out, hb6.out⟩

/-- Two states are the same. -/
def eqS (x0 x1 x2 x3 x4 x5 x6 : Int) (s : ByteArray) (y0 y1 y2 y3 y4 y5 y6 : Int) (s' : ByteArray) : Bool := x0 == y0 && (x1 == y1 && (x2 == y2 && (x3 == y3 && (x4 == y4 && (x5 == y5 && (x6 == y6 && s.data.toList == s'.data.toList))))))
set_option maxRecDepth 20000 in
set_option maxHeartbeats 1000000 in
theorem eqFields_st (d : Nat) (x0 x1 x2 x3 x4 x5 x6 : Int) (s : ByteArray) (w : World) :
    (Op.eqFields (d + 1) (stA x0 x1 x2 x3 x4 x5 x6 s) (stA x0 x1 x2 x3 x4 x5 x6 s) (Try.prog.fieldsOf 39).toList).run Try.prog w = .ok true w := by
  unfold Program.fieldsOf
  rw [Try.underlying39]
  simp only
  go_simp
theorem eql_st (x0 x1 x2 x3 x4 x5 x6 : Int) (s : ByteArray) (w : World) :
    (binOp .eql 39 (.agg (stA x0 x1 x2 x3 x4 x5 x6 s)) (.agg (stA x0 x1 x2 x3 x4 x5 x6 s))).run Try.prog w = .ok (.bool true) w := by
  have hst : Try.prog.underlying 39 = some (.struct (Try.prog.fieldsOf 39)) := by unfold Program.fieldsOf; rw [Try.underlying39]
  rw [run_eql_struct, run_equalIn_agg w 9999 _ _ _ hst (by kernel_rfl), eqFields_st 9998]; rfl

end Go.Proofs.Ytmbeaagpjpphhaa
