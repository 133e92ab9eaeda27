/-
  The walk of the statement SpanPairs.
-/
import Derived.Test.YtpeiiomimfiebaaW2
import Derived.Test.YtpeiiomimfiebaaW12
import Derived.Deep.RegionHeld3
namespace Go.Proofs.Ytpeiiomimfiebaa
open Go Go.RowKit Go.Joins
set_option linter.unusedVariables false
set_option linter.unusedSimpArgs false

/-- What a region that draws its order holds of the world. -/
theorem held8 {w0 w w' : World} {b1 b2 b3 b4 : Nat} {x y u z p q : Int}
    (h : w.cell? ⟨b1, 0, none⟩ = some (.int .i64 x) ∧ w.cell? ⟨b1, 1, none⟩ = some (.int .i64 y) ∧ w.cell? ⟨b2, 0, none⟩ = some (.int .i64 u) ∧ w.cell? ⟨b2, 1, none⟩ = some (.int .i64 z) ∧ w.cell? ⟨b3, 0, none⟩ = some (.int .i64 p) ∧ w.cell? ⟨b3, 1, none⟩ = some (.int .i64 q) ∧ w.cell? ⟨b4, 0, none⟩ = some (.int .i64 p) ∧ w.cell? ⟨b4, 1, none⟩ = some (.int .i64 q) ∧ Below w0.heap.size w0 w ∧ b1 < w.heap.size ∧ b2 < w.heap.size ∧ b3 < w.heap.size ∧ b4 < w.heap.size) (hb : Below w.heap.size w w') :
    w'.cell? ⟨b1, 0, none⟩ = some (.int .i64 x) ∧ w'.cell? ⟨b1, 1, none⟩ = some (.int .i64 y) ∧ w'.cell? ⟨b2, 0, none⟩ = some (.int .i64 u) ∧ w'.cell? ⟨b2, 1, none⟩ = some (.int .i64 z) ∧ w'.cell? ⟨b3, 0, none⟩ = some (.int .i64 p) ∧ w'.cell? ⟨b3, 1, none⟩ = some (.int .i64 q) ∧ w'.cell? ⟨b4, 0, none⟩ = some (.int .i64 p) ∧ w'.cell? ⟨b4, 1, none⟩ = some (.int .i64 q) ∧ Below w0.heap.size w0 w' ∧ b1 < w'.heap.size ∧ b2 < w'.heap.size ∧ b3 < w'.heap.size ∧ b4 < w'.heap.size := by
  obtain ⟨h1, h2, h3, h4, h5, h6, h7, h8, h9, l1, l2, l3, l4⟩ := h
  exact ⟨(hb.cell (p := ⟨b1, 0, none⟩) l1).trans h1, (hb.cell (p := ⟨b1, 1, none⟩) l1).trans h2, (hb.cell (p := ⟨b2, 0, none⟩) l2).trans h3, (hb.cell (p := ⟨b2, 1, none⟩) l2).trans h4, (hb.cell (p := ⟨b3, 0, none⟩) l3).trans h5, (hb.cell (p := ⟨b3, 1, none⟩) l3).trans h6, (hb.cell (p := ⟨b4, 0, none⟩) l4).trans h7, (hb.cell (p := ⟨b4, 1, none⟩) l4).trans h8, h9.trans (hb.mono h9.size), Nat.lt_of_lt_of_le l1 hb.size, Nat.lt_of_lt_of_le l2 hb.size, Nat.lt_of_lt_of_le l3 hb.size, Nat.lt_of_lt_of_le l4 hb.size⟩

set_option maxRecDepth 20000 in
set_option maxHeartbeats 4000000 in
theorem law_pairs (x y u z : Int) (w : World) : Calls Try.prog 3 #[.agg #[.int .i64 x, .int .i64 y], .agg #[.int .i64 u, .int .i64 z]] w fun e w' => e = .returned (.bool true) ∧ Below w.heap.size w w' := by
  have C1 := fun w => common_xy x y u z w
  have C2 := fun w => refCommon_xy x y u z w
  have C3 := fun w => meets_xy x y u z w
  have C4 := fun w => refMeets_xy x y u z w
  generalize cm (x, y) (u, z) = r at *
  obtain ⟨⟨p, q⟩, ok⟩ := r
  unfold prV spV spC at C1 C2
  simp only at C1 C2 C3 C4
  have C5 : ∀ w, Calls Try.prog 12 #[.agg #[.int .i64 x, .int .i64 y]] w fun e w' => e = .returned (.bool (vl (x, y))) ∧ Below w.heap.size w w' := fun w => (valid_xy x y w).mono fun _ _ ⟨h1, h2⟩ => ⟨h1, by rw [h2]; exact ba w _⟩
  have C6 : ∀ w, Calls Try.prog 13 #[.agg #[.int .i64 x, .int .i64 y]] w fun e w' => e = .returned (.bool (vl (x, y))) ∧ Below w.heap.size w w' := fun w => (refValid_xy x y w).mono fun _ _ ⟨h1, h2⟩ => ⟨h1, by rw [h2]; exact ba w _⟩
  generalize vl (x, y) = va at *
  have H1 := Lib.hid C1; have H2 := Lib.hid C2; have H3 := Lib.hid C3; have H4 := Lib.hid C4; have H5 := Lib.hid C5; have H6 := Lib.hid C6
  clear C1 C2 C3 C4 C5 C6
  go_enter Try.func3, Try.ntmps3
  go_wp2_with (first
    | (go_at_call 9; go_must (refine (lives_any _).mono ?_; rintro e1 w1 ⟨rfl, b1⟩; have RA := Lib.hid (((RowAt.new w 23 #[.int .i64 x, .int .i64 y]).alloc (.cells #[.int .i64 u, .int .i64 z] 23)).keep b1); have RB := Lib.hid ((RowAt.at (w := w.alloc (.cells #[.int .i64 x, .int .i64 y] 23)) (T := 23) (cs := #[.int .i64 u, .int .i64 z]) (World.size_alloc _ _).symm).keep b1); have B1 := Lib.hid (show Below w.heap.size w w1 from (ba w _).trans (((ba (w.alloc _) _).trans (b1.mono (le_alloc (Nat.le_refl _) _))).mono (le_alloc (Nat.le_refl _) _))); have a0 : w1.cell? ⟨w.heap.size, 0, none⟩ = some (.int .i64 x) := RA.out.cell 0; have a1 : w1.cell? ⟨w.heap.size, 1, none⟩ = some (.int .i64 y) := RA.out.cell 1; have a2 : w1.cell? ⟨w.heap.size + 1, 0, none⟩ = some (.int .i64 u) := RB.out.cell 0; have a3 : w1.cell? ⟨w.heap.size + 1, 1, none⟩ = some (.int .i64 z) := RB.out.cell 1))
    | (go_at_call 10; go_must (refine (H1.out _).mono ?_; rintro e2 w2 ⟨rfl, b2⟩; have RA2 := Lib.hid ((RA.out.keep b2).alloc (.cells #[.int .i64 p, .int .i64 q] 23)); have RB2 := Lib.hid ((RB.out.keep b2).alloc (.cells #[.int .i64 p, .int .i64 q] 23)); have B2 := Lib.hid ((B1.out.trans (b2.mono B1.out.size)).alloc (Nat.le_trans B1.out.size b2.size) (.cells #[.int .i64 p, .int .i64 q] 23)); have c0 : (w2.alloc (.cells #[.int .i64 p, .int .i64 q] 23)).cell? ⟨w.heap.size, 0, none⟩ = some (.int .i64 x) := RA2.out.cell 0; have c1 : (w2.alloc (.cells #[.int .i64 p, .int .i64 q] 23)).cell? ⟨w.heap.size, 1, none⟩ = some (.int .i64 y) := RA2.out.cell 1; have c2 : (w2.alloc (.cells #[.int .i64 p, .int .i64 q] 23)).cell? ⟨w.heap.size + 1, 0, none⟩ = some (.int .i64 u) := RB2.out.cell 0; have c3 : (w2.alloc (.cells #[.int .i64 p, .int .i64 q] 23)).cell? ⟨w.heap.size + 1, 1, none⟩ = some (.int .i64 z) := RB2.out.cell 1))
    | (go_at_call 11; go_must (refine (H2.out _).mono ?_; rintro e3 w3 ⟨rfl, b3⟩; have RA3 := Lib.hid ((RA2.out.keep b3).alloc (.cells #[.int .i64 p, .int .i64 q] 23)); have RB3 := Lib.hid ((RB2.out.keep b3).alloc (.cells #[.int .i64 p, .int .i64 q] 23)); have RC3 := Lib.hid (((RowAt.new w2 23 #[.int .i64 p, .int .i64 q]).keep b3).alloc (.cells #[.int .i64 p, .int .i64 q] 23)); have RD3 := Lib.hid (RowAt.new w3 23 #[.int .i64 p, .int .i64 q]); have B3 := Lib.hid ((B2.out.trans (b3.mono B2.out.size)).alloc (Nat.le_trans B2.out.size b3.size) (.cells #[.int .i64 p, .int .i64 q] 23)))))
  clear a0 a1 a2 a3 c0 c1 c2 c3 RA RB RA2 RB2 B1 B2
  generalize (w3.alloc (.cells #[.int .i64 p, .int .i64 q] 23)) = W at *
  generalize w2.heap.size = k3 at *
  generalize w3.heap.size = k4 at *
  have HS : W.cell? ⟨w.heap.size, 0, none⟩ = some (.int .i64 x) ∧ W.cell? ⟨w.heap.size, 1, none⟩ = some (.int .i64 y) ∧ W.cell? ⟨w.heap.size + 1, 0, none⟩ = some (.int .i64 u) ∧ W.cell? ⟨w.heap.size + 1, 1, none⟩ = some (.int .i64 z) ∧ W.cell? ⟨k3, 0, none⟩ = some (.int .i64 p) ∧ W.cell? ⟨k3, 1, none⟩ = some (.int .i64 q) ∧ W.cell? ⟨k4, 0, none⟩ = some (.int .i64 p) ∧ W.cell? ⟨k4, 1, none⟩ = some (.int .i64 q) ∧ Below w.heap.size w W ∧ w.heap.size < W.heap.size ∧ w.heap.size + 1 < W.heap.size ∧ k3 < W.heap.size ∧ k4 < W.heap.size :=
    ⟨RA3.out.cell 0, RA3.out.cell 1, RB3.out.cell 0, RB3.out.cell 1, RC3.out.cell 0, RC3.out.cell 1, RD3.out.cell 0, RD3.out.cell 1, B3.out, RA3.out.lt, RB3.out.lt, RC3.out.lt, RD3.out.lt⟩
  have hs := Lib.hid HS
  clear HS RA3 RB3 RC3 RD3 B3
  go_region_held3 (fun w' => w'.cell? ⟨w.heap.size, 0, none⟩ = some (.int .i64 x) ∧ w'.cell? ⟨w.heap.size, 1, none⟩ = some (.int .i64 y) ∧ w'.cell? ⟨w.heap.size + 1, 0, none⟩ = some (.int .i64 u) ∧ w'.cell? ⟨w.heap.size + 1, 1, none⟩ = some (.int .i64 z) ∧ w'.cell? ⟨k3, 0, none⟩ = some (.int .i64 p) ∧ w'.cell? ⟨k3, 1, none⟩ = some (.int .i64 q) ∧ w'.cell? ⟨k4, 0, none⟩ = some (.int .i64 p) ∧ w'.cell? ⟨k4, 1, none⟩ = some (.int .i64 q) ∧ Below w.heap.size w w' ∧ w.heap.size < w'.heap.size ∧ w.heap.size + 1 < w'.heap.size ∧ k3 < w'.heap.size ∧ k4 < w'.heap.size) (first | exact ⟨hs.out.1, hs.out.2.1, hs.out.2.2.1, hs.out.2.2.2.1, hs.out.2.2.2.2.1, hs.out.2.2.2.2.2.1, hs.out.2.2.2.2.2.2.1, hs.out.2.2.2.2.2.2.2.1, hs.out.2.2.2.2.2.2.2.2.1.drew, hs.out.2.2.2.2.2.2.2.2.2.1, hs.out.2.2.2.2.2.2.2.2.2.2.1, hs.out.2.2.2.2.2.2.2.2.2.2.2.1, hs.out.2.2.2.2.2.2.2.2.2.2.2.2⟩ | assumption | go_keep)
    (first
      | (go_at_call 12; refine (H5.out _).mono ?_; rintro e5 w5 ⟨rfl, b5⟩; have h5 := held8 (by assumption) b5)
      | (go_at_call 13; refine (H6.out _).mono ?_; rintro e6 w6 ⟨rfl, b6⟩; have h6 := held8 (by assumption) b6)
      | (go_at_call 14; refine (H3.out _).mono ?_; rintro e7 w7 ⟨rfl, b7⟩; have h7 := held8 (by assumption) b7)
      | (go_at_call 15; refine (H4.out _).mono ?_; rintro e8 w8 ⟨rfl, b8⟩; have h8 := held8 (by assumption) b8))
  all_goals go_wp2
  all_goals go_returns
  all_goals (refine ⟨by first | rfl | (cases va <;> cases ok <;> rfl) | simp, ?_⟩; rename_i hh; exact hh.2.2.2.2.2.2.2.2.1)

end Go.Proofs.Ytpeiiomimfiebaa
