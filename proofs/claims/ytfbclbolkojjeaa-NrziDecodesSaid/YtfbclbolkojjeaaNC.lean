/-
  Layer 16: Start with its memory written out; two states made side by side; a step's region, whatever the state's cells are.
-/
import Derived.Test.YtfbclbolkojjeaaNB
import Derived.Deep.Cut
import Derived.Deep.CutRange
namespace Go.Proofs.Ytfbclbolkojjeaa
open Go Go.RowKit Go.Joins
set_option linter.unusedVariables false
set_option linter.unusedSimpArgs false

theorem held_al {w : World} {b : Nat} {x : Value} (h : w.cell? ⟨b, 0, none⟩ = some x ∧ b < w.heap.size) (o : Obj) : (w.alloc o).cell? ⟨b, 0, none⟩ = some x ∧ b < (w.alloc o).heap.size := ⟨((ba w o).cell (p := ⟨b, 0, none⟩) h.2).trans h.1, Nat.lt_of_lt_of_le h.2 (ba w o).size⟩
theorem held_dr {w : World} {b : Nat} {x : Value} (h : w.cell? ⟨b, 0, none⟩ = some x ∧ b < w.heap.size) : w.drew.cell? ⟨b, 0, none⟩ = some x ∧ b < w.drew.heap.size := h
/-- Two whole states stored. -/
theorem two_set8 {w w3 : World} {bS bR : Nat} (a0 a1 a2 a3 a4 a5 a6 a7 c0 c1 c2 c3 c4 c5 c6 c7 x0 x1 x2 x3 x4 x5 x6 x7 y0 y1 y2 y3 y4 y5 y6 y7 : Value) (hS : RowAt w3 bS 39 #[a0, a1, a2, a3, a4, a5, a6, a7]) (hR : RowAt w3 bR 39 #[c0, c1, c2, c3, c4, c5, c6, c7]) (hne : bS ≠ bR) (hb : Below w.heap.size w w3) (h1 : w.heap.size ≤ bS) (h2 : w.heap.size ≤ bR) :
    ∃ w4, w4 = ((((((((((((((((w3.setCell ⟨bS, 0, none⟩ x0).setCell ⟨bS, 1, none⟩ x1).setCell ⟨bS, 2, none⟩ x2).setCell ⟨bS, 3, none⟩ x3).setCell ⟨bS, 4, none⟩ x4).setCell ⟨bS, 5, none⟩ x5).setCell ⟨bS, 6, none⟩ x6).setCell ⟨bS, 7, none⟩ x7).setCell ⟨bR, 0, none⟩ y0).setCell ⟨bR, 1, none⟩ y1).setCell ⟨bR, 2, none⟩ y2).setCell ⟨bR, 3, none⟩ y3).setCell ⟨bR, 4, none⟩ y4).setCell ⟨bR, 5, none⟩ y5).setCell ⟨bR, 6, none⟩ y6).setCell ⟨bR, 7, none⟩ y7) ∧ RowAt w4 bS 39 #[x0, x1, x2, x3, x4, x5, x6, x7] ∧ RowAt w4 bR 39 #[y0, y1, y2, y3, y4, y5, y6, y7] ∧ Kp [bS, bR] w3 w4 ∧ Below w.heap.size w w4 := by
  have ho : ∀ W, RowAt W bS 39 #[x0, x1, x2, x3, x4, x5, x6, x7] → ∀ j u, RowAt (W.setCell ⟨bR, j, none⟩ u) bS 39 #[x0, x1, x2, x3, x4, x5, x6, x7] := fun W h j u => h.other _ _ (fun e => hne e.symm)
  have hp : ∀ W, RowAt W bR 39 #[c0, c1, c2, c3, c4, c5, c6, c7] → ∀ j u, RowAt (W.setCell ⟨bS, j, none⟩ u) bR 39 #[c0, c1, c2, c3, c4, c5, c6, c7] := fun W h j u => h.other _ _ hne
  have hk1 : ∀ W, Kp [bS, bR] w3 W → ∀ j u, Kp [bS, bR] w3 (W.setCell ⟨bS, j, none⟩ u) := fun W h j u => h.setCell (.inl (by simp)) _
  have hk2 : ∀ W, Kp [bS, bR] w3 W → ∀ j u, Kp [bS, bR] w3 (W.setCell ⟨bR, j, none⟩ u) := fun W h j u => h.setCell (.inl (by simp)) _
  have hb1 : ∀ W, Below w.heap.size w W → ∀ j u, Below w.heap.size w (W.setCell ⟨bS, j, none⟩ u) := fun W h j u => h.setCell h1 _
  have hb2 : ∀ W, Below w.heap.size w W → ∀ j u, Below w.heap.size w (W.setCell ⟨bR, j, none⟩ u) := fun W h j u => h.setCell h2 _
  exact ⟨_, rfl, (ho _ (ho _ (ho _ (ho _ (ho _ (ho _ (ho _ (ho _ (set8 hS) _ _) _ _) _ _) _ _) _ _) _ _) _ _) _ _), set8 (hp _ (hp _ (hp _ (hp _ (hp _ (hp _ (hp _ (hp _ hR _ _) _ _) _ _) _ _) _ _) _ _) _ _) _ _), (hk2 _ (hk2 _ (hk2 _ (hk2 _ (hk2 _ (hk2 _ (hk2 _ (hk2 _ (hk1 _ (hk1 _ (hk1 _ (hk1 _ (hk1 _ (hk1 _ (hk1 _ (hk1 _ (Kp.refl _ _) _ _) _ _) _ _) _ _) _ _) _ _) _ _) _ _) _ _) _ _) _ _) _ _) _ _) _ _) _ _) _ _), (hb2 _ (hb2 _ (hb2 _ (hb2 _ (hb2 _ (hb2 _ (hb2 _ (hb2 _ (hb1 _ (hb1 _ (hb1 _ (hb1 _ (hb1 _ (hb1 _ (hb1 _ (hb1 _ hb _ _) _ _) _ _) _ _) _ _) _ _) _ _) _ _) _ _) _ _) _ _) _ _) _ _) _ _) _ _) _ _)⟩
theorem h16v {wr W W' : World} {b2 b5 g O : Nat} {zz s0 s1 s2 s3 s4 s5 s6 s7 y0 y1 y2 y3 y4 y5 y6 : Value} (h : W.cell? ⟨b2, 0, none⟩ = some zz ∧ W.cell? ⟨b5, 0, none⟩ = some s0 ∧ W.cell? ⟨b5, 1, none⟩ = some s1 ∧ W.cell? ⟨b5, 2, none⟩ = some s2 ∧ W.cell? ⟨b5, 3, none⟩ = some s3 ∧ W.cell? ⟨b5, 4, none⟩ = some s4 ∧ W.cell? ⟨b5, 5, none⟩ = some s5 ∧ W.cell? ⟨b5, 6, none⟩ = some s6 ∧ W.cell? ⟨b5, 7, none⟩ = some s7 ∧ W.cell? ⟨g, O, none⟩ = some y0 ∧ W.cell? ⟨g, O + 1, none⟩ = some y1 ∧ W.cell? ⟨g, O + 2, none⟩ = some y2 ∧ W.cell? ⟨g, O + 3, none⟩ = some y3 ∧ W.cell? ⟨g, O + 4, none⟩ = some y4 ∧ W.cell? ⟨g, O + 5, none⟩ = some y5 ∧ W.cell? ⟨g, O + 6, none⟩ = some y6 ∧ wr.heap.size ≤ W.heap.size ∧ Below wr.heap.size wr W) (hb : Below wr.heap.size W W') (m2 : b2 < wr.heap.size) (m5 : b5 < wr.heap.size) (mg : g < wr.heap.size) : W'.cell? ⟨b2, 0, none⟩ = some zz ∧ W'.cell? ⟨b5, 0, none⟩ = some s0 ∧ W'.cell? ⟨b5, 1, none⟩ = some s1 ∧ W'.cell? ⟨b5, 2, none⟩ = some s2 ∧ W'.cell? ⟨b5, 3, none⟩ = some s3 ∧ W'.cell? ⟨b5, 4, none⟩ = some s4 ∧ W'.cell? ⟨b5, 5, none⟩ = some s5 ∧ W'.cell? ⟨b5, 6, none⟩ = some s6 ∧ W'.cell? ⟨b5, 7, none⟩ = some s7 ∧ W'.cell? ⟨g, O, none⟩ = some y0 ∧ W'.cell? ⟨g, O + 1, none⟩ = some y1 ∧ W'.cell? ⟨g, O + 2, none⟩ = some y2 ∧ W'.cell? ⟨g, O + 3, none⟩ = some y3 ∧ W'.cell? ⟨g, O + 4, none⟩ = some y4 ∧ W'.cell? ⟨g, O + 5, none⟩ = some y5 ∧ W'.cell? ⟨g, O + 6, none⟩ = some y6 ∧ wr.heap.size ≤ W'.heap.size ∧ Below wr.heap.size wr W' := by
  obtain ⟨a, c0, c1, c2, c3, c4, c5, c6, c7, d0, d1, d2, d3, d4, d5, d6, hz, B⟩ := h
  exact ⟨(hb.cell m2).trans a, (hb.cell m5).trans c0, (hb.cell m5).trans c1, (hb.cell m5).trans c2, (hb.cell m5).trans c3, (hb.cell m5).trans c4, (hb.cell m5).trans c5, (hb.cell m5).trans c6, (hb.cell m5).trans c7, (hb.cell mg).trans d0, (hb.cell mg).trans d1, (hb.cell mg).trans d2, (hb.cell mg).trans d3, (hb.cell mg).trans d4, (hb.cell mg).trans d5, (hb.cell mg).trans d6, by have := hb.size; omega, B.trans hb⟩
theorem h16vB {wr W : World} {b2 b5 g O : Nat} {zz s0 s1 s2 s3 s4 s5 s6 s7 y0 y1 y2 y3 y4 y5 y6 : Value} (h : W.cell? ⟨b2, 0, none⟩ = some zz ∧ W.cell? ⟨b5, 0, none⟩ = some s0 ∧ W.cell? ⟨b5, 1, none⟩ = some s1 ∧ W.cell? ⟨b5, 2, none⟩ = some s2 ∧ W.cell? ⟨b5, 3, none⟩ = some s3 ∧ W.cell? ⟨b5, 4, none⟩ = some s4 ∧ W.cell? ⟨b5, 5, none⟩ = some s5 ∧ W.cell? ⟨b5, 6, none⟩ = some s6 ∧ W.cell? ⟨b5, 7, none⟩ = some s7 ∧ W.cell? ⟨g, O, none⟩ = some y0 ∧ W.cell? ⟨g, O + 1, none⟩ = some y1 ∧ W.cell? ⟨g, O + 2, none⟩ = some y2 ∧ W.cell? ⟨g, O + 3, none⟩ = some y3 ∧ W.cell? ⟨g, O + 4, none⟩ = some y4 ∧ W.cell? ⟨g, O + 5, none⟩ = some y5 ∧ W.cell? ⟨g, O + 6, none⟩ = some y6 ∧ wr.heap.size ≤ W.heap.size ∧ Below wr.heap.size wr W) : wr.heap.size ≤ W.heap.size ∧ Below wr.heap.size wr W := h.2.2.2.2.2.2.2.2.2.2.2.2.2.2.2.2
theorem h16vS {wr W : World} {b2 b5 g O c j : Nat} {u zz s0 s1 s2 s3 s4 s5 s6 s7 y0 y1 y2 y3 y4 y5 y6 : Value} (h : W.cell? ⟨b2, 0, none⟩ = some zz ∧ W.cell? ⟨b5, 0, none⟩ = some s0 ∧ W.cell? ⟨b5, 1, none⟩ = some s1 ∧ W.cell? ⟨b5, 2, none⟩ = some s2 ∧ W.cell? ⟨b5, 3, none⟩ = some s3 ∧ W.cell? ⟨b5, 4, none⟩ = some s4 ∧ W.cell? ⟨b5, 5, none⟩ = some s5 ∧ W.cell? ⟨b5, 6, none⟩ = some s6 ∧ W.cell? ⟨b5, 7, none⟩ = some s7 ∧ W.cell? ⟨g, O, none⟩ = some y0 ∧ W.cell? ⟨g, O + 1, none⟩ = some y1 ∧ W.cell? ⟨g, O + 2, none⟩ = some y2 ∧ W.cell? ⟨g, O + 3, none⟩ = some y3 ∧ W.cell? ⟨g, O + 4, none⟩ = some y4 ∧ W.cell? ⟨g, O + 5, none⟩ = some y5 ∧ W.cell? ⟨g, O + 6, none⟩ = some y6 ∧ wr.heap.size ≤ W.heap.size ∧ Below wr.heap.size wr W) (hc : wr.heap.size ≤ c) (m2 : b2 < wr.heap.size) (m5 : b5 < wr.heap.size) (mg : g < wr.heap.size) : (W.setCell ⟨c, j, none⟩ u).cell? ⟨b2, 0, none⟩ = some zz ∧ (W.setCell ⟨c, j, none⟩ u).cell? ⟨b5, 0, none⟩ = some s0 ∧ (W.setCell ⟨c, j, none⟩ u).cell? ⟨b5, 1, none⟩ = some s1 ∧ (W.setCell ⟨c, j, none⟩ u).cell? ⟨b5, 2, none⟩ = some s2 ∧ (W.setCell ⟨c, j, none⟩ u).cell? ⟨b5, 3, none⟩ = some s3 ∧ (W.setCell ⟨c, j, none⟩ u).cell? ⟨b5, 4, none⟩ = some s4 ∧ (W.setCell ⟨c, j, none⟩ u).cell? ⟨b5, 5, none⟩ = some s5 ∧ (W.setCell ⟨c, j, none⟩ u).cell? ⟨b5, 6, none⟩ = some s6 ∧ (W.setCell ⟨c, j, none⟩ u).cell? ⟨b5, 7, none⟩ = some s7 ∧ (W.setCell ⟨c, j, none⟩ u).cell? ⟨g, O, none⟩ = some y0 ∧ (W.setCell ⟨c, j, none⟩ u).cell? ⟨g, O + 1, none⟩ = some y1 ∧ (W.setCell ⟨c, j, none⟩ u).cell? ⟨g, O + 2, none⟩ = some y2 ∧ (W.setCell ⟨c, j, none⟩ u).cell? ⟨g, O + 3, none⟩ = some y3 ∧ (W.setCell ⟨c, j, none⟩ u).cell? ⟨g, O + 4, none⟩ = some y4 ∧ (W.setCell ⟨c, j, none⟩ u).cell? ⟨g, O + 5, none⟩ = some y5 ∧ (W.setCell ⟨c, j, none⟩ u).cell? ⟨g, O + 6, none⟩ = some y6 ∧ wr.heap.size ≤ (W.setCell ⟨c, j, none⟩ u).heap.size ∧ Below wr.heap.size wr (W.setCell ⟨c, j, none⟩ u) := h16v h ((Below.refl _ _).setCell hc _) m2 m5 mg
/-- Behind a step's region: the next state in a box of its own, the bits in a row of the call's own. -/
def NxQ (wr W : World) (b : Nat) (S : Array Value) (V : Value) (x : List Ev) : Prop := RowAt W b 39 S ∧ Below wr.heap.size wr W ∧ wr.heap.size ≤ b ∧ b < W.heap.size ∧ EvRow W wr.heap.size V x
theorem wayq_one {wr w9 : World} {B : Nat} {V : Value} {x : List Ev} (S : Array Value) (hB : wr.heap.size ≤ B) (b9 : Below wr.heap.size wr w9) (v9 : EvRow w9 B V x) : ∃ W8 b8, W8 = w9.alloc (.cells S 39) ∧ b8 = w9.heap.size ∧ NxQ wr W8 b8 S V x :=
  ⟨_, _, rfl, rfl, RowAt.new _ _ _, b9.alloc b9.size _, b9.size, by rw [World.size_alloc]; omega, (v9.alloc _).mono hB⟩
theorem wayq_two {wr w9 : World} {B : Nat} {V : Value} {x : List Ev} {z0 z1 z2 z3 z4 z5 z6 z7 : Value} (x0 x1 x2 x3 x4 x5 x6 x7 : Value) (hB : wr.heap.size < B) (b9 : Below wr.heap.size wr w9) (v9 : EvRow w9 B V x) (r9 : RowAt w9 wr.heap.size 39 #[z0, z1, z2, z3, z4, z5, z6, z7]) : ∃ W8 b8, W8 = ((((((((w9.setCell ⟨wr.heap.size, 0, none⟩ x0).setCell ⟨wr.heap.size, 1, none⟩ x1).setCell ⟨wr.heap.size, 2, none⟩ x2).setCell ⟨wr.heap.size, 3, none⟩ x3).setCell ⟨wr.heap.size, 4, none⟩ x4).setCell ⟨wr.heap.size, 5, none⟩ x5).setCell ⟨wr.heap.size, 6, none⟩ x6).setCell ⟨wr.heap.size, 7, none⟩ x7) ∧ b8 = wr.heap.size ∧ NxQ wr W8 b8 #[x0, x1, x2, x3, x4, x5, x6, x7] V x := by
  have hb : ∀ W, Below wr.heap.size wr W → ∀ j u, Below wr.heap.size wr (W.setCell ⟨wr.heap.size, j, none⟩ u) := fun W h j u => h.setCell (Nat.le_refl _) _
  have hk : ∀ W, Kp [wr.heap.size] w9 W → ∀ j u, Kp [wr.heap.size] w9 (W.setCell ⟨wr.heap.size, j, none⟩ u) := fun W h j u => h.setCell (.inl (by simp)) _
  refine ⟨_, _, rfl, rfl, set8 r9, hb _ (hb _ (hb _ (hb _ (hb _ (hb _ (hb _ (hb _ b9 _ _) _ _) _ _) _ _) _ _) _ _) _ _) _ _, Nat.le_refl _, by have := r9.lt; simp only [World.size_setCell]; omega, ?_⟩
  refine (KRow.kp v9 (hk _ (hk _ (hk _ (hk _ (hk _ (hk _ (hk _ (hk _ (Kp.refl _ _) _ _) _ _) _ _) _ _) _ _) _ _) _ _) _ _) fun g hg hx => ?_).mono (Nat.le_of_lt hB)
  have := v9.lt g hg
  simp only [List.mem_singleton] at hx
  omega
theorem h17v {wr W W' : World} {b2 bS bR : Nat} {zz s0 s1 s2 s3 s4 s5 s6 s7 r0 r1 r2 r3 r4 r5 r6 r7 : Value} (h : W.cell? ⟨b2, 0, none⟩ = some zz ∧ W.cell? ⟨bS, 0, none⟩ = some s0 ∧ W.cell? ⟨bS, 1, none⟩ = some s1 ∧ W.cell? ⟨bS, 2, none⟩ = some s2 ∧ W.cell? ⟨bS, 3, none⟩ = some s3 ∧ W.cell? ⟨bS, 4, none⟩ = some s4 ∧ W.cell? ⟨bS, 5, none⟩ = some s5 ∧ W.cell? ⟨bS, 6, none⟩ = some s6 ∧ W.cell? ⟨bS, 7, none⟩ = some s7 ∧ W.cell? ⟨bR, 0, none⟩ = some r0 ∧ W.cell? ⟨bR, 1, none⟩ = some r1 ∧ W.cell? ⟨bR, 2, none⟩ = some r2 ∧ W.cell? ⟨bR, 3, none⟩ = some r3 ∧ W.cell? ⟨bR, 4, none⟩ = some r4 ∧ W.cell? ⟨bR, 5, none⟩ = some r5 ∧ W.cell? ⟨bR, 6, none⟩ = some r6 ∧ W.cell? ⟨bR, 7, none⟩ = some r7 ∧ wr.heap.size ≤ W.heap.size ∧ Below wr.heap.size wr W) (hb : Below wr.heap.size W W') (m2 : b2 < wr.heap.size) (m5 : bS < wr.heap.size) (m6 : bR < wr.heap.size) : W'.cell? ⟨b2, 0, none⟩ = some zz ∧ W'.cell? ⟨bS, 0, none⟩ = some s0 ∧ W'.cell? ⟨bS, 1, none⟩ = some s1 ∧ W'.cell? ⟨bS, 2, none⟩ = some s2 ∧ W'.cell? ⟨bS, 3, none⟩ = some s3 ∧ W'.cell? ⟨bS, 4, none⟩ = some s4 ∧ W'.cell? ⟨bS, 5, none⟩ = some s5 ∧ W'.cell? ⟨bS, 6, none⟩ = some s6 ∧ W'.cell? ⟨bS, 7, none⟩ = some s7 ∧ W'.cell? ⟨bR, 0, none⟩ = some r0 ∧ W'.cell? ⟨bR, 1, none⟩ = some r1 ∧ W'.cell? ⟨bR, 2, none⟩ = some r2 ∧ W'.cell? ⟨bR, 3, none⟩ = some r3 ∧ W'.cell? ⟨bR, 4, none⟩ = some r4 ∧ W'.cell? ⟨bR, 5, none⟩ = some r5 ∧ W'.cell? ⟨bR, 6, none⟩ = some r6 ∧ W'.cell? ⟨bR, 7, none⟩ = some r7 ∧ wr.heap.size ≤ W'.heap.size ∧ Below wr.heap.size wr W' := by
  obtain ⟨a, c0, c1, c2, c3, c4, c5, c6, c7, d0, d1, d2, d3, d4, d5, d6, d7, hz, B⟩ := h
  exact ⟨(hb.cell m2).trans a, (hb.cell m5).trans c0, (hb.cell m5).trans c1, (hb.cell m5).trans c2, (hb.cell m5).trans c3, (hb.cell m5).trans c4, (hb.cell m5).trans c5, (hb.cell m5).trans c6, (hb.cell m5).trans c7, (hb.cell m6).trans d0, (hb.cell m6).trans d1, (hb.cell m6).trans d2, (hb.cell m6).trans d3, (hb.cell m6).trans d4, (hb.cell m6).trans d5, (hb.cell m6).trans d6, (hb.cell m6).trans d7, by have := hb.size; omega, B.trans hb⟩
theorem h17vB {wr W : World} {b2 bS bR : Nat} {zz s0 s1 s2 s3 s4 s5 s6 s7 r0 r1 r2 r3 r4 r5 r6 r7 : Value} (h : W.cell? ⟨b2, 0, none⟩ = some zz ∧ W.cell? ⟨bS, 0, none⟩ = some s0 ∧ W.cell? ⟨bS, 1, none⟩ = some s1 ∧ W.cell? ⟨bS, 2, none⟩ = some s2 ∧ W.cell? ⟨bS, 3, none⟩ = some s3 ∧ W.cell? ⟨bS, 4, none⟩ = some s4 ∧ W.cell? ⟨bS, 5, none⟩ = some s5 ∧ W.cell? ⟨bS, 6, none⟩ = some s6 ∧ W.cell? ⟨bS, 7, none⟩ = some s7 ∧ W.cell? ⟨bR, 0, none⟩ = some r0 ∧ W.cell? ⟨bR, 1, none⟩ = some r1 ∧ W.cell? ⟨bR, 2, none⟩ = some r2 ∧ W.cell? ⟨bR, 3, none⟩ = some r3 ∧ W.cell? ⟨bR, 4, none⟩ = some r4 ∧ W.cell? ⟨bR, 5, none⟩ = some r5 ∧ W.cell? ⟨bR, 6, none⟩ = some r6 ∧ W.cell? ⟨bR, 7, none⟩ = some r7 ∧ wr.heap.size ≤ W.heap.size ∧ Below wr.heap.size wr W) : wr.heap.size ≤ W.heap.size ∧ Below wr.heap.size wr W := h.2.2.2.2.2.2.2.2.2.2.2.2.2.2.2.2.2
theorem evarg_keep {w W : World} {A : Option Addr} {c : Nat} {l : List Ev} (h : 0 < l.length → ∃ g o, A = some ⟨g, o, none⟩ ∧ g < w.heap.size ∧ ∀ j (hj : j < l.length) i, i < 7 → w.cell? ⟨g, o + j * 7 + i, none⟩ = (evC l[j])[i]?) (hb : Below w.heap.size w W) : EvArg W (.slice A l.length c) l := KArg.keep ⟨A, c, rfl, h⟩ hb
theorem start_w (z : Bool) (w : World) : Calls Try.prog 34 #[.agg #[.bool z]] w fun e w' => e = .returned (.agg (stP 0 1)) ∧ w' = (w.alloc (.cells #[.bool z] 59)).alloc (.cells (stP 0 1) 39) := by
  go_enter Try.func34, Try.ntmps34
  go_wp2
  go_returns
  exact ⟨rfl, rfl⟩
theorem refStart_w (z : Bool) (w : World) : Calls Try.prog 35 #[.agg #[.bool z]] w fun e w' => e = .returned (.agg (stR 0 1)) ∧ w' = (w.alloc (.cells #[.bool z] 59)).alloc (.cells (stR 0 1) 39) := by
  go_enter Try.func35, Try.ntmps35
  go_wp2
  go_returns
  exact ⟨rfl, rfl⟩

set_option maxRecDepth 100000 in
set_option maxHeartbeats 16000000 in
theorem law_decodes (z : Bool) (l : List Ev) (V : Value) (w : World) (hT : EvArg w V l) (hl : l.length ≤ 140737488351232) (hd : ∀ j (h : j < l.length), l[j].d.length ≤ 140737488351232) :
    Calls Try.prog 9 #[.agg #[.bool z], V] w fun e w' => e = .returned (.bool true) ∧ Below w.heap.size w w' := by
  have CT := Lib.hid (fun W (hb : Below w.heap.size w W) => small16_any l V W (hT.keep hb) hl hd)
  have CS1 := Lib.hid (fun W => start_w z W)
  have CS2 := Lib.hid (fun W => refStart_w z W)
  have CA := Lib.hid awake_any
  obtain ⟨A, c, rfl, hA⟩ := hT
  have HA := Lib.hid hA
  obtain ⟨W, b2, eW, e2, l2, r2, B0⟩ := one_box w z
  have z0 := r2.get1
  have HB0 := Lib.hid B0; have H2 := Lib.hid r2
  have hTY := smL_iff l
  clear hA B0 r2
  cases ht : smL l
  · rw [ht] at CT
    clear ht hTY
    go_enter Try.func9, Try.ntmps9
    go_wp2_with (first
      | (rw [← eW, ← e2]; clear eW e2; go_at_call 32; go_must (refine (CT.out _ HB0.out).mono ?_; rintro e1 w1 ⟨rfl, rfl⟩))
      | (go_at_call 33; go_must (refine (CA.out _).mono ?_; rintro e9 w9 ⟨rfl, b9⟩; have B9 := Lib.hid (HB0.out.trans (b9.mono HB0.out.size)))))
    go_returns
    exact ⟨rfl, B9.out⟩
  obtain ⟨hl40, hd20⟩ := hTY.1 ht
  rw [ht] at CT
  clear ht hTY hl hd
  have hl' : (l.length : Int) ≤ 40 := by omega
  go_enter Try.func9, Try.ntmps9
  go_upto_region 3 with (first
      | (rw [← eW, ← e2]; clear eW e2; go_at_call 32; go_must (refine (CT.out _ HB0.out).mono ?_; rintro e1 w1 ⟨rfl, rfl⟩)))
  go_cut [5, 6] from 16 (fun p q wc => ∃ bS bR, p = .pointer (some ⟨bS, 0, none⟩) ∧ q = .pointer (some ⟨bR, 0, none⟩) ∧ Hid (RowAt wc bS 39 (stP 0 1)) ∧ Hid (RowAt wc bR 39 (stR 0 1)) ∧ bS ≠ bR ∧ w1.heap.size ≤ bS ∧ w1.heap.size ≤ bR ∧ Hid (Below w1.heap.size w1 wc))
  case first =>
    go_region_held3 (fun w' => w'.cell? ⟨b2, 0, none⟩ = some (.bool z) ∧ b2 < w'.heap.size) (first | with_reducible assumption | (repeat' (first | with_reducible assumption | with_reducible exact ⟨z0, l2⟩ | with_reducible refine held_dr ?_ | with_reducible refine held_al ?_ _)) | fail)
      (first
        | (go_at_call 34; refine (CS1.out _).mono ?_; rintro e5 w5 ⟨rfl, rfl⟩)
        | (go_at_call 35; refine (CS2.out _).mono ?_; rintro e6 w6 ⟨rfl, rfl⟩)
        | fail)
    all_goals
      go_wp2
      go_meet
      case rel => exact ⟨_, _, rfl, rfl, Lib.hid (by repeat' (first | with_reducible refine row_drew ?_ | (refine RowAt.at ?_; (simp only [World.size_alloc, World.size_drew]; done)) | (refine RowAt.at ?_; rfl) | with_reducible refine RowAt.alloc ?_ _)), Lib.hid (by repeat' (first | with_reducible refine row_drew ?_ | (refine RowAt.at ?_; (simp only [World.size_alloc, World.size_drew]; done)) | (refine RowAt.at ?_; rfl) | with_reducible refine RowAt.alloc ?_ _)), by omega, by omega, by omega, Lib.hid (by (repeat' (first | with_reducible exact Below.refl _ _ | with_reducible exact Nat.le_refl _ | with_reducible assumption | with_reducible refine below_drewN ?_ _ | with_reducible refine Below.drew ?_ | with_reducible refine Below.trans ?_ (Below.mono (by assumption) ?_) | with_reducible refine Below.alloc ?_ ?_ _ | with_reducible refine Below.setCell ?_ ?_ _ | with_reducible refine le_setCell ?_ _ _ | with_reducible refine le_alloc ?_ _ | with_reducible refine le_drewN ?_ _ | with_reducible refine le_drew ?_ | with_reducible refine Nat.le_trans ?_ (Below.size (by assumption)) | (simp only [World.size_alloc, World.size_setCell]; omega) | omega)))⟩
  case rest =>
    obtain ⟨w0, hw0⟩ : ∃ x, x = wc := ⟨_, rfl⟩
    subst hw0
    obtain ⟨bS, bR, rfl, rfl, HS0, HR0, hne, hS0, hR0, HB1⟩ := hcut
    have HBc := Lib.hid (HB0.out.trans (HB1.out.mono HB0.out.size)); have HZ0 := Lib.hid (H2.out.keep HB1.out)
    have hsc := HB1.out.size
    have lS := HS0.out.lt; have lR := HR0.out.lt
    have hw1 := HB0.out.size
    have CD1 := Lib.hid (fun W (hb : Below w.heap.size w W) => decode_any z l (.slice A l.length c) W (evarg_keep HA.out hb) (by omega) (fun j h => by have := hd20 j h; omega))
    have CD2 := Lib.hid (fun W (hb : Below w.heap.size w W) => refDecode_any z l (.slice A l.length c) W (evarg_keep HA.out hb) (by omega) (fun j h => by have := hd20 j h; omega))
    have CE1 := Lib.hid (fun q p W => end_any z q p W)
    have CE2 := Lib.hid (fun q p W => refEnd_any z q p W)
    have CSm := Lib.hid (fun (x : List Ev) V V' W (h1 : x.length ≤ 1099511627776) h2 h3 => same_any x V V' W h2 h3 h1)
    have hnl := nzR_len z l
    clear z0 CT CS1 CS2 H2 HB1
    go_wp2
    go_loopw [7] (fun i wr => ∃ (j : Nat) (q p : Int) (o : List Ev), j ≤ l.length ∧ i = .int .i64 j ∧ Hid (nzR z (l.take j) = ⟨q, p, o⟩) ∧ Hid (RowAt wr b2 59 #[.bool z]) ∧ Hid (RowAt wr bS 39 (stP q p)) ∧ Hid (RowAt wr bR 39 (stR q p)) ∧ Hid (Below w.heap.size w wr) ∧ w0.heap.size ≤ wr.heap.size) (fun i _ => l.length - (intOf i).toNat)
    case atStart => exact ⟨0, 0, 1, [], Nat.zero_le _, rfl, Lib.hid rfl, HZ0, HS0, HR0, HBc, Nat.le_refl _⟩
    case round =>
      obtain ⟨j, q, p, o, hj, rfl, HQ, HZ, HS, HR, HB, hW⟩ := hrel
      have hb := HB.out
      have z0 := HZ.out.get1
      obtain ⟨⟨g0, g1, g2, g3, g4, g5, g6, g7⟩, g8⟩ := row8 HS.out
      have m2 : b2 < wr.heap.size := by omega
      have m5 : bS < wr.heap.size := by omega
      have m6 : bR < wr.heap.size := by omega
      clear g8
      by_cases hjl : j < l.length
      · obtain ⟨g, o', rfl, hg, hc⟩ := HA.out (by omega)
        obtain ⟨a0, a1, a2, a3, a4, a5, a6⟩ := arg_seven hc j hjl
        have f0 := (hb.cell (p := ⟨g, o' + j * 7, none⟩) hg).trans a0
        have f1 := (hb.cell (p := ⟨g, o' + j * 7 + 1, none⟩) hg).trans a1
        have f2 := (hb.cell (p := ⟨g, o' + j * 7 + 2, none⟩) hg).trans a2
        have f3 := (hb.cell (p := ⟨g, o' + j * 7 + 3, none⟩) hg).trans a3
        have f4 := (hb.cell (p := ⟨g, o' + j * 7 + 4, none⟩) hg).trans a4
        have f5 := (hb.cell (p := ⟨g, o' + j * 7 + 5, none⟩) hg).trans a5
        have f6 := (hb.cell (p := ⟨g, o' + j * 7 + 6, none⟩) hg).trans a6
        have mg : g < wr.heap.size := Nat.lt_of_lt_of_le hg hb.size
        have HN : Hid (nzR z (l.take (j + 1)) = nzS z ⟨q, p, o⟩ l[j]) := Lib.hid (by rw [nzR_snoc z hjl, HQ.out])
        have HP := Lib.hid (HN.out.trans (nzS_parts z q p o l[j]))
        have hdj := hd20 j hjl
        have CSj : Hid (∀ W, Calls Try.prog 36 #[.agg #[.bool z], .agg (stP q p), .agg (evA l[j].k l[j].f l[j].t l[j].v l[j].a ⟨l[j].d.toArray⟩ l[j].u)] W fun r w' => ∃ V, r = .returned (.tuple #[.agg (stP (nzS z ⟨q, p, []⟩ l[j]).q (nzS z ⟨q, p, []⟩ l[j]).p), V]) ∧ EvRow w' W.heap.size V (nzS z ⟨q, p, []⟩ l[j]).o ∧ Below W.heap.size W w') := Lib.hid fun W => step_any z q p l[j] W (by omega)
        have CRj : Hid (∀ W, Calls Try.prog 37 #[.agg #[.bool z], .agg (stR q p), .agg (evA l[j].k l[j].f l[j].t l[j].v l[j].a ⟨l[j].d.toArray⟩ l[j].u)] W fun r w' => ∃ V, r = .returned (.tuple #[.agg (stR (nzS z ⟨q, p, []⟩ l[j]).q (nzS z ⟨q, p, []⟩ l[j]).p), V]) ∧ EvRow w' W.heap.size V (nzS z ⟨q, p, []⟩ l[j]).o ∧ Below W.heap.size W w') := Lib.hid fun W => refStep_any z q p l[j] W (by omega)
        have hone := nzS_one z q p l[j]
        clear a0 a1 a2 a3 a4 a5 a6 hc HN HQ hdj
        generalize (nzS z ⟨q, p, []⟩ l[j]).q = q' at *
        generalize (nzS z ⟨q, p, []⟩ l[j]).p = p' at *
        generalize (nzS z ⟨q, p, []⟩ l[j]).o = x' at *
        generalize (⟨l[j].d.toArray⟩ : ByteArray) = x5 at *
        generalize l[j].k = x0 at *
        generalize l[j].f = x1 at *
        generalize l[j].t = x2 at *
        generalize l[j].v = x3 at *
        generalize l[j].a = x4 at *
        generalize l[j].u = x6 at *
        have hs := Lib.hid (And.intro z0 (And.intro g0 (And.intro g1 (And.intro g2 (And.intro g3 (And.intro g4 (And.intro g5 (And.intro g6 (And.intro g7 (And.intro f0 (And.intro f1 (And.intro f2 (And.intro f3 (And.intro f4 (And.intro f5 (And.intro f6 (And.intro (Nat.le_refl wr.heap.size) (Below.refl wr.heap.size wr))))))))))))))))))
        clear z0 g0 g1 g2 g3 g4 g5 g6 g7 f0 f1 f2 f3 f4 f5 f6
        go_upto_region 7 with (fail)
        go_cut [8, 9] from 20 to 51 (fun a v wy => ∃ b8, a = .pointer (some ⟨b8, 0, none⟩) ∧ Hid (NxQ wr wy b8 (stP q' p') v x'))
        case first =>
          go_region_held3 (fun w' => w'.cell? ⟨b2, 0, none⟩ = some (.bool z) ∧ w'.cell? ⟨bS, 0, none⟩ = some (.int .i64 0) ∧ w'.cell? ⟨bS, 1, none⟩ = some (.int .i64 0) ∧ w'.cell? ⟨bS, 2, none⟩ = some (.int .i64 q) ∧ w'.cell? ⟨bS, 3, none⟩ = some (.int .i64 0) ∧ w'.cell? ⟨bS, 4, none⟩ = some (.int .i64 0) ∧ w'.cell? ⟨bS, 5, none⟩ = some (.int .i64 0) ∧ w'.cell? ⟨bS, 6, none⟩ = some (.int .i64 p) ∧ w'.cell? ⟨bS, 7, none⟩ = some (.string ⟨#[]⟩) ∧ w'.cell? ⟨g, o' + j * 7, none⟩ = some (.int .i64 x0) ∧ w'.cell? ⟨g, o' + j * 7 + 1, none⟩ = some (.int .i64 x1) ∧ w'.cell? ⟨g, o' + j * 7 + 2, none⟩ = some (.int .i64 x2) ∧ w'.cell? ⟨g, o' + j * 7 + 3, none⟩ = some (.int .i64 x3) ∧ w'.cell? ⟨g, o' + j * 7 + 4, none⟩ = some (.int .i64 x4) ∧ w'.cell? ⟨g, o' + j * 7 + 5, none⟩ = some (.string x5) ∧ w'.cell? ⟨g, o' + j * 7 + 6, none⟩ = some (.int .i64 x6) ∧ wr.heap.size ≤ w'.heap.size ∧ Below wr.heap.size wr w') (first | with_reducible assumption | (with_reducible refine h16vS ?_ (by with_reducible assumption) m2 m5 mg; with_reducible refine h16vS ?_ (by with_reducible assumption) m2 m5 mg; with_reducible refine h16vS ?_ (by with_reducible assumption) m2 m5 mg; with_reducible refine h16vS ?_ (by with_reducible assumption) m2 m5 mg; with_reducible refine h16vS ?_ (by with_reducible assumption) m2 m5 mg; with_reducible refine h16vS ?_ (by with_reducible assumption) m2 m5 mg; with_reducible refine h16vS ?_ (by with_reducible assumption) m2 m5 mg; with_reducible refine h16vS ?_ (by with_reducible assumption) m2 m5 mg; with_reducible assumption) | with_reducible exact h16v hs.out (Below.refl _ _).drew m2 m5 mg | with_reducible exact h16v (by with_reducible assumption) ((ba _ _).mono (h16vB (by with_reducible assumption)).1) m2 m5 mg | fail)
          (first
            | (go_at_call 36; refine (CSj.out _).mono ?_; rintro e9 w9 ⟨V9, rfl, v9, b9⟩; have h9 := h16v (by with_reducible assumption) (b9.mono (h16vB (by with_reducible assumption)).1) m2 m5 mg; have u9 := Nat.le_refl wr.heap.size; (first | (have r9 := Lib.hid ((row_drew (RowAt.new wr 39 (stP 0 0))).keep b9); obtain ⟨⟨q0, q1, q2, q3, q4, q5, q6, q7⟩, q8⟩ := row8 r9.out) | skip)))
          all_goals
            clear CSj
            have B9' := (h16vB h9).2
            first
              | (obtain ⟨W8, b8, eW8, eb8, HN8⟩ := wayq_two (.int .i64 0) (.int .i64 0) (.int .i64 q') (.int .i64 0) (.int .i64 0) (.int .i64 0) (.int .i64 p') (.string ⟨#[]⟩) (by rw [World.size_drew, World.size_alloc]; omega) B9' v9 r9.out; rw [← eW8, ← eb8])
              | (obtain ⟨W8, b8, eW8, eb8, HN8⟩ := wayq_one (stP q' p') (Nat.le_refl _) B9' v9; rw [← eW8, ← eb8])
            clear eW8 eb8 B9'
            go_wp2
            go_meet
            case rel => exact ⟨_, rfl, Lib.hid HN8⟩

        case rest =>
          obtain ⟨wy, hwy⟩ : ∃ x, x = wc := ⟨_, rfl⟩
          subst hwy
          obtain ⟨b8, rfl, HN8⟩ := hcut
          obtain ⟨n8, k8, p8, t8, v8⟩ := HN8.out
          obtain ⟨_, _, _, _, _, _, _, _, _, d0, d1, d2, d3, d4, d5, d6, _, _⟩ := h16v hs.out k8 m2 m5 mg
          obtain ⟨⟨r0, r1, r2, r3, r4, r5, r6, r7⟩, r8⟩ := row8 (HR.out.below k8 m6)
          have z0 := (HZ.out.below k8 m2).get1
          have hs2 := Lib.hid (And.intro z0 (And.intro r0 (And.intro r1 (And.intro r2 (And.intro r3 (And.intro r4 (And.intro r5 (And.intro r6 (And.intro r7 (And.intro d0 (And.intro d1 (And.intro d2 (And.intro d3 (And.intro d4 (And.intro d5 (And.intro d6 (And.intro (Nat.le_refl wy.heap.size) (Below.refl wy.heap.size wy))))))))))))))))))
          have S8 := Lib.hid (HS.out.below k8 m5); have R8 := Lib.hid (HR.out.below k8 m6); have Z8 := Lib.hid (HZ.out.below k8 m2); have B8 := Lib.hid (hb.trans (k8.mono hb.size)); have N8 := Lib.hid n8; have V8 := Lib.hid v8; have z8 := k8.size
          clear z0 r0 r1 r2 r3 r4 r5 r6 r7 r8 d0 d1 d2 d3 d4 d5 d6 n8 k8 v8 HN8 hs
          have m2' := m2; have m6' := m6; have mg' := mg
          replace m2 : b2 < wy.heap.size := by omega
          replace m6 : bR < wy.heap.size := by omega
          replace mg : g < wy.heap.size := by omega
          obtain ⟨VA, VN, VC, rfl, hVN⟩ := V8.out.form
          clear hVN
          go_upto_region 8 with (fail)
          go_cut [10, 11] from 20 to 51 (fun a v wz => ∃ b10, a = .pointer (some ⟨b10, 0, none⟩) ∧ Hid (NxQ wy wz b10 (stR q' p') v x'))
          case first =>
            go_region_held3 (fun w' => w'.cell? ⟨b2, 0, none⟩ = some (.bool z) ∧ w'.cell? ⟨bR, 0, none⟩ = some (.int .i64 0) ∧ w'.cell? ⟨bR, 1, none⟩ = some (.int .i64 q) ∧ w'.cell? ⟨bR, 2, none⟩ = some (.int .i64 0) ∧ w'.cell? ⟨bR, 3, none⟩ = some (.int .i64 0) ∧ w'.cell? ⟨bR, 4, none⟩ = some (.int .i64 0) ∧ w'.cell? ⟨bR, 5, none⟩ = some (.int .i64 0) ∧ w'.cell? ⟨bR, 6, none⟩ = some (.int .i64 p) ∧ w'.cell? ⟨bR, 7, none⟩ = some (.string ⟨#[]⟩) ∧ w'.cell? ⟨g, o' + j * 7, none⟩ = some (.int .i64 x0) ∧ w'.cell? ⟨g, o' + j * 7 + 1, none⟩ = some (.int .i64 x1) ∧ w'.cell? ⟨g, o' + j * 7 + 2, none⟩ = some (.int .i64 x2) ∧ w'.cell? ⟨g, o' + j * 7 + 3, none⟩ = some (.int .i64 x3) ∧ w'.cell? ⟨g, o' + j * 7 + 4, none⟩ = some (.int .i64 x4) ∧ w'.cell? ⟨g, o' + j * 7 + 5, none⟩ = some (.string x5) ∧ w'.cell? ⟨g, o' + j * 7 + 6, none⟩ = some (.int .i64 x6) ∧ wy.heap.size ≤ w'.heap.size ∧ Below wy.heap.size wy w') (first | with_reducible assumption | (with_reducible refine h16vS ?_ (by with_reducible assumption) m2 m6 mg; with_reducible refine h16vS ?_ (by with_reducible assumption) m2 m6 mg; with_reducible refine h16vS ?_ (by with_reducible assumption) m2 m6 mg; with_reducible refine h16vS ?_ (by with_reducible assumption) m2 m6 mg; with_reducible refine h16vS ?_ (by with_reducible assumption) m2 m6 mg; with_reducible refine h16vS ?_ (by with_reducible assumption) m2 m6 mg; with_reducible refine h16vS ?_ (by with_reducible assumption) m2 m6 mg; with_reducible refine h16vS ?_ (by with_reducible assumption) m2 m6 mg; with_reducible assumption) | with_reducible exact h16v hs2.out (Below.refl _ _).drew m2 m6 mg | with_reducible exact h16v (by with_reducible assumption) ((ba _ _).mono (h16vB (by with_reducible assumption)).1) m2 m6 mg | fail)
            (first
              | (go_at_call 37; refine (CRj.out _).mono ?_; rintro e9 w9 ⟨V9, rfl, v9, b9⟩; have h9 := h16v (by with_reducible assumption) (b9.mono (h16vB (by with_reducible assumption)).1) m2 m6 mg; have u9 := Nat.le_refl wy.heap.size; (first | (have r9 := Lib.hid ((row_drew (RowAt.new wy 39 (stP 0 0))).keep b9); obtain ⟨⟨q0, q1, q2, q3, q4, q5, q6, q7⟩, q8⟩ := row8 r9.out) | skip)))
            all_goals
              clear CRj
              have B9' := (h16vB h9).2
              first
                | (obtain ⟨W10, b10, eW10, eb10, HN10⟩ := wayq_two (.int .i64 0) (.int .i64 q') (.int .i64 0) (.int .i64 0) (.int .i64 0) (.int .i64 0) (.int .i64 p') (.string ⟨#[]⟩) (by rw [World.size_drew, World.size_alloc]; omega) B9' v9 r9.out; rw [← eW10, ← eb10])
                | (obtain ⟨W10, b10, eW10, eb10, HN10⟩ := wayq_one (stR q' p') (Nat.le_refl _) B9' v9; rw [← eW10, ← eb10])
              clear eW10 eb10 B9'
              go_wp2
              go_meet
              case rel => exact ⟨_, rfl, Lib.hid HN10⟩

          case rest =>
            obtain ⟨wz, hwz⟩ : ∃ x, x = wc := ⟨_, rfl⟩
            subst hwz
            obtain ⟨b10, rfl, HN10⟩ := hcut
            obtain ⟨n10, k10, p10, t10, v10⟩ := HN10.out
            have V8' := Lib.hid ((V8.out.keep k10).arg evC_size)
            have V10 := Lib.hid (v10.arg evC_size)
            obtain ⟨UA, UN, UC, rfl, hUN⟩ := v10.form
            have S10 := Lib.hid (S8.out.keep k10); have R10 := Lib.hid (R8.out.keep k10); have Z10 := Lib.hid (Z8.out.keep k10); have B10 := Lib.hid (B8.out.trans (k10.mono B8.out.size)); have N8' := Lib.hid (N8.out.keep k10); have N10 := Lib.hid n10; have z10 := k10.size
            clear hUN n10 k10 v10 HN10 S8 R8 Z8 N8 V8 hs2
            go_upto_region 11 with (first
              | (go_at_call 38; go_must (refine (CSm.out x' _ _ _ (by omega) V8'.out V10.out).mono ?_; rintro e1 w3 ⟨rfl, b3⟩; obtain ⟨⟨g0, g1, g2, g3, g4, g5, g6, g7⟩, g8⟩ := row8 (N8'.out.keep b3); obtain ⟨⟨h0, h1, h2, h3, h4, h5, h6, h7⟩, h8⟩ := row8 (N10.out.keep b3); obtain ⟨⟨i0, i1, i2, i3, i4, i5, i6, i7⟩, i8⟩ := row8 (S10.out.keep b3); obtain ⟨⟨k0, k1, k2, k3, k4, k5, k6, k7⟩, k8⟩ := row8 (R10.out.keep b3); have S11 := Lib.hid (S10.out.keep b3); have R11 := Lib.hid (R10.out.keep b3); have Z11 := Lib.hid (Z10.out.keep b3); have B11 := Lib.hid (B10.out.trans (b3.mono B10.out.size)); have z11 := b3.size; clear b3 S10 R10 Z10 N8' N10 V8' V10)))
            go_region
            obtain ⟨w4, e4, S4, R4, K4, B4⟩ := two_set8 _ _ _ _ _ _ _ _ _ _ _ _ _ _ _ _ (.int .i64 0) (.int .i64 0) (.int .i64 q') (.int .i64 0) (.int .i64 0) (.int .i64 0) (.int .i64 p') (.string ⟨#[]⟩) (.int .i64 0) (.int .i64 q') (.int .i64 0) (.int .i64 0) (.int .i64 0) (.int .i64 0) (.int .i64 p') (.string ⟨#[]⟩) S11.out R11.out hne B11.out (by omega) (by omega)
            rw [← e4]
            have Z4 := Lib.hid (K4.row Z11.out (by simp only [List.mem_cons, List.not_mem_nil, or_false]; omega))
            have z4 := K4.size
            have S4' := Lib.hid S4; have R4' := Lib.hid R4; have B4' := Lib.hid B4
            clear e4 S4 R4 K4 B4 g0 g1 g2 g3 g4 g5 g6 g7 g8 h0 h1 h2 h3 h4 h5 h6 h7 h8 i0 i1 i2 i3 i4 i5 i6 i7 i8 k0 k1 k2 k3 k4 k5 k6 k7 k8
            go_wp2
            go_roundw
            case rel => exact ⟨j + 1, q', p', o ++ x', by omega, val_int (by omega), HP, Z4, S4', R4', Lib.hid B4'.out.drew, by have h1 : w4.drew.heap.size = w4.heap.size := rfl; omega⟩
            case measure => simp [intOf]; omega
      · obtain ⟨⟨r0, r1, r2, r3, r4, r5, r6, r7⟩, r8⟩ := row8 HR.out
        have hs : Hid (wr.cell? ⟨b2, 0, none⟩ = some (.bool z) ∧ wr.cell? ⟨bS, 0, none⟩ = some (.int .i64 0) ∧ wr.cell? ⟨bS, 1, none⟩ = some (.int .i64 0) ∧ wr.cell? ⟨bS, 2, none⟩ = some (.int .i64 q) ∧ wr.cell? ⟨bS, 3, none⟩ = some (.int .i64 0) ∧ wr.cell? ⟨bS, 4, none⟩ = some (.int .i64 0) ∧ wr.cell? ⟨bS, 5, none⟩ = some (.int .i64 0) ∧ wr.cell? ⟨bS, 6, none⟩ = some (.int .i64 p) ∧ wr.cell? ⟨bS, 7, none⟩ = some (.string ⟨#[]⟩) ∧ wr.cell? ⟨bR, 0, none⟩ = some (.int .i64 0) ∧ wr.cell? ⟨bR, 1, none⟩ = some (.int .i64 q) ∧ wr.cell? ⟨bR, 2, none⟩ = some (.int .i64 0) ∧ wr.cell? ⟨bR, 3, none⟩ = some (.int .i64 0) ∧ wr.cell? ⟨bR, 4, none⟩ = some (.int .i64 0) ∧ wr.cell? ⟨bR, 5, none⟩ = some (.int .i64 0) ∧ wr.cell? ⟨bR, 6, none⟩ = some (.int .i64 p) ∧ wr.cell? ⟨bR, 7, none⟩ = some (.string ⟨#[]⟩) ∧ wr.heap.size ≤ wr.heap.size ∧ Below wr.heap.size wr wr) := Lib.hid ⟨z0, g0, g1, g2, g3, g4, g5, g6, g7, r0, r1, r2, r3, r4, r5, r6, r7, Nat.le_refl _, Below.refl _ _⟩
        clear z0 g0 g1 g2 g3 g4 g5 g6 g7 r0 r1 r2 r3 r4 r5 r6 r7 r8
        have NA := EvArg.none
        go_wp2
        go_region_held3 (fun w' => w'.cell? ⟨b2, 0, none⟩ = some (.bool z) ∧ w'.cell? ⟨bS, 0, none⟩ = some (.int .i64 0) ∧ w'.cell? ⟨bS, 1, none⟩ = some (.int .i64 0) ∧ w'.cell? ⟨bS, 2, none⟩ = some (.int .i64 q) ∧ w'.cell? ⟨bS, 3, none⟩ = some (.int .i64 0) ∧ w'.cell? ⟨bS, 4, none⟩ = some (.int .i64 0) ∧ w'.cell? ⟨bS, 5, none⟩ = some (.int .i64 0) ∧ w'.cell? ⟨bS, 6, none⟩ = some (.int .i64 p) ∧ w'.cell? ⟨bS, 7, none⟩ = some (.string ⟨#[]⟩) ∧ w'.cell? ⟨bR, 0, none⟩ = some (.int .i64 0) ∧ w'.cell? ⟨bR, 1, none⟩ = some (.int .i64 q) ∧ w'.cell? ⟨bR, 2, none⟩ = some (.int .i64 0) ∧ w'.cell? ⟨bR, 3, none⟩ = some (.int .i64 0) ∧ w'.cell? ⟨bR, 4, none⟩ = some (.int .i64 0) ∧ w'.cell? ⟨bR, 5, none⟩ = some (.int .i64 0) ∧ w'.cell? ⟨bR, 6, none⟩ = some (.int .i64 p) ∧ w'.cell? ⟨bR, 7, none⟩ = some (.string ⟨#[]⟩) ∧ wr.heap.size ≤ w'.heap.size ∧ Below wr.heap.size wr w') (first | with_reducible assumption | with_reducible exact h17v hs.out (Below.refl _ _).drew m2 m5 m6 | fail)
          (first
            | (go_at_call 39; refine (CE1.out _ _ _).mono ?_; rintro e9 w9 ⟨rfl, b9⟩; have h9 := h17v (by with_reducible assumption) (b9.mono (h17vB (by with_reducible assumption)).1) m2 m5 m6)
            | (go_at_call 40; refine (CE2.out _ _ _).mono ?_; rintro e9 w9 ⟨rfl, b9⟩; have h9 := h17v (by with_reducible assumption) (b9.mono (h17vB (by with_reducible assumption)).1) m2 m5 m6)
            | (go_at_call_of 38 (Value.slice none 0 0); refine (CSm.out [] _ _ _ (by simp) (NA _) (NA _)).mono ?_; rintro e9 w9 ⟨rfl, b9⟩; have h9 := h17v (by with_reducible assumption) (b9.mono (h17vB (by with_reducible assumption)).1) m2 m5 m6)
            | (go_at_call 41; refine (CD1.out _ (hb.trans ((h17vB (by with_reducible assumption)).2.mono hb.size))).mono ?_; rintro e9 w9 ⟨v9, rfl, r9, b9⟩; have h9 := h17v (by with_reducible assumption) (b9.mono (h17vB (by with_reducible assumption)).1) m2 m5 m6; have RD := Lib.hid (r9.arg evC_size); (try (have RE' := Lib.hid (RE.out.keep b9))))
            | (go_at_call 42; refine (CD2.out _ (hb.trans ((h17vB (by with_reducible assumption)).2.mono hb.size))).mono ?_; rintro e9 w9 ⟨v9, rfl, r9, b9⟩; have h9 := h17v (by with_reducible assumption) (b9.mono (h17vB (by with_reducible assumption)).1) m2 m5 m6; have RE := Lib.hid (r9.arg evC_size); (try (have RD' := Lib.hid (RD.out.keep b9))))
            | (go_at_call 38; first | (refine (CSm.out (nzR z l).o _ _ _ (by omega) RD'.out RE.out).mono ?_; rintro e9 w9 ⟨rfl, b9⟩; have h9 := h17v (by with_reducible assumption) (b9.mono (h17vB (by with_reducible assumption)).1) m2 m5 m6) | (refine (CSm.out (nzR z l).o _ _ _ (by omega) RD.out RE'.out).mono ?_; rintro e9 w9 ⟨rfl, b9⟩; have h9 := h17v (by with_reducible assumption) (b9.mono (h17vB (by with_reducible assumption)).1) m2 m5 m6))
            | (go_at_call 33; refine (CA.out _).mono ?_; rintro e9 w9 ⟨rfl, b9⟩; have h9 := h17v (by with_reducible assumption) (b9.mono (h17vB (by with_reducible assumption)).1) m2 m5 m6)
            | fail)
        all_goals
          have B9 := Lib.hid (hb.trans ((h17vB (by with_reducible assumption)).2.mono hb.size))
          go_wp2
          go_returns
          exact ⟨rfl, B9.out⟩

end Go.Proofs.Ytfbclbolkojjeaa
