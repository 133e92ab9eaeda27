/-
  Layer 17: the specification's Step as one, its Decode.
-/
import Derived.Test.YtmbeaagpjpphhaaZ25
import Derived.Test.YtmbeaagpjpphhaaZ09
namespace Go.Proofs.Ytmbeaagpjpphhaa
open Go Go.RowKit Go.Joins
set_option linter.unusedVariables false
set_option linter.unusedSimpArgs false

theorem rmanStep_any (N D : Int) (z : Bool) (s : MN) (x : Ev) (w : World) (h : Bt N D) (hk : ckE N D = 0) (hs : RcN s) (hd : x.d.length ≤ 140737488351232) :
    Calls Try.prog 44 #[.agg (manA N D z), .agg (rnA (phI s.e) s.e s.m s.y s.p), .agg (evA x.k x.f x.t x.v x.a ⟨x.d.toArray⟩ x.u)] w fun r w' => ∃ V, r = .returned (.tuple #[.agg (rnA (phI (rnS z N D ⟨s.y, s.e, s.m, s.p, []⟩ x).e) (rnS z N D ⟨s.y, s.e, s.m, s.p, []⟩ x).e (rnS z N D ⟨s.y, s.e, s.m, s.p, []⟩ x).m (rnS z N D ⟨s.y, s.e, s.m, s.p, []⟩ x).y (rnS z N D ⟨s.y, s.e, s.m, s.p, []⟩ x).p), V]) ∧ EvRow w' w.heap.size V (rnS z N D ⟨s.y, s.e, s.m, s.p, []⟩ x).o ∧ Below w.heap.size w w' := by
  have hsz : (⟨x.d.toArray⟩ : ByteArray).size ≤ 140737488351232 := by simpa [ByteArray.size] using hd
  have hz : (⟨x.d.toArray⟩ : ByteArray).size = x.d.length := by simp [ByteArray.size]
  unfold rnS
  by_cases hA : AcL s.e s.e x.k x.f x.t x.v x.a x.d.length x.u
  · have hA' := hA
    rw [← hz] at hA'
    have hph : phI x.t = 1 := by
      obtain ⟨_, a1, _, _⟩ := acN_bd (s := ⟨s.y, s.e, s.m, s.p, []⟩) ⟨hs.y, hs.m, hs.e, hs.p⟩ hA
      have := hs.m; have a0 := (acN_bd (s := ⟨s.y, s.e, s.m, s.p, []⟩) ⟨hs.y, hs.m, hs.e, hs.p⟩ hA).1
      simp only at a0
      unfold phI; rw [if_neg (by omega)]
    rw [if_pos (show AcN ⟨s.y, s.e, s.m, s.p, []⟩ x from hA)]
    by_cases hp : sgI z x.v = s.p
    · rw [if_pos (show sgI z x.v = (⟨s.y, s.e, s.m, s.p, []⟩ : MN).p from hp)]
      simp only [hph]
      cases z
      · have hp' : s.p = 1 - x.v := by rw [← hp]; rfl
        rw [hp']
        exact (rmanStep_same_false N D s.y s.e s.m x.k x.f x.t x.v x.a _ x.u w h hk hsz hA').mono fun r w' ⟨h1, h2⟩ => ⟨.slice none 0 0, h1, KRow.nil _ _, h2⟩
      · have hp' : s.p = x.v := by rw [← hp]; rfl
        rw [hp']
        exact (rmanStep_same_true N D s.y s.e s.m x.k x.f x.t x.v x.a _ x.u w h hk hsz hA').mono fun r w' ⟨h1, h2⟩ => ⟨.slice none 0 0, h1, KRow.nil _ _, h2⟩
    · rw [if_neg (show ¬ sgI z x.v = (⟨s.y, s.e, s.m, s.p, []⟩ : MN).p from hp)]
      simp only [hph, List.nil_append]
      cases z
      · exact rmanStep_turn_false N D s.y s.e s.m s.p x.k x.f x.t x.v x.a _ x.u w h hk hsz hA' hp ⟨hs.y, hs.m, hs.e, hs.p⟩
      · exact rmanStep_turn_true N D s.y s.e s.m s.p x.k x.f x.t x.v x.a _ x.u w h hk hsz hA' hp ⟨hs.y, hs.m, hs.e, hs.p⟩
  · have hA' := hA
    rw [← hz] at hA'
    rw [if_neg (show ¬ AcN ⟨s.y, s.e, s.m, s.p, []⟩ x from hA)]
    exact (rmanStep_no N D z s.y s.e s.m s.p x.k x.f x.t x.v x.a _ x.u w h hk hsz hA').mono fun r w' ⟨h1, h2⟩ => ⟨.slice none 0 0, h1, KRow.nil _ _, h2⟩

theorem one_mbox (w : World) (N D : Int) (z : Bool) : ∃ W b2, W = w.alloc (.cells (manA N D z) 59) ∧ b2 = w.heap.size ∧ b2 < W.heap.size ∧ RowAt W b2 59 (manA N D z) ∧ Below w.heap.size w W :=
  ⟨_, _, rfl, rfl, by rw [World.size_alloc]; omega, RowAt.new w _ _, ba _ _⟩
/-- An empty slice, and behind it a new state. -/
theorem mnew_state {w w1 : World} (S : Array Value) (hb : Below w.heap.size w w1) : ∃ W b5, W = (w1.alloc (.cells #[] 44)).alloc (.cells S 39) ∧ b5 = w1.heap.size + 1 ∧ b5 < W.heap.size ∧ w1.heap.size ≠ b5 ∧ W.heap.size = w1.heap.size + 2 ∧ RowAt W b5 39 S ∧ EvRow W w1.heap.size (.slice (some ⟨w1.heap.size, 0, none⟩) 0 0) [] ∧ Below w1.heap.size w1 W ∧ Below w.heap.size w W := by
  refine ⟨_, _, rfl, rfl, by simp only [World.size_alloc]; omega, by omega, by simp only [World.size_alloc], RowAt.at (by rw [World.size_alloc]), ?_, (ba _ _).alloc (by rw [World.size_alloc]; omega) _, (hb.alloc hb.size _).alloc (by rw [World.size_alloc]; have := hb.size; omega) _⟩
  exact (KRow.lit evC_size w1 w1.heap.size (Nat.le_refl _) [] #[] rfl 0 rfl (by decide)).alloc _
/-- Behind a step's region: the next state in a box of its own, the bits in a row of the call's own. -/
def NxM (wr W : World) (b : Nat) (S : Array Value) (V : Value) (x : List Ev) : Prop := RowAt W b 39 S ∧ Below wr.heap.size wr W ∧ wr.heap.size ≤ b ∧ b < W.heap.size ∧ EvRow W wr.heap.size V x
theorem mway_one {wr w9 : World} {B : Nat} {V : Value} {x : List Ev} (S : Array Value) (hB : wr.heap.size ≤ B) (b9 : Below wr.heap.size wr w9) (v9 : EvRow w9 B V x) : ∃ W8 b8, W8 = w9.alloc (.cells S 39) ∧ b8 = w9.heap.size ∧ NxM wr W8 b8 S V x :=
  ⟨_, _, rfl, rfl, RowAt.new _ _ _, b9.alloc b9.size _, b9.size, by rw [World.size_alloc]; omega, (v9.alloc _).mono hB⟩
theorem mway_two {wr w9 : World} {B : Nat} {V : Value} {x : List Ev} (s0 s1 s2 s3 s6 : Int) (hB : wr.heap.size < B) (b9 : Below wr.heap.size wr w9) (v9 : EvRow w9 B V x) (r9 : RowAt w9 wr.heap.size 39 (rnA 0 0 0 0 0)) : ∃ W8 b8, W8 = ((((((((w9.setCell ⟨wr.heap.size, 0, none⟩ (.int .i64 s0)).setCell ⟨wr.heap.size, 1, none⟩ (.int .i64 s1)).setCell ⟨wr.heap.size, 2, none⟩ (.int .i64 s2)).setCell ⟨wr.heap.size, 3, none⟩ (.int .i64 s3)).setCell ⟨wr.heap.size, 4, none⟩ (.int .i64 0)).setCell ⟨wr.heap.size, 5, none⟩ (.int .i64 0)).setCell ⟨wr.heap.size, 6, none⟩ (.int .i64 s6)).setCell ⟨wr.heap.size, 7, none⟩ (.string ⟨#[]⟩)) ∧ b8 = wr.heap.size ∧ NxM wr W8 b8 (rnA s0 s1 s2 s3 s6) V x := by
  have hb : ∀ W, Below wr.heap.size wr W → ∀ j u, Below wr.heap.size wr (W.setCell ⟨wr.heap.size, j, none⟩ u) := fun W h j u => h.setCell (Nat.le_refl _) _
  have hk : ∀ W, Kp [wr.heap.size] w9 W → ∀ j u, Kp [wr.heap.size] w9 (W.setCell ⟨wr.heap.size, j, none⟩ u) := fun W h j u => h.setCell (.inl (by simp)) _
  refine ⟨_, _, rfl, rfl, set8 r9, hb _ (hb _ (hb _ (hb _ (hb _ (hb _ (hb _ (hb _ b9 _ _) _ _) _ _) _ _) _ _) _ _) _ _) _ _, Nat.le_refl _, by have := r9.lt; simp only [World.size_setCell]; omega, ?_⟩
  refine (KRow.kp v9 (hk _ (hk _ (hk _ (hk _ (hk _ (hk _ (hk _ (hk _ (Kp.refl _ _) _ _) _ _) _ _) _ _) _ _) _ _) _ _) _ _) fun g hg hx => ?_).mono (Nat.le_of_lt hB)
  have := v9.lt g hg
  simp only [List.mem_singleton] at hx
  omega
theorem mrow_drew {w : World} {b : Nat} {T : TypeId} {cs : Array Value} (h : RowAt w b T cs) : RowAt w.drew b T cs := h
theorem held17 {wr W W' : World} {z : Bool} {b2 b5 g O : Nat} {N D s0 s1 s2 s3 s6 x0 x1 x2 x3 x4 x6 : Int} {x5 : ByteArray} (h : (W.cell? ⟨b2, 0, none⟩ = some (.int .i64 N) ∧ W.cell? ⟨b2, 1, none⟩ = some (.int .i64 D) ∧ W.cell? ⟨b2, 2, none⟩ = some (.bool z)) ∧ (W.cell? ⟨b5, 0, none⟩ = some (.int .i64 s0) ∧ W.cell? ⟨b5, 1, none⟩ = some (.int .i64 s1) ∧ W.cell? ⟨b5, 2, none⟩ = some (.int .i64 s2) ∧ W.cell? ⟨b5, 3, none⟩ = some (.int .i64 s3) ∧ W.cell? ⟨b5, 4, none⟩ = some (.int .i64 0) ∧ W.cell? ⟨b5, 5, none⟩ = some (.int .i64 0) ∧ W.cell? ⟨b5, 6, none⟩ = some (.int .i64 s6) ∧ W.cell? ⟨b5, 7, none⟩ = some (.string ⟨#[]⟩)) ∧ (W.cell? ⟨g, O, none⟩ = some (.int .i64 x0) ∧ W.cell? ⟨g, O + 1, none⟩ = some (.int .i64 x1) ∧ W.cell? ⟨g, O + 2, none⟩ = some (.int .i64 x2) ∧ W.cell? ⟨g, O + 3, none⟩ = some (.int .i64 x3) ∧ W.cell? ⟨g, O + 4, none⟩ = some (.int .i64 x4) ∧ W.cell? ⟨g, O + 5, none⟩ = some (.string x5) ∧ W.cell? ⟨g, O + 6, none⟩ = some (.int .i64 x6)) ∧ wr.heap.size ≤ W.heap.size ∧ Below wr.heap.size wr W) (hb : Below wr.heap.size W W') (m2 : b2 < wr.heap.size) (m5 : b5 < wr.heap.size) (mg : g < wr.heap.size) : (W'.cell? ⟨b2, 0, none⟩ = some (.int .i64 N) ∧ W'.cell? ⟨b2, 1, none⟩ = some (.int .i64 D) ∧ W'.cell? ⟨b2, 2, none⟩ = some (.bool z)) ∧ (W'.cell? ⟨b5, 0, none⟩ = some (.int .i64 s0) ∧ W'.cell? ⟨b5, 1, none⟩ = some (.int .i64 s1) ∧ W'.cell? ⟨b5, 2, none⟩ = some (.int .i64 s2) ∧ W'.cell? ⟨b5, 3, none⟩ = some (.int .i64 s3) ∧ W'.cell? ⟨b5, 4, none⟩ = some (.int .i64 0) ∧ W'.cell? ⟨b5, 5, none⟩ = some (.int .i64 0) ∧ W'.cell? ⟨b5, 6, none⟩ = some (.int .i64 s6) ∧ W'.cell? ⟨b5, 7, none⟩ = some (.string ⟨#[]⟩)) ∧ (W'.cell? ⟨g, O, none⟩ = some (.int .i64 x0) ∧ W'.cell? ⟨g, O + 1, none⟩ = some (.int .i64 x1) ∧ W'.cell? ⟨g, O + 2, none⟩ = some (.int .i64 x2) ∧ W'.cell? ⟨g, O + 3, none⟩ = some (.int .i64 x3) ∧ W'.cell? ⟨g, O + 4, none⟩ = some (.int .i64 x4) ∧ W'.cell? ⟨g, O + 5, none⟩ = some (.string x5) ∧ W'.cell? ⟨g, O + 6, none⟩ = some (.int .i64 x6)) ∧ wr.heap.size ≤ W'.heap.size ∧ Below wr.heap.size wr W' := by
  obtain ⟨⟨a0, a1, a2⟩, ⟨c0, c1, c2, c3, c4, c5, c6, c7⟩, ⟨d0, d1, d2, d3, d4, d5, d6⟩, hz, B⟩ := h
  exact ⟨⟨(hb.cell m2).trans a0, (hb.cell m2).trans a1, (hb.cell m2).trans a2⟩, ⟨(hb.cell m5).trans c0, (hb.cell m5).trans c1, (hb.cell m5).trans c2, (hb.cell m5).trans c3, (hb.cell m5).trans c4, (hb.cell m5).trans c5, (hb.cell m5).trans c6, (hb.cell m5).trans c7⟩, ⟨(hb.cell mg).trans d0, (hb.cell mg).trans d1, (hb.cell mg).trans d2, (hb.cell mg).trans d3, (hb.cell mg).trans d4, (hb.cell mg).trans d5, (hb.cell mg).trans d6⟩, by have := hb.size; omega, B.trans hb⟩
theorem held17set {wr W : World} {c j : Nat} {u : Value} {z : Bool} {b2 b5 g O : Nat} {N D s0 s1 s2 s3 s6 x0 x1 x2 x3 x4 x6 : Int} {x5 : ByteArray} (h : (W.cell? ⟨b2, 0, none⟩ = some (.int .i64 N) ∧ W.cell? ⟨b2, 1, none⟩ = some (.int .i64 D) ∧ W.cell? ⟨b2, 2, none⟩ = some (.bool z)) ∧ (W.cell? ⟨b5, 0, none⟩ = some (.int .i64 s0) ∧ W.cell? ⟨b5, 1, none⟩ = some (.int .i64 s1) ∧ W.cell? ⟨b5, 2, none⟩ = some (.int .i64 s2) ∧ W.cell? ⟨b5, 3, none⟩ = some (.int .i64 s3) ∧ W.cell? ⟨b5, 4, none⟩ = some (.int .i64 0) ∧ W.cell? ⟨b5, 5, none⟩ = some (.int .i64 0) ∧ W.cell? ⟨b5, 6, none⟩ = some (.int .i64 s6) ∧ W.cell? ⟨b5, 7, none⟩ = some (.string ⟨#[]⟩)) ∧ (W.cell? ⟨g, O, none⟩ = some (.int .i64 x0) ∧ W.cell? ⟨g, O + 1, none⟩ = some (.int .i64 x1) ∧ W.cell? ⟨g, O + 2, none⟩ = some (.int .i64 x2) ∧ W.cell? ⟨g, O + 3, none⟩ = some (.int .i64 x3) ∧ W.cell? ⟨g, O + 4, none⟩ = some (.int .i64 x4) ∧ W.cell? ⟨g, O + 5, none⟩ = some (.string x5) ∧ W.cell? ⟨g, O + 6, none⟩ = some (.int .i64 x6)) ∧ wr.heap.size ≤ W.heap.size ∧ Below wr.heap.size wr W) (hc : wr.heap.size ≤ c) (m2 : b2 < wr.heap.size) (m5 : b5 < wr.heap.size) (mg : g < wr.heap.size) : ((W.setCell ⟨c, j, none⟩ u).cell? ⟨b2, 0, none⟩ = some (.int .i64 N) ∧ (W.setCell ⟨c, j, none⟩ u).cell? ⟨b2, 1, none⟩ = some (.int .i64 D) ∧ (W.setCell ⟨c, j, none⟩ u).cell? ⟨b2, 2, none⟩ = some (.bool z)) ∧ ((W.setCell ⟨c, j, none⟩ u).cell? ⟨b5, 0, none⟩ = some (.int .i64 s0) ∧ (W.setCell ⟨c, j, none⟩ u).cell? ⟨b5, 1, none⟩ = some (.int .i64 s1) ∧ (W.setCell ⟨c, j, none⟩ u).cell? ⟨b5, 2, none⟩ = some (.int .i64 s2) ∧ (W.setCell ⟨c, j, none⟩ u).cell? ⟨b5, 3, none⟩ = some (.int .i64 s3) ∧ (W.setCell ⟨c, j, none⟩ u).cell? ⟨b5, 4, none⟩ = some (.int .i64 0) ∧ (W.setCell ⟨c, j, none⟩ u).cell? ⟨b5, 5, none⟩ = some (.int .i64 0) ∧ (W.setCell ⟨c, j, none⟩ u).cell? ⟨b5, 6, none⟩ = some (.int .i64 s6) ∧ (W.setCell ⟨c, j, none⟩ u).cell? ⟨b5, 7, none⟩ = some (.string ⟨#[]⟩)) ∧ ((W.setCell ⟨c, j, none⟩ u).cell? ⟨g, O, none⟩ = some (.int .i64 x0) ∧ (W.setCell ⟨c, j, none⟩ u).cell? ⟨g, O + 1, none⟩ = some (.int .i64 x1) ∧ (W.setCell ⟨c, j, none⟩ u).cell? ⟨g, O + 2, none⟩ = some (.int .i64 x2) ∧ (W.setCell ⟨c, j, none⟩ u).cell? ⟨g, O + 3, none⟩ = some (.int .i64 x3) ∧ (W.setCell ⟨c, j, none⟩ u).cell? ⟨g, O + 4, none⟩ = some (.int .i64 x4) ∧ (W.setCell ⟨c, j, none⟩ u).cell? ⟨g, O + 5, none⟩ = some (.string x5) ∧ (W.setCell ⟨c, j, none⟩ u).cell? ⟨g, O + 6, none⟩ = some (.int .i64 x6)) ∧ wr.heap.size ≤ (W.setCell ⟨c, j, none⟩ u).heap.size ∧ Below wr.heap.size wr (W.setCell ⟨c, j, none⟩ u) := by
  obtain ⟨⟨a0, a1, a2⟩, ⟨c0, c1, c2, c3, c4, c5, c6, c7⟩, ⟨d0, d1, d2, d3, d4, d5, d6⟩, hz, B⟩ := h
  have e : ∀ b i, b < wr.heap.size → (W.setCell ⟨c, j, none⟩ u).cell? ⟨b, i, none⟩ = W.cell? ⟨b, i, none⟩ := fun b i hb => World.cell?_of_block (Below.heap_setCell _ _ _ _ (fun e => by simp only at e; omega))
  exact ⟨⟨(e _ _ m2).trans a0, (e _ _ m2).trans a1, (e _ _ m2).trans a2⟩, ⟨(e _ _ m5).trans c0, (e _ _ m5).trans c1, (e _ _ m5).trans c2, (e _ _ m5).trans c3, (e _ _ m5).trans c4, (e _ _ m5).trans c5, (e _ _ m5).trans c6, (e _ _ m5).trans c7⟩, ⟨(e _ _ mg).trans d0, (e _ _ mg).trans d1, (e _ _ mg).trans d2, (e _ _ mg).trans d3, (e _ _ mg).trans d4, (e _ _ mg).trans d5, (e _ _ mg).trans d6⟩, by rw [World.size_setCell]; exact hz, B.setCell hc _⟩

theorem held17B {wr W : World} {z : Bool} {b2 b5 g O : Nat} {N D s0 s1 s2 s3 s6 x0 x1 x2 x3 x4 x6 : Int} {x5 : ByteArray} (h : (W.cell? ⟨b2, 0, none⟩ = some (.int .i64 N) ∧ W.cell? ⟨b2, 1, none⟩ = some (.int .i64 D) ∧ W.cell? ⟨b2, 2, none⟩ = some (.bool z)) ∧ (W.cell? ⟨b5, 0, none⟩ = some (.int .i64 s0) ∧ W.cell? ⟨b5, 1, none⟩ = some (.int .i64 s1) ∧ W.cell? ⟨b5, 2, none⟩ = some (.int .i64 s2) ∧ W.cell? ⟨b5, 3, none⟩ = some (.int .i64 s3) ∧ W.cell? ⟨b5, 4, none⟩ = some (.int .i64 0) ∧ W.cell? ⟨b5, 5, none⟩ = some (.int .i64 0) ∧ W.cell? ⟨b5, 6, none⟩ = some (.int .i64 s6) ∧ W.cell? ⟨b5, 7, none⟩ = some (.string ⟨#[]⟩)) ∧ (W.cell? ⟨g, O, none⟩ = some (.int .i64 x0) ∧ W.cell? ⟨g, O + 1, none⟩ = some (.int .i64 x1) ∧ W.cell? ⟨g, O + 2, none⟩ = some (.int .i64 x2) ∧ W.cell? ⟨g, O + 3, none⟩ = some (.int .i64 x3) ∧ W.cell? ⟨g, O + 4, none⟩ = some (.int .i64 x4) ∧ W.cell? ⟨g, O + 5, none⟩ = some (.string x5) ∧ W.cell? ⟨g, O + 6, none⟩ = some (.int .i64 x6)) ∧ wr.heap.size ≤ W.heap.size ∧ Below wr.heap.size wr W) : wr.heap.size ≤ W.heap.size := h.2.2.2.1

set_option maxRecDepth 20000 in
set_option maxHeartbeats 8000000 in
theorem refManDecode_any (N D : Int) (z : Bool) (l : List Ev) (V : Value) (w : World) (hT : EvArg w V l) (h : Bt N D) (hk : ckE N D = 0) (hl : l.length ≤ 1099511627776) (hd : ∀ j (h : j < l.length), l[j].d.length ≤ 140737488351232) :
    Calls Try.prog 46 #[.agg (manA N D z), V] w fun e w' => ∃ v, e = .returned v ∧ EvRow w' w.heap.size v (rnR z N D l).o ∧ Below w.heap.size w w' := by
  have CT := Lib.hid (fun W => refManStart_any N D z W)
  have CS := Lib.hid (fun s x W hs hd => rmanStep_any N D z s x W h hk hs hd)
  have HD := Lib.hid hd
  obtain ⟨A, c, rfl, hA⟩ := hT
  have HA := Lib.hid hA
  have hl' : (l.length : Int) ≤ 1099511627776 := by omega
  obtain ⟨X, b2, eX, e2, l2, r2, B0⟩ := one_mbox w N D z
  have hXs : X.heap.size = b2 + 1 := by rw [eX, e2, World.size_alloc]
  have HB0 := Lib.hid B0; have H2 := Lib.hid r2
  obtain ⟨z0, z1, z2⟩ := row3 r2
  have hL := rnR_len z N D l
  clear hA hd r2 B0
  go_enter Try.func46, Try.ntmps46
  go_wp2_with (first
    | (rw [← eX, ← e2]; clear eX e2; go_at_call 43; go_must (refine (CT.out _).mono ?_; rintro e1 w1 ⟨rfl, b1⟩; have rL0 := Lib.hid ((KRow.lit (T := 44) evC_size X X.heap.size (Nat.le_refl _) [] #[] rfl 0 rfl (by decide)).keep b1); have B1 := (HB0.out.alloc HB0.out.size (.cells #[] 44)).trans (b1.mono (HB0.out.alloc HB0.out.size _).size); have Z1 := (H2.out.alloc _).keep b1; have s1 := b1.size; rw [World.size_alloc] at s1)))
  have r5 : RowAt (w1.alloc (.cells (rnA 0 0 0 0 0) 39)) w1.heap.size 39 (rnA 0 0 0 0 0) := RowAt.new _ _ _
  obtain ⟨W, b5, eW, e5⟩ : ∃ W b5, W = w1.alloc (.cells (rnA 0 0 0 0 0) 39) ∧ b5 = w1.heap.size := ⟨_, _, rfl, rfl⟩
  have HL := Lib.hid (rL0.out.alloc (.cells (rnA 0 0 0 0 0) 39))
  have HZ0 := Lib.hid (Z1.alloc (.cells (rnA 0 0 0 0 0) 39))
  have HBW := Lib.hid (B1.alloc B1.size (.cells (rnA 0 0 0 0 0) 39))
  have hW : W.heap.size = b5 + 1 := by rw [eW, e5, World.size_alloc]
  rw [← eW, ← e5] at r5
  rw [← eW] at HL HZ0 HBW
  rw [← eW, ← e5]
  have H5 := Lib.hid r5
  have hb5 : b2 < b5 := by omega
  have hw1 := HB0.out.size
  obtain ⟨H, hH⟩ : ∃ H, H = b2 + 1 := ⟨_, rfl⟩
  rw [← hH] at hXs
  rw [hXs] at HL hw1 s1
  rw [← hH]
  have hHb : H < b5 := by omega
  have hHW : H ≤ W.heap.size := by omega
  have hb2 : b2 < H := by omega
  have hHw : w.heap.size ≤ H := by omega
  clear eW e5 r5 Z1 B1 b1 HB0 H2 z0 z1 z2 CT rL0 hH
  go_loopw [7, 5] (fun i r wr => ∃ (j : Nat) (y e m p : Int) (o : List Ev), j ≤ l.length ∧ i = .int .i64 j ∧ Hid (rnR z N D (l.take j) = ⟨y, e, m, p, o⟩) ∧ Hid (EvRow wr H r o) ∧ Hid (r.ownBlock ≠ some b5) ∧ Hid (RowAt wr b2 59 (manA N D z)) ∧ Hid (RowAt wr b5 39 (rnA (phI e) e m y p)) ∧ Hid (Below w.heap.size w wr) ∧ W.heap.size ≤ wr.heap.size) (fun i _ _ => l.length - (intOf i).toNat)
  case atStart => exact ⟨0, 0, 0, 0, 0, [], Nat.zero_le _, rfl, Lib.hid rfl, HL, Lib.hid (by simp [Value.ownBlock]; omega), HZ0, H5, HBW, Nat.le_refl _⟩
  case round =>
    obtain ⟨j, y, e, m, p, o, hj, rfl, HQ, HR, HO, HZ, HS, HB, hW⟩ := hrel
    have hb := HB.out
    have ho : o.length ≤ j := by have := rnR_len z N D (l.take j); rw [HQ.out, List.length_take] at this; simp only at this; omega
    obtain ⟨⟨g0, g1, g2, g3, g4, g5, g6, g7⟩, g8⟩ := row8 HS.out
    obtain ⟨z0, z1, z2⟩ := row3 HZ.out
    have m5 : b5 < wr.heap.size := by omega
    have m2 : b2 < wr.heap.size := by omega
    clear g8
    by_cases hjl : j < l.length
    · obtain ⟨g, o', rfl, hg, hc⟩ := HA.out (by omega)
      obtain ⟨a0, a1, a2, a3, a4, a5, a6⟩ := arg_seven hc j hjl
      have f0 := (hb.cell (p := ⟨g, o' + j * 7, none⟩) hg).trans a0
      have f1 := (hb.cell (p := ⟨g, o' + j * 7 + 1, none⟩) hg).trans a1
      have f2 := (hb.cell (p := ⟨g, o' + j * 7 + 2, none⟩) hg).trans a2
      have f3 := (hb.cell (p := ⟨g, o' + j * 7 + 3, none⟩) hg).trans a3
      have f4 := (hb.cell (p := ⟨g, o' + j * 7 + 4, none⟩) hg).trans a4
      have f5 := (hb.cell (p := ⟨g, o' + j * 7 + 5, none⟩) hg).trans a5
      have f6 := (hb.cell (p := ⟨g, o' + j * 7 + 6, none⟩) hg).trans a6
      have mg : g < wr.heap.size := Nat.lt_of_lt_of_le hg hb.size
      have HN : Hid (rnR z N D (l.take (j + 1)) = rnS z N D ⟨y, e, m, p, o⟩ l[j]) := Lib.hid (by rw [rnR_snoc z N D hjl, HQ.out])
      have HP := Lib.hid (HN.out.trans (rnS_parts z N D y e m p o l[j]))
      have CSj : Hid (∀ W, Calls Try.prog 44 #[.agg (manA N D z), .agg (rnA (phI e) e m y p), .agg (evA l[j].k l[j].f l[j].t l[j].v l[j].a ⟨l[j].d.toArray⟩ l[j].u)] W fun r w' => ∃ V, r = .returned (.tuple #[.agg (rnA (phI (rnS z N D ⟨y, e, m, p, []⟩ l[j]).e) (rnS z N D ⟨y, e, m, p, []⟩ l[j]).e (rnS z N D ⟨y, e, m, p, []⟩ l[j]).m (rnS z N D ⟨y, e, m, p, []⟩ l[j]).y (rnS z N D ⟨y, e, m, p, []⟩ l[j]).p), V]) ∧ EvRow w' W.heap.size V (rnS z N D ⟨y, e, m, p, []⟩ l[j]).o ∧ Below W.heap.size W w') := Lib.hid fun W => CS.out ⟨y, e, m, p, o⟩ l[j] W (by have := rcN_allR z N D (l.take j); rw [HQ.out] at this; exact this) (HD.out j hjl)
      have hone := rnS_one z N D y e m p l[j]
      clear a0 a1 a2 a3 a4 a5 a6 hc HN HQ
      generalize (rnS z N D ⟨y, e, m, p, []⟩ l[j]).y = y' at *
      generalize (rnS z N D ⟨y, e, m, p, []⟩ l[j]).e = e' at *
      generalize (rnS z N D ⟨y, e, m, p, []⟩ l[j]).m = m' at *
      generalize (rnS z N D ⟨y, e, m, p, []⟩ l[j]).p = p' at *
      generalize (rnS z N D ⟨y, e, m, p, []⟩ l[j]).o = x' at *
      generalize (⟨l[j].d.toArray⟩ : ByteArray) = x5 at *
      generalize l[j].k = x0 at *
      generalize l[j].f = x1 at *
      generalize l[j].t = x2 at *
      generalize l[j].v = x3 at *
      generalize l[j].a = x4 at *
      generalize l[j].u = x6 at *
      obtain ⟨RA, RN, RC, rfl, hRN⟩ := HR.out.form
      clear hRN
      go_wp2
      have hs : Hid ((wr.cell? ⟨b2, 0, none⟩ = some (.int .i64 N) ∧ wr.cell? ⟨b2, 1, none⟩ = some (.int .i64 D) ∧ wr.cell? ⟨b2, 2, none⟩ = some (.bool z)) ∧ (wr.cell? ⟨b5, 0, none⟩ = some (.int .i64 (phI e)) ∧ wr.cell? ⟨b5, 1, none⟩ = some (.int .i64 e) ∧ wr.cell? ⟨b5, 2, none⟩ = some (.int .i64 m) ∧ wr.cell? ⟨b5, 3, none⟩ = some (.int .i64 y) ∧ wr.cell? ⟨b5, 4, none⟩ = some (.int .i64 0) ∧ wr.cell? ⟨b5, 5, none⟩ = some (.int .i64 0) ∧ wr.cell? ⟨b5, 6, none⟩ = some (.int .i64 p) ∧ wr.cell? ⟨b5, 7, none⟩ = some (.string ⟨#[]⟩)) ∧ (wr.cell? ⟨g, o' + j * 7, none⟩ = some (.int .i64 x0) ∧ wr.cell? ⟨g, o' + j * 7 + 1, none⟩ = some (.int .i64 x1) ∧ wr.cell? ⟨g, o' + j * 7 + 2, none⟩ = some (.int .i64 x2) ∧ wr.cell? ⟨g, o' + j * 7 + 3, none⟩ = some (.int .i64 x3) ∧ wr.cell? ⟨g, o' + j * 7 + 4, none⟩ = some (.int .i64 x4) ∧ wr.cell? ⟨g, o' + j * 7 + 5, none⟩ = some (.string x5) ∧ wr.cell? ⟨g, o' + j * 7 + 6, none⟩ = some (.int .i64 x6)) ∧ wr.heap.size ≤ wr.heap.size ∧ Below wr.heap.size wr wr) := Lib.hid ⟨⟨z0, z1, z2⟩, ⟨g0, g1, g2, g3, g4, g5, g6, g7⟩, ⟨f0, f1, f2, f3, f4, f5, f6⟩, Nat.le_refl _, Below.refl _ _⟩
      clear z0 z1 z2 g0 g1 g2 g3 g4 g5 g6 g7 f0 f1 f2 f3 f4 f5 f6
      go_region_held3 (fun w' => (w'.cell? ⟨b2, 0, none⟩ = some (.int .i64 N) ∧ w'.cell? ⟨b2, 1, none⟩ = some (.int .i64 D) ∧ w'.cell? ⟨b2, 2, none⟩ = some (.bool z)) ∧ (w'.cell? ⟨b5, 0, none⟩ = some (.int .i64 (phI e)) ∧ w'.cell? ⟨b5, 1, none⟩ = some (.int .i64 e) ∧ w'.cell? ⟨b5, 2, none⟩ = some (.int .i64 m) ∧ w'.cell? ⟨b5, 3, none⟩ = some (.int .i64 y) ∧ w'.cell? ⟨b5, 4, none⟩ = some (.int .i64 0) ∧ w'.cell? ⟨b5, 5, none⟩ = some (.int .i64 0) ∧ w'.cell? ⟨b5, 6, none⟩ = some (.int .i64 p) ∧ w'.cell? ⟨b5, 7, none⟩ = some (.string ⟨#[]⟩)) ∧ (w'.cell? ⟨g, o' + j * 7, none⟩ = some (.int .i64 x0) ∧ w'.cell? ⟨g, o' + j * 7 + 1, none⟩ = some (.int .i64 x1) ∧ w'.cell? ⟨g, o' + j * 7 + 2, none⟩ = some (.int .i64 x2) ∧ w'.cell? ⟨g, o' + j * 7 + 3, none⟩ = some (.int .i64 x3) ∧ w'.cell? ⟨g, o' + j * 7 + 4, none⟩ = some (.int .i64 x4) ∧ w'.cell? ⟨g, o' + j * 7 + 5, none⟩ = some (.string x5) ∧ w'.cell? ⟨g, o' + j * 7 + 6, none⟩ = some (.int .i64 x6)) ∧ wr.heap.size ≤ w'.heap.size ∧ Below wr.heap.size wr w') (first | with_reducible assumption | (with_reducible refine held17set ?_ (by with_reducible assumption) m2 m5 mg; with_reducible refine held17set ?_ (by with_reducible assumption) m2 m5 mg; with_reducible refine held17set ?_ (by with_reducible assumption) m2 m5 mg; with_reducible refine held17set ?_ (by with_reducible assumption) m2 m5 mg; with_reducible refine held17set ?_ (by with_reducible assumption) m2 m5 mg; with_reducible refine held17set ?_ (by with_reducible assumption) m2 m5 mg; with_reducible refine held17set ?_ (by with_reducible assumption) m2 m5 mg; with_reducible refine held17set ?_ (by with_reducible assumption) m2 m5 mg; with_reducible assumption) | with_reducible exact held17 hs.out (Below.refl _ _).drew m2 m5 mg | with_reducible exact held17 (by with_reducible assumption) ((ba _ _).mono (And.left (And.right (And.right (And.right (by with_reducible assumption)))))) m2 m5 mg | fail)
        (first
          | (go_at_call 44; refine (CSj.out _).mono ?_; rintro e9 w9 ⟨V9, rfl, v9, b9⟩; have h9 := held17 (by with_reducible assumption) (b9.mono (held17B (by with_reducible assumption))) m2 m5 mg; have u9 := Nat.le_refl wr.heap.size; (first | (have r9 := Lib.hid ((mrow_drew (RowAt.new wr 39 (rnA 0 0 0 0 0))).keep b9); obtain ⟨⟨q0, q1, q2, q3, q4, q5, q6, q7⟩, q8⟩ := row8 r9.out) | skip)))
      all_goals
        clear CSj
        first
          | (obtain ⟨W8, b8, eW8, eb8, HN8⟩ := mway_two (phI e') e' m' y' p' (by rw [World.size_drew, World.size_alloc]; omega) h9.2.2.2.2 v9 r9.out; rw [← eW8, ← eb8])
          | (obtain ⟨W8, b8, eW8, eb8, HN8⟩ := mway_one (rnA (phI e') e' m' y' p') (Nat.le_refl _) h9.2.2.2.2 v9; rw [← eW8, ← eb8])
        clear eW8 eb8
      all_goals
        clear h9 v9 b9
        try clear r9 q0 q1 q2 q3 q4 q5 q6 q7 q8
        obtain ⟨n8, k8, p8, t8, v8⟩ := HN8
        have S8 := Lib.hid (HS.out.below k8 m5); have Z8 := Lib.hid (HZ.out.below k8 m2); have R8 := Lib.hid (HR.out.keep k8); have V8 := Lib.hid v8; have B8 := Lib.hid (hb.trans (k8.mono hb.size)); have z8 := k8.size; have N8 := Lib.hid n8
        have O8 : Hid ((Value.slice RA RN RC).ownBlock ≠ some b8) := Lib.hid (fun e => by have := (HR.out.lt b8 e).2; omega)
        obtain ⟨VA, VN, VC, rfl, hVN⟩ := v8.form
        clear hVN n8 k8 v8 hs
        go_wp2_with (first
          | (at_builtin; go_must (refine wpList_append_arg_at Try.underlying36 ev_info rfl (by omega) evC_size ev_one rfl _ _ rfl rfl rfl R8.out (V8.out.arg evC_size) (by omega) (by omega) (by omega) ?_; intro v4 w4 r4 b4 n4 o4; have R4 := Lib.hid r4; have B4 := Lib.hid b4; have S4 := Lib.hid (row_kept S8.out n4 HO.out); have D4 := row_kept N8.out n4 O8.out; obtain ⟨⟨d0, d1, d2, d3, d4, d5, d6, d7⟩, d8⟩ := row8 D4; have O4 : Hid (v4.ownBlock ≠ some b5) := Lib.hid (by rcases o4 with h | h <;> rw [h]; exact HO.out; intro h; simp only [Option.some.injEq] at h; omega); clear r4 b4 n4 o4))
          | (refine wpList_store_kp S4.out (rnA (phI e') e' m' y' p') (.tmp 6) (.tmp 32) 39 rfl rfl rfl rfl (by kernel_rfl) rfl rfl ?_; intro w3 r3 k3; have R3 := Lib.hid (R4.out.kp k3 (fun g hg hx => O4.out (by rw [List.mem_singleton] at hx; rw [← hx]; exact hg))); have Z3 := Lib.hid (k3.row (Z8.out.below B4.out hb2) (by simp only [List.mem_singleton]; omega)); have S3 := Lib.hid r3; have B3 := Lib.hid ((B8.out.trans (B4.out.mono hHw)).trans (k3.below (by simp only [List.mem_singleton]; intro k hk; omega) (Nat.le_trans hHw (Nat.le_trans (by omega) B4.out.size)))); have s3 := k3.size; have s4 := B4.out.size; clear r3 k3))
        go_roundw
        case rel => exact ⟨j + 1, y', e', m', p', o ++ x', by omega, val_int (by omega), HP, R3, O4, Z3, S3, B3, by omega⟩
        case measure => simp [intOf]; omega
    · have he : l.take j = l := List.take_of_length_le (by omega)
      rw [he] at HQ
      have HX : Hid ((rnR z N D l).o = o) := Lib.hid (by rw [HQ.out])
      obtain ⟨RA, RN, RC, rfl, hRN⟩ := HR.out.form
      clear hRN he HQ
      go_wp2
      go_returns
      exact ⟨_, rfl, by rw [HX.out]; exact HR.out.mono hHw, hb⟩

end Go.Proofs.Ytmbeaagpjpphhaa
