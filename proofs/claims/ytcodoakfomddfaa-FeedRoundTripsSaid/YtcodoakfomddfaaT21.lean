/-
  What the rounds of Split's inner loop and the iterator owe one another.
-/
import Derived.Test.YtcodoakfomddfaaT20
namespace Go.Proofs.Ytcodoakfomddfaa
open Go Go.RowKit Go.Joins Go.Shelf
set_option linter.unusedVariables false
set_option linter.unusedSimpArgs false

/-- Whatever is no cells is as it was. -/
def Nc (W1 W : World) : Prop := ∀ (b : Nat) (o : Obj), W1.heap[b]? = some o → o.isCells = false → W.heap[b]? = some o
/-- Between two rounds: the box holds the row of what has come. -/
def spJ (w : World) (n0 B6 : Nat) (acc : List Ev) (W1 : World) (pre : List Ev) (W : World) : Prop :=
  ∃ v, Boxed W B6 26 v ∧ EvRow W n0 v (acc ++ pre) ∧ Nc W1 W ∧ Below w.heap.size w W
/-- A block that the rounds leave alone, and on which nothing of theirs rests. -/
def spS (w : World) (B6 : Nat) (W : World) (b : Nat) : Prop :=
  w.heap.size ≤ b ∧ b ≠ B6 ∧ (∃ cs T, RowAt W b T cs) ∧ ∀ v, Boxed W B6 26 v → v.ownBlock ≠ some b

theorem boxed_one {W : World} {B : Nat} {T : TypeId} {u v : Value} (h : Boxed W B T u) (k : Boxed W B T v) : u = v := by
  have := (show W.heap[B]? = _ from h).symm.trans (show W.heap[B]? = _ from k)
  simpa using this
theorem rowAt_cells {W : World} {b : Nat} {T : TypeId} {cs : Array Value} (h : RowAt W b T cs) {o : Obj} (ho : W.heap[b]? = some o) : o.isCells = true := by
  rw [show W.heap[b]? = _ from h] at ho; cases ho; rfl
theorem Nc.alloc {W1 W : World} (h : Nc W1 W) (o : Obj) : Nc W1 (W.alloc o) := fun b x hb hx => by
  have := h b x hb hx
  exact (Below.heap_alloc W o b (Array.getElem?_eq_some_iff.1 this).1).trans this
theorem sp_rnd (w : World) (n0 B6 : Nat) (acc : List Ev) (W1 : World) (h6 : w.heap.size ≤ B6) (hn0 : w.heap.size ≤ n0) : Rnd (spJ w n0 B6 acc W1) (spS w B6) where
  lt := fun ⟨_, _, ⟨_, _, h⟩, _⟩ => h.lt
  drew := fun q ⟨v, h1, h2, h3, h4⟩ => ⟨v, h1, h2, h3, h4.trans (Go.below_drewN (Below.refl _ _) q)⟩
  sdrew := fun q h => h
  alloc := fun cs T ⟨v, h1, h2, h3, h4⟩ => ⟨v, h1.alloc _, h2.alloc _, h3.alloc _, h4.alloc h4.size _⟩
  salloc := fun {pre W b} cs T ⟨v, h1, h2, _, _⟩ ⟨a1, a2, ⟨ds, S, a3⟩, a4⟩ => ⟨a1, a2, ⟨ds, S, a3.alloc _⟩, fun u hu => by
    have e : u = v := boxed_one hu (h1.alloc _)
    subst e
    exact a4 u h1⟩
  new := fun {pre W} cs T ⟨v, h1, h2, h3, h4⟩ => ⟨h4.size, fun e => by have := h1.lt; omega, ⟨cs, T, RowAt.new W T cs⟩, fun u hu e => by
    have e2 : u = v := boxed_one hu (h1.alloc _)
    subst e2
    have := (h2.lt _ e).2
    omega⟩
  set := fun {pre W} b i u T cs ⟨v, h1, h2, h3, h4⟩ ⟨a1, a2, a3, a4⟩ hr => ⟨v, (Below.heap_setCell W ⟨b, i, none⟩ u B6 (fun e => a2 e.symm)).trans h1, h2.other ⟨b, i, none⟩ u (a4 v h1), (fun k o hk ho => by
      have h5 := h3 k o hk ho
      refine (Below.heap_setCell W ⟨b, i, none⟩ u k (fun e => ?_)).trans h5
      subst e
      have := rowAt_cells hr h5
      rw [this] at ho
      cases ho), Below.setCell (p := ⟨b, i, none⟩) h4 a1 _⟩
  sset := fun {pre W c} b i u ⟨v, h1, h2, h3, h4⟩ ⟨a1, a2, a3, a4⟩ ⟨c1, c2, ⟨cs, T, c3⟩, c4⟩ => ⟨c1, c2, by
      by_cases e : c = b
      · subst e; exact ⟨_, _, c3.set i u⟩
      · exact ⟨cs, T, c3.other ⟨b, i, none⟩ u (fun e2 => e e2.symm)⟩, fun x hx => by
      have h5 : Boxed W B6 26 x := (Below.heap_setCell W ⟨b, i, none⟩ u B6 (fun e => a2 e.symm)).symm.trans hx
      exact c4 x h5⟩

/-- One round: an event appended to the row that the box holds. -/
theorem sp_round (w : World) (n0 B6 l : Nat) (acc pre : List Ev) (x : Ev) (W1 W W2 w5 : World) (o1 o2 : Loop) (cs : Array Value) (v v' : Value)
    (h6 : w.heap.size ≤ B6) (h6n : B6 < n0) (hl : n0 ≤ l) (hl1 : W1.heap[l]? = some (.loop o1)) (h1 : Boxed W B6 26 v) (h2 : EvRow W n0 v (acc ++ pre)) (h3 : Nc W1 W) (h4 : Below w.heap.size w W)
    (hW2 : W2 = (W.alloc (.cells cs 48)).putObj l (.loop o2)) (hg : (W2.alloc (.cells cs 48)).grownBy w5 v.ownBlock) (hr : EvRow w5 n0 v' (acc ++ pre ++ [x])) (ho : v'.ownBlock = v.ownBlock ∨ v'.ownBlock = some (W2.heap.size + 1)) :
    Boxed W2 B6 26 v ∧ EvRow W2 n0 v (acc ++ pre) ∧ Boxed w5 B6 26 v ∧ (w5.setCell ⟨B6, 0, none⟩ v').heap[l]? = some (.loop o2) ∧ spJ w n0 B6 acc W1 (pre ++ [x]) ((w5.setCell ⟨B6, 0, none⟩ v').putObj l (.loop o1)) ∧
      ∀ b, spS w B6 W b → spS w B6 ((w5.setCell ⟨B6, 0, none⟩ v').putObj l (.loop o1)) b ∧ ((w5.setCell ⟨B6, 0, none⟩ v').putObj l (.loop o1)).heap[b]? = W.heap[b]? := by
  have hL := h3 l _ hl1 rfl
  have hll := (Array.getElem?_eq_some_iff.1 hL).1
  have hsz : W2.heap.size = W.heap.size + 1 := by rw [hW2, World.putObj_size, World.size_alloc]
  have hvl : ∀ b, v.ownBlock = some b → n0 ≤ b ∧ b < W.heap.size := fun b e => h2.lt b e
  have hvlr : v.ownBlock ≠ some l := fun e => by
    rcases h2.2 with ⟨rfl, _⟩ | ⟨g, cap, cur, rfl, _, hgb, _⟩
    · simp [Value.ownBlock] at e
    · have e2 : g = l := by simpa [Value.ownBlock] using e
      subst e2
      rw [hL] at hgb
      cases hgb
  -- the heap's way
  have c1 : ∀ b, b < W.heap.size → b ≠ l → W2.heap[b]? = W.heap[b]? := fun b hb hne => by
    rw [hW2]; exact (World.putObj_heap_other hne).trans (Below.heap_alloc W _ b hb)
  have c2 : ∀ b, b < W2.heap.size → some b ≠ v.ownBlock → w5.heap[b]? = W2.heap[b]? := fun b hb hne => (hg.block b (by rw [World.size_alloc]; omega) hne).trans (Below.heap_alloc W2 _ b hb)
  have hl5 : w5.heap[l]? = some (.loop o2) := (c2 l (by omega) (fun e => hvlr e.symm)).trans (by rw [hW2]; exact World.putObj_heap_same (by rw [World.size_alloc]; omega))
  have b2 : Boxed W2 B6 26 v := (c1 B6 h1.lt (by omega)).trans h1
  have hv6 : some B6 ≠ v.ownBlock := fun e => by have := (hvl B6 e.symm).1; omega
  have b5 : Boxed w5 B6 26 v := (c2 B6 (by have := h1.lt; omega) hv6).trans b2
  have r2 : EvRow W2 n0 v (acc ++ pre) := krow_to h2 (fun q e => c1 q (hvl q e).2 (fun e2 => hvlr (by rw [e, e2])))
  have hs5 : W2.heap.size + 1 ≤ w5.heap.size := by have := hg.size; rw [World.size_alloc] at this; exact this
  have hv6' : v'.ownBlock ≠ some B6 := by
    rcases ho with e | e
    · rw [e]; exact fun e2 => hv6 e2.symm
    · rw [e]; intro e2; have := Option.some.inj e2; have := h1.lt; omega
  have hvl' : v'.ownBlock ≠ some l := by
    rcases ho with e | e
    · rw [e]; exact hvlr
    · rw [e]; intro e2; have := Option.some.inj e2; omega
  have ll : (w5.setCell ⟨B6, 0, none⟩ v').heap[l]? = some (.loop o2) := (Below.heap_setCell w5 ⟨B6, 0, none⟩ v' l (show l ≠ B6 by omega)).trans hl5
  have c3 : ∀ b, b < W.heap.size → b ≠ l → b ≠ B6 → some b ≠ v.ownBlock → ((w5.setCell ⟨B6, 0, none⟩ v').putObj l (.loop o1)).heap[b]? = W.heap[b]? := fun b hb e1 e2 e3 =>
    (World.putObj_heap_other e1).trans ((Below.heap_setCell w5 ⟨B6, 0, none⟩ v' b e2).trans ((c2 b (by omega) e3).trans (c1 b hb e1)))
  have hszf : ((w5.setCell ⟨B6, 0, none⟩ v').putObj l (.loop o1)).heap.size = w5.heap.size := by rw [World.putObj_size, World.size_setCell]
  have bf : Boxed ((w5.setCell ⟨B6, 0, none⟩ v').putObj l (.loop o1)) B6 26 v' := (World.putObj_heap_other (show B6 ≠ l by omega)).trans (b5.set v')
  refine ⟨b2, r2, b5, ll, ⟨v', bf, ?_, fun b o hb hc => ?_, ?_⟩, fun b hb => ?_⟩
  · rw [← List.append_assoc]
    exact krow_to (hr.other ⟨B6, 0, none⟩ v' hv6') (fun q e => World.putObj_heap_other (fun e2 => hvl' (by rw [e, e2])))
  · by_cases e : b = l
    · subst e
      rw [hl1] at hb
      cases hb
      exact World.putObj_heap_same (by rw [World.size_setCell]; omega)
    · have hw := h3 b o hb hc
      refine (c3 b (Array.getElem?_eq_some_iff.1 hw).1 e (fun e2 => ?_) (fun e2 => ?_)).trans hw
      · subst e2
        rw [show W.heap[b]? = _ from h1] at hw
        cases hw
        cases hc
      · rcases h2.2 with ⟨rfl, _⟩ | ⟨g, cap, cur, rfl, _, hgb, _⟩
        · simp [Value.ownBlock] at e2
        · have e3 : b = g := by simpa [Value.ownBlock] using e2
          subst e3
          rw [hgb] at hw
          cases hw
          cases hc
  · have k1 : Below w.heap.size w W2 := by
      rw [hW2]
      exact (h4.alloc h4.size _).grown (grownBy_putObj' _ l _) (by rw [World.size_alloc]; have := h4.size; omega) (fun k e => by cases e; omega)
    have k5 : Below w.heap.size w w5 := (k1.alloc k1.size _).grown hg (by rw [World.size_alloc]; have := k1.size; omega) (fun k e => by have := (hvl k e).1; omega)
    exact (Below.setCell k5 h6 v').grown (grownBy_putObj' _ l _) (by rw [World.size_setCell]; exact k5.size) (fun k e => by cases e; omega)
  · obtain ⟨a1, a2, ⟨ds, S, a3⟩, a4⟩ := hb
    have e1 : b ≠ l := fun e => by
      subst e
      have := rowAt_cells a3 hL
      cases this
    have hk := c3 b a3.lt e1 a2 (fun e => a4 v h1 e.symm)
    refine ⟨⟨a1, a2, ⟨ds, S, hk.trans a3⟩, fun u hu e => ?_⟩, hk⟩
    have e2 : u = v' := boxed_one hu bf
    subst e2
    rcases ho with e3 | e3
    · exact a4 v h1 (e3.symm.trans e)
    · rw [e3] at e
      have := Option.some.inj e
      have := a3.lt
      omega

end Go.Proofs.Ytcodoakfomddfaa
