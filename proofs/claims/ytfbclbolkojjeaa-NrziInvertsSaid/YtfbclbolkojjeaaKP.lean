/-
  Memory of which old blocks some, named ones, alone may have changed.
-/
import Derived.Test.YtfbclbolkojjeaaR0
import Derived.Test.YtfbclbolkojjeaaK2
namespace Go.Proofs.Ytfbclbolkojjeaa
open Go Go.RowKit
set_option linter.unusedVariables false
set_option linter.unusedSimpArgs false

/-- Of old blocks, those of X alone may have changed. -/
structure Kp (X : List Nat) (w w' : World) : Prop where
  os : w'.os = w.os
  tape : w'.tape = w.tape
  output : w'.output = w.output
  size : w.heap.size ≤ w'.heap.size
  block : ∀ k, k < w.heap.size → k ∉ X → w'.heap[k]? = w.heap[k]?
theorem Kp.refl (X : List Nat) (w : World) : Kp X w w := ⟨rfl, rfl, rfl, Nat.le_refl _, fun _ _ _ => rfl⟩
theorem Kp.trans {X : List Nat} {a b c : World} (h : Kp X a b) (k : Kp X b c) : Kp X a c :=
  ⟨k.os.trans h.os, k.tape.trans h.tape, k.output.trans h.output, Nat.le_trans h.size k.size, fun i hi hx => (k.block i (Nat.lt_of_lt_of_le hi h.size) hx).trans (h.block i hi hx)⟩
theorem Kp.mono {X Y : List Nat} {a b : World} (h : Kp X a b) (hs : ∀ k, k < a.heap.size → k ∈ X → k ∈ Y) : Kp Y a b :=
  ⟨h.os, h.tape, h.output, h.size, fun i hi hy => h.block i hi fun hx => hy (hs i hi hx)⟩
theorem Kp.of_below {X : List Nat} {w w' : World} (h : Below w.heap.size w w') : Kp X w w' := ⟨h.os, h.tape, h.output, h.size, fun k hk _ => h.block k hk⟩
theorem Kp.then_below {X : List Nat} {a w w' : World} (h : Kp X a w) (hb : Below w.heap.size w w') : Kp X a w' := h.trans (Kp.of_below hb)
theorem Kp.then_old {X : List Nat} {a w w' : World} (h : Kp X a w) (hb : Below a.heap.size w w') : Kp X a w' := ⟨hb.os.trans h.os, hb.tape.trans h.tape, hb.output.trans h.output, Nat.le_trans h.size hb.size, fun k hk hx => (hb.block k hk).trans (h.block k hk hx)⟩
theorem Kp.setCell {X : List Nat} {a w : World} (h : Kp X a w) {p : Addr} (hp : p.block ∈ X ∨ a.heap.size ≤ p.block) (u : Value) : Kp X a (w.setCell p u) :=
  ⟨h.os, h.tape, h.output, by rw [World.size_setCell]; exact h.size, fun k hk hx => (Below.heap_setCell _ _ _ _ (fun e => by subst e; rcases hp with hp | hp; exact hx hp; omega)).trans (h.block k hk hx)⟩
theorem Kp.drew {X : List Nat} {a w : World} (h : Kp X a w) : Kp X a w.drew := ⟨h.os, h.tape, h.output, h.size, h.block⟩
theorem Kp.drewN {X : List Nat} {a w : World} (h : Kp X a w) (n : Nat) : Kp X a (w.drewN n) := ⟨h.os, h.tape, h.output, h.size, h.block⟩
theorem Kp.alloc {X : List Nat} {a w : World} (h : Kp X a w) (o : Obj) : Kp X a (w.alloc o) := h.then_below (ba w o)
theorem Kp.below {X : List Nat} {B : Nat} {w w' : World} (h : Kp X w w') (hX : ∀ k ∈ X, B ≤ k) (hB : B ≤ w.heap.size) : Below B w w' :=
  ⟨h.os, h.tape, h.output, h.size, fun k hk => h.block k (Nat.lt_of_lt_of_le hk hB) fun hx => by have := hX k hx; omega⟩
theorem Kp.old {X : List Nat} {w w' : World} (h : Kp X w w') (hX : ∀ k ∈ X, w.heap.size ≤ k) : Below w.heap.size w w' := h.below hX (Nat.le_refl _)
theorem Kp.row {X : List Nat} {w w' : World} (h : Kp X w w') {b : Nat} {T : TypeId} {cs : Array Value} (hr : RowAt w b T cs) (hb : b ∉ X) : RowAt w' b T cs := by
  unfold RowAt at *; rw [h.block b (Array.getElem?_eq_some_iff.1 hr).1 hb]; exact hr
theorem Kp.cell {X : List Nat} {w w' : World} (h : Kp X w w') {p : Addr} (hp : p.block < w.heap.size) (hx : p.block ∉ X) : w'.cell? p = w.cell? p := World.cell?_of_block (w := w) (h.block p.block hp hx)
theorem Kp.one {X : List Nat} {w w' : World} (h : Kp [] w w') : Kp X w w' := h.mono fun _ _ hx => by cases hx
theorem KRow.kp {α : Type} {enc : α → Array Value} {k : Nat} {T : TypeId} {X : List Nat} {w w' : World} {B : Nat} {v : Value} {l : List α} (h : KRow enc k T w B v l) (hk : Kp X w w') (hX : ∀ g, v.ownBlock = some g → g ∉ X) : KRow enc k T w' B v l := by
  have hlt := h.lt
  obtain ⟨hl, h⟩ := h
  refine ⟨hl, ?_⟩
  rcases h with h | ⟨g, cap, cur, rfl, hB, hc, h1⟩
  · exact .inl h
  · have hg := hlt g rfl
    exact .inr ⟨g, cap, cur, rfl, hB, (hk.block g hg.2 (hX g rfl)).trans hc, h1⟩
/-- A box of one cell. -/
theorem RowAt.get1 {w : World} {b : Nat} {T : TypeId} {v : Value} (h : RowAt w b T #[v]) : w.cell? ⟨b, 0, none⟩ = some v := h.cell 0
theorem RowAt.set1 {w : World} {b : Nat} {T : TypeId} {v : Value} (h : RowAt w b T #[v]) (u : Value) : RowAt (w.setCell ⟨b, 0, none⟩ u) b T #[u] := h.set 0 u
theorem RowAt.ne {w w' : World} {b c : Nat} {T U : TypeId} {x y : Array Value} (h : RowAt w b T x) (hc : w.heap.size ≤ c) : b ≠ c := by have := h.lt; omega

/-- A whole store into a row of the call's own: no other block has changed. -/
theorem wpList_store_kp {P : Program} {ops : Array Oper} {rest : List Oper} {o : Oper} {a : Act} {w : World} {Q : Exit → Act → World → Prop} {b : Nat} {T : TypeId} {old : Array Value} (h : RowAt w b T old)
    (cells : Array Value) (x y : Operand) (ty : TypeId) (hgd : o.guard = none) (ho : o.op = .store ty x y) (hx : a.eval x = .pointer (some ⟨b, 0, none⟩)) (hy : a.eval y = .agg cells)
    (hi : (P.info? ty).map (·.size) = some cells.size) (hold : old.size = cells.size) (h1 : cells.toList.all (·.oneCell') = true)
    (hk : ∀ w', RowAt w' b T cells → Kp [b] w w' → wpList P ops Q rest (a.put o.dst undef) w') : wpList P ops Q (o :: rest) a w := by
  have h2 := (below_setRow (Below.refl b w) (Nat.le_refl b) cells)
  refine wpList_store_row hgd ty x y ho b cells hx hy T old h hi hold (by simpa using h1) (hk _ (setRow_heap w b old cells T (0, 0) h) ⟨h2.os, h2.tape, h2.output, h2.size, fun k hk hne => ?_⟩)
  unfold World.setRow
  rw [Array.getElem?_modify, if_neg (fun e => hne (by simp [e]))]

end Go.Proofs.Ytfbclbolkojjeaa
