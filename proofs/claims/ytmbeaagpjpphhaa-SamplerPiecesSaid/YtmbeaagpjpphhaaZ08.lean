/-
  Rows of several cells (structs, arrays) that the call itself has made: what they hold, whole stores into them.
-/
import Derived.Test.YtmbeaagpjpphhaaZ06
import Derived.Below
import Derived.Laws.Rows
import Derived.Laws.Tables
import Derived.Laws.CopyOwn
namespace Go.Proofs.Ytmbeaagpjpphhaa
open Go Go.RowKit

/-- The block b holds these cells, and may be written. -/
def RowAt (w : World) (b : Nat) (T : TypeId) (cs : Array Value) : Prop := w.heap[b]? = some (.cells cs T (0, 0))
theorem RowAt.new (w : World) (T : TypeId) (cs : Array Value) : RowAt (w.alloc (.cells cs T)) w.heap.size T cs := by
  show (w.heap.push _)[w.heap.size]? = _
  simp
theorem RowAt.lt {w : World} {b : Nat} {T : TypeId} {cs : Array Value} (h : RowAt w b T cs) : b < w.heap.size := (Array.getElem?_eq_some_iff.1 h).1
theorem RowAt.cell {w : World} {b : Nat} {T : TypeId} {cs : Array Value} (h : RowAt w b T cs) (j : Nat) : w.cell? ⟨b, j, none⟩ = cs[j]? := cell_of_row w b j cs T (0, 0) h
theorem RowAt.frozen {w : World} {b : Nat} {T : TypeId} {cs : Array Value} (h : RowAt w b T cs) (j : Nat) : w.frozen? ⟨b, j, none⟩ = false := by
  unfold RowAt at h
  simp [World.frozen?, h]
theorem RowAt.below {w w' : World} {b B : Nat} {T : TypeId} {cs : Array Value} (h : RowAt w b T cs) (hb : Below B w w') (hB : b < B) : RowAt w' b T cs := by
  unfold RowAt at *; rw [hb.block b hB]; exact h
theorem RowAt.keep {w w' : World} {b : Nat} {T : TypeId} {cs : Array Value} (h : RowAt w b T cs) (hb : Below w.heap.size w w') : RowAt w' b T cs := h.below hb h.lt
theorem RowAt.alloc {w : World} {b : Nat} {T : TypeId} {cs : Array Value} (h : RowAt w b T cs) (o : Obj) : RowAt (w.alloc o) b T cs := h.keep (ba w o)

theorem RowAt.set {w : World} {b : Nat} {T : TypeId} {cs : Array Value} (h : RowAt w b T cs) (j : Nat) (v : Value) : RowAt (w.setCell ⟨b, j, none⟩ v) b T (cs.setIfInBounds j v) := by
  unfold RowAt at *
  have hlt := (Array.getElem?_eq_some_iff.1 h).1
  simp only [World.setCell]
  rw [Array.getElem?_modify, if_pos rfl, h]
  rfl
theorem RowAt.other {w : World} {b : Nat} {T : TypeId} {cs : Array Value} (h : RowAt w b T cs) (a : Addr) (v : Value) (hb : a.block ≠ b) : RowAt (w.setCell a v) b T cs := by
  unfold RowAt at *
  simp only [World.setCell]
  rw [Array.getElem?_modify, if_neg hb, h]

theorem heap_alloc (w : World) (o : Obj) (i : Nat) : (w.alloc o).heap[i]? = if i = w.heap.size then some o else w.heap[i]? := by
  show (w.heap.push o)[i]? = _
  rw [Array.getElem?_push]
theorem RowAt.setIf {w : World} {b : Nat} {T : TypeId} {cs : Array Value} (h : RowAt w b T cs) (B j : Nat) (v : Value) (hb : b = B) : RowAt (w.setCell ⟨B, j, none⟩ v) b T (cs.setIfInBounds j v) := by subst hb; exact h.set j v
theorem RowAt.at {w : World} {T : TypeId} {cs : Array Value} {b : Nat} (hb : b = w.heap.size) : RowAt (w.alloc (.cells cs T)) b T cs := by subst hb; exact RowAt.new w T cs

/-- A whole store into a row of the call's own. -/
theorem wpList_store_at {P : Program} {ops : Array Oper} {rest : List Oper} {o : Oper} {a : Act} {w : World} {Q : Exit → Act → World → Prop} {B b : Nat} {T : TypeId} {old : Array Value} (h : RowAt w b T old) (hB : B ≤ b)
    (cells : Array Value) (x y : Operand) (ty : TypeId) (hgd : o.guard = none) (ho : o.op = .store ty x y) (hx : a.eval x = .pointer (some ⟨b, 0, none⟩)) (hy : a.eval y = .agg cells)
    (hi : (P.info? ty).map (·.size) = some cells.size) (hold : old.size = cells.size) (h1 : cells.toList.all (·.oneCell') = true)
    (hk : ∀ w', RowAt w' b T cells → Below B w w' → wpList P ops Q rest (a.put o.dst undef) w') : wpList P ops Q (o :: rest) a w :=
  wpList_store_row hgd ty x y ho b cells hx hy T old h hi hold (by simpa using h1) (hk _ (setRow_heap w b old cells T (0, 0) h) (below_setRow (Below.refl _ _) hB cells))

end Go.Proofs.Ytmbeaagpjpphhaa
