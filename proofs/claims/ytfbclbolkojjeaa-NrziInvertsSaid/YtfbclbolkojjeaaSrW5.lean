/-
  The walks of floor, Floor, Round, Scale, Cmp, of package ratio and of its specification.
-/
import Derived.Test.YtfbclbolkojjeaaSrW4
namespace Go.Proofs.Ytfbclbolkojjeaa
namespace Sr
open Go.RowKit

/-- Behind calls that only make memory: one block of two cells, as it was laid. -/
theorem one2 {w wa : World} {x0 x1 : Value} {T : TypeId} (h : Below (w.alloc (.cells #[x0, x1] T)).heap.size (w.alloc (.cells #[x0, x1] T)) wa) :
    wa.cell? ⟨w.heap.size, 0, none⟩ = some x0 ∧ wa.cell? ⟨w.heap.size, 1, none⟩ = some x1 ∧ w.heap.size < wa.heap.size := by
  have hs := h.size
  simp only [World.size_alloc] at hs
  refine ⟨?_, ?_, by omega⟩
  all_goals (refine (h.cell (by simp only [World.size_alloc]; omega)).trans ?_; go_simp)
theorem two2 {w wa : World} {x0 x1 y0 y1 : Value} {T : TypeId} (h : Below ((w.alloc (.cells #[x0, x1] T)).alloc (.cells #[y0, y1] T)).heap.size ((w.alloc (.cells #[x0, x1] T)).alloc (.cells #[y0, y1] T)) wa) :
    (wa.cell? ⟨w.heap.size, 0, none⟩ = some x0 ∧ wa.cell? ⟨w.heap.size, 1, none⟩ = some x1) ∧ (wa.cell? ⟨w.heap.size + 1, 0, none⟩ = some y0 ∧ wa.cell? ⟨w.heap.size + 1, 1, none⟩ = some y1) ∧ w.heap.size + 1 < wa.heap.size := by
  have hs := h.size
  simp only [World.size_alloc] at hs
  refine ⟨⟨?_, ?_⟩, ⟨?_, ?_⟩, by omega⟩
  all_goals (refine (h.cell (by simp only [World.size_alloc]; omega)).trans ?_; go_simp)

end Sr
end Go.Proofs.Ytfbclbolkojjeaa
