/-
  The walks of Add, Sub, Mul, Div, of package ratio and of its specification.
-/
import Derived.Test.YtfbclbolkojjeaaSrW3
namespace Go.Proofs.Ytfbclbolkojjeaa
namespace Sr
open Go.RowKit

theorem bcell {W w1 : World} (hb : Below W.heap.size W w1) : (∀ b o, b < W.heap.size → w1.cell? ⟨b, o, none⟩ = W.cell? ⟨b, o, none⟩) ∧ (∀ b o, b < W.heap.size → w1.frozen? ⟨b, o, none⟩ = W.frozen? ⟨b, o, none⟩) :=
  ⟨fun b o h => hb.cell (p := ⟨b, o, none⟩) h, fun b o h => hb.frozen (p := ⟨b, o, none⟩) h⟩

/-- Behind calls that only make memory: three blocks of two cells, as they were laid. -/
theorem three {w wa : World} {x0 x1 y0 y1 z0 z1 : Value} {T : TypeId}
    (h : Below (((w.alloc (.cells #[x0, x1] T)).alloc (.cells #[y0, y1] T)).alloc (.cells #[z0, z1] T)).heap.size (((w.alloc (.cells #[x0, x1] T)).alloc (.cells #[y0, y1] T)).alloc (.cells #[z0, z1] T)) wa) :
    (wa.cell? ⟨w.heap.size, 0, none⟩ = some x0 ∧ wa.cell? ⟨w.heap.size, 1, none⟩ = some x1) ∧ (wa.cell? ⟨w.heap.size + 1, 0, none⟩ = some y0 ∧ wa.cell? ⟨w.heap.size + 1, 1, none⟩ = some y1) ∧
    (wa.cell? ⟨w.heap.size + 1 + 1, 0, none⟩ = some z0 ∧ wa.cell? ⟨w.heap.size + 1 + 1, 1, none⟩ = some z1) ∧ (wa.frozen? ⟨w.heap.size + 1 + 1, 0, none⟩ = false ∧ wa.frozen? ⟨w.heap.size + 1 + 1, 1, none⟩ = false) ∧ w.heap.size + 1 + 1 < wa.heap.size := by
  have hs := h.size
  simp only [World.size_alloc] at hs
  refine ⟨⟨?_, ?_⟩, ⟨?_, ?_⟩, ⟨?_, ?_⟩, ⟨?_, ?_⟩, by omega⟩
  all_goals first
    | (refine (h.cell (by simp only [World.size_alloc]; omega)).trans ?_; go_simp)
    | (refine (h.frozen (by simp only [World.size_alloc]; omega)).trans ?_; go_simp)

/-- A result of two cells, stored behind calls. -/
theorem two_set {wa : World} {b : Nat} {u0 u1 v0 v1 : Value} (h0 : wa.cell? ⟨b, 0, none⟩ = some u0) (h1 : wa.cell? ⟨b, 1, none⟩ = some u1) :
    ((wa.setCell ⟨b, 0, none⟩ v0).setCell ⟨b, 1, none⟩ v1).cell? ⟨b, 0, none⟩ = some v0 ∧ ((wa.setCell ⟨b, 0, none⟩ v0).setCell ⟨b, 1, none⟩ v1).cell? ⟨b, 1, none⟩ = some v1 := by
  constructor
  · rw [World.cell?_setCell_other _ _ _ _ (by simp)]; exact World.cell?_setCell_same _ _ _ h0
  · exact World.cell?_setCell_same _ _ _ (by rw [World.cell?_setCell_other _ _ _ _ (by simp)]; exact h1)

end Sr
end Go.Proofs.Ytfbclbolkojjeaa
