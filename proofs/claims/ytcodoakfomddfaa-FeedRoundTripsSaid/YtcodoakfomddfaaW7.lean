/-
  Long and At (both sides).
-/
import Derived.Test.YtcodoakfomddfaaW6
namespace Go.Proofs.Ytcodoakfomddfaa
open Go Go.RowKit Go.Joins
set_option linter.unusedVariables false
set_option linter.unusedSimpArgs false

/-- The two cells of a capture's box, behind what only makes memory. -/
theorem box_two {w w1 : World} {a b : Value} {T : TypeId} (hb : Below (w.alloc (.cells #[a, b] T)).heap.size (w.alloc (.cells #[a, b] T)) w1) :
    w1.cell? ⟨w.heap.size, 0, none⟩ = some a ∧ w1.cell? ⟨w.heap.size, 1, none⟩ = some b :=
  ⟨(hb.cell (p := ⟨w.heap.size, 0, none⟩) (by rw [World.size_alloc]; exact Nat.lt_succ_self _)).trans ((RowAt.new w T #[a, b]).cell 0),
   (hb.cell (p := ⟨w.heap.size, 1, none⟩) (by rw [World.size_alloc]; exact Nat.lt_succ_self _)).trans ((RowAt.new w T #[a, b]).cell 1)⟩

/-- A level and whether there is one. -/
def atR (p : Int × Bool) : Value := .tuple #[.int .i64 p.1, .bool p.2]
theorem atR_eq {p : Int × Bool} {a : Int} {b : Bool} (h : p = (a, b)) : Ending.returned (.tuple #[.int .i64 a, .bool b]) = .returned (atR p) := by subst h; rfl

end Go.Proofs.Ytcodoakfomddfaa
