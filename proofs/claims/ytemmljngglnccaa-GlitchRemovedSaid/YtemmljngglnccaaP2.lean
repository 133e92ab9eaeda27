/-
  Two integers among the arguments.
-/
import Derived.Test.YtemmljngglnccaaP0
import Derived.Test.YtemmljngglnccaaP1
namespace Go.Proofs.Ytemmljngglnccaa
open Go Go.ChangeShapes Go.WideShapes Go.ChangeAt Go.RowKit
set_option linter.unusedVariables false

theorem open_two {H : Type} {enc : TypeId × Value → H} {W : World} {base b : Nat} {sp : Nat → Bool} {hd : Bool} {v : Value} {d : DataW H} {p : List MemPlace} (hv : Value.okWide Try.prog W .any base 42 v) (h : DataW.Trod enc Try.prog W b sp hd 42 v d p) :
    ∃ (x y : Int), v = .agg #[.int .i64 x, .int .i64 y] ∧ (-9223372036854775808 ≤ x ∧ x ≤ 9223372036854775807) ∧ (-9223372036854775808 ≤ y ∧ y ≤ 9223372036854775807) := by
  obtain ⟨cs, n, rfl, hsz, hx⟩ := open_arr Try.underlying42 (by kernel_rfl) hv h
  have h2 : cs.size = 2 := hsz.trans (by kernel_rfl)
  rw [arr2 h2]
  obtain ⟨y0, k0⟩ := hx 0 (by decide) (by omega)
  obtain ⟨y1, k1⟩ := hx 1 (by decide) (by omega)
  obtain ⟨x0, e0, _, w0⟩ := DataW.trod_int Try.underlying3 k0
  obtain ⟨x1, e1, _, w1⟩ := DataW.trod_int Try.underlying3 k1
  simp only [List.cons.injEq, and_true] at e0 e1
  exact ⟨x0, x1, by rw [e0, e1], bounds_i64 w0, bounds_i64 w1⟩
end Go.Proofs.Ytemmljngglnccaa
