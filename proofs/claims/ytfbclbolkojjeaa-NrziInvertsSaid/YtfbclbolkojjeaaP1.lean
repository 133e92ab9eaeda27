/-
  Structs and arrays of one-cell parts among a function's arguments, opened part by part.
-/
import Derived.Test.YtfbclbolkojjeaaG0
import Derived.LaidMore
import Derived.OpenShut
import Derived.Lib.SmallJoins
namespace Go.Proofs.Ytfbclbolkojjeaa
open Go Go.ChangeShapes Go.WideShapes Go.ChangeAt Go.RowKit

section
variable {H : Type} {enc : TypeId × Value → H} {P : Program} {w : World} {b0 base : Nat} {spare : Nat → Bool} {held : Bool} {r : Reach} {t : TypeId} {v : Value} {d : DataW H} {p : List MemPlace}

theorem okWide_arr {n : Nat} {e : TypeId} (ht : P.underlying t = some (.array n e)) (h : Value.okWide P w r b0 t v) : ∃ cs, v = .agg cs ∧ cs.size = P.cellsOf t := by
  simp only [Value.okWide, ht] at h
  obtain ⟨cs, h1, h2, _⟩ := h
  exact ⟨cs, h1, h2⟩
/-- A struct of one-cell fields. -/
theorem open_struct {fs : Array Field} (hs : P.underlying t = some (.struct fs)) (hv : Value.okWide P w r b0 t v) (h : DataW.Trod enc P w base spare held t v d p) :
    ∃ (cs : Array Value) (n : Nat), v = .agg cs ∧ cs.size = P.cellsOf t ∧ ∀ (i : Nat) (f : Field), fs[i]? = some f → P.cellsOf f.type = 1 → f.offset < cs.size → ∃ y, DataW.trod enc P w base spare held n f.type [cs.getD f.offset default] = some y := by
  obtain ⟨cs, rfl, hsz⟩ := okWide_struct hs hv
  obtain ⟨fuel, hf⟩ := h
  obtain ⟨xs, n, rfl, _, _, hl, hx⟩ := DataW.trod_struct hs hf
  refine ⟨cs, n, rfl, hsz, fun i f hi h1 ho => ?_⟩
  have hlt : i < fs.size := (Array.getElem?_eq_some_iff.1 hi).1
  have h2 := hx i f hi
  have h3 : i < xs.length := by omega
  rw [h1, List.getElem?_eq_getElem h3] at h2
  refine ⟨xs[i], ?_⟩
  rw [← h2]
  congr 1
  have e : (Value.agg cs).cells.toList = cs.toList := rfl
  rw [e]
  apply List.ext_getElem?
  intro j
  rw [List.getElem?_take, List.getElem?_drop]
  cases j with
  | zero => simp [ho]
  | succ j => simp
/-- An array of one-cell elements. -/
theorem open_arr {k : Nat} {e : TypeId} (hs : P.underlying t = some (.array k e)) (h1 : P.cellsOf e = 1) (hv : Value.okWide P w r b0 t v) (h : DataW.Trod enc P w base spare held t v d p) :
    ∃ (cs : Array Value) (n : Nat), v = .agg cs ∧ cs.size = P.cellsOf t ∧ ∀ i, i < k → i < cs.size → ∃ y, DataW.trod enc P w base spare held n e [cs.getD i default] = some y := by
  obtain ⟨cs, rfl, hsz⟩ := okWide_arr hs hv
  obtain ⟨fuel, hf⟩ := h
  obtain ⟨xs, n, rfl, _, _, hl, hx⟩ := DataW.trod_array hs hf
  refine ⟨cs, n, rfl, hsz, fun i hi ho => ?_⟩
  have h2 := hx i hi
  have h3 : i < xs.length := by omega
  rw [h1, Nat.mul_one, List.getElem?_eq_getElem h3] at h2
  refine ⟨xs[i], ?_⟩
  rw [← h2]
  congr 1
  have e : (Value.agg cs).cells.toList = cs.toList := rfl
  rw [e]
  apply List.ext_getElem?
  intro j
  rw [List.getElem?_take, List.getElem?_drop]
  cases j with
  | zero => simp [ho]
  | succ j => simp
end

theorem arr2 {cs : Array Value} (h : cs.size = 2) : cs = #[cs.getD 0 default, cs.getD 1 default] := by
  obtain ⟨l⟩ := cs
  match l, h with
  | [a, b], _ => rfl
theorem arr3 {cs : Array Value} (h : cs.size = 3) : cs = #[cs.getD 0 default, cs.getD 1 default, cs.getD 2 default] := by
  obtain ⟨l⟩ := cs
  match l, h with
  | [a, b, c], _ => rfl
theorem arr4 {cs : Array Value} (h : cs.size = 4) : cs = #[cs.getD 0 default, cs.getD 1 default, cs.getD 2 default, cs.getD 3 default] := by
  obtain ⟨l⟩ := cs
  match l, h with
  | [a, b, c, d], _ => rfl
theorem arr5 {cs : Array Value} (h : cs.size = 5) : cs = #[cs.getD 0 default, cs.getD 1 default, cs.getD 2 default, cs.getD 3 default, cs.getD 4 default] := by
  obtain ⟨l⟩ := cs
  match l, h with
  | [a, b, c, d, e], _ => rfl

end Go.Proofs.Ytfbclbolkojjeaa
