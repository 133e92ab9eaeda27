/-
  Several bytes appended, out of the block that the literal has just laid.
-/
import Derived.Test.YtiimdkamgehioaaDoorB2
namespace Go.Proofs.YtiimdkamgehioaaDoor
open Go Go.RowKit Go.Joins
set_option linter.unusedVariables false

theorem wpList_append_many {w : World} {ya : Array Value} {ops : Array Oper} {rest : List Oper} {o : Oper} {a : Act} {Q : Exit → Act → World → Prop} (hgd : o.guard = none) (s x : Operand)
    (ho : o.op = .call { callee := .builtin .append, args := #[s, x], argTypes := #[73, 73] })
    {B m c g : Nat} {v : Value} {l : List UInt8} (hs : a.eval s = v) (hx : a.eval x = .slice (some ⟨g, 0, none⟩) m c) (hg : g = w.heap.size) (hf : Row w B v l) (hB : B ≤ w.heap.size) (bs : List UInt8) (hm : m = bs.length) (hm0 : 0 < m) (hm4 : m ≤ 4) (hya : ya.toList = cells bs) (hl : l.length + 4 ≤ 140737488355328)
    (h : ∀ v' w', Row w' B v' (l ++ bs) → Below B w w' → wpList Tryd.prog ops Q rest (a.put o.dst v') w') : wpList Tryd.prog ops Q (o :: rest) a (w.alloc (.cells ya 5)) := by
  subst hm hg
  refine wpList_plain hgd fun K hK => ?_
  obtain ⟨i0, hi0, hz0, hz1, hz2⟩ := info_parts byte_info
  have hnews : ∀ j u, (cells bs)[j]? = some u → (w.alloc (.cells ya 5)).cell? ((⟨w.heap.size, 0, none⟩ : Addr).add j) = some u := by
    intro j u hj
    rw [Addr.add_lit, Nat.zero_add]
    have : (w.alloc (.cells ya 5)).heap[w.heap.size]? = some (.cells ya 5 (0, 0)) := by
      show (w.heap.push _)[w.heap.size]? = _
      simp
    rw [cell_of_row _ _ _ _ _ _ this, ← Array.getElem?_toList, hya]
    exact hj
  obtain ⟨v', w', hrun, r1, r2, _⟩ := run_append_own (P := Tryd.prog) (w.alloc (.cells ya 5)) B 73 o.type 5 i0 _ 1 1 Tryd.underlying73 hi0 hz0 hz1 hz2 rfl (by omega) v l.length (cells l) (hf.alloc _) ⟨w.heap.size, 0, none⟩ bs.length c (cells bs) (by rw [cells_length]; omega) hnews (cells_one bs) (by simp only [maxLen]; omega) (by omega) (le_alloc hB _)
  unfold Oper.wp execOp
  simp only [ho, resolve, invoke, builtin, Sem.run_bind, Sem.run_pure, Result.andThen_ok, List.map_toArray, List.map_cons, List.map_nil, hs, hx, hrun]
  refine hK _ _ (h v' w' ?_ (((ba w _).mono hB).trans ((Below.refl _ _).grown r2 (le_alloc hB _) fun k hk => (hf.lt k hk).1)))
  unfold Row
  rw [cells_append, List.length_append]
  exact r1

theorem Row.drew {w : World} {B : Nat} {v : Value} {l : List UInt8} (h : Row w B v l) : Row w.drew B v l := h
/-- At a step of a region that draws its order. -/
theorem step_append_many {w : World} {ya : Array Value} {ops : Array Oper} {o : Oper} {a : Act} {K : Act → World → Prop} {Q : Exit → Act → World → Prop} {E : Prop} (hgd : o.guard = none) (s x : Operand)
    (ho : o.op = .call { callee := .builtin .append, args := #[s, x], argTypes := #[73, 73] })
    {B m c g : Nat} {v : Value} {l : List UInt8} (hs : a.eval s = v) (hx : a.eval x = .slice (some ⟨g, 0, none⟩) m c) (hg : g = w.heap.size) (hf : Row w B v l) (hB : B ≤ w.heap.size) (bs : List UInt8) (hm : m = bs.length) (hm0 : 0 < m) (hm4 : m ≤ 4) (hya : ya.toList = cells bs) (hl : l.length + 4 ≤ 140737488355328)
    (h : ∀ v' w', Row w' B v' (l ++ bs) → Below B w w' → K (a.put o.dst v') w') : if Region.wanted o (yielded ops a.tmps) = true then Oper.wp Tryd.prog o a (w.alloc (.cells ya 5)) K Q else E := by
  have hw : Region.wanted o (yielded ops a.tmps) = true := by simp [Region.wanted, hgd]
  rw [if_pos hw]
  subst hm hg
  obtain ⟨i0, hi0, hz0, hz1, hz2⟩ := info_parts byte_info
  have hnews : ∀ j u, (cells bs)[j]? = some u → (w.alloc (.cells ya 5)).cell? ((⟨w.heap.size, 0, none⟩ : Addr).add j) = some u := by
    intro j u hj
    rw [Addr.add_lit, Nat.zero_add]
    have : (w.alloc (.cells ya 5)).heap[w.heap.size]? = some (.cells ya 5 (0, 0)) := by
      show (w.heap.push _)[w.heap.size]? = _
      simp
    rw [cell_of_row _ _ _ _ _ _ this, ← Array.getElem?_toList, hya]
    exact hj
  obtain ⟨v', w', hrun, r1, r2, _⟩ := run_append_own (P := Tryd.prog) (w.alloc (.cells ya 5)) B 73 o.type 5 i0 _ 1 1 Tryd.underlying73 hi0 hz0 hz1 hz2 rfl (by omega) v l.length (cells l) (hf.alloc _) ⟨w.heap.size, 0, none⟩ bs.length c (cells bs) (by rw [cells_length]; omega) hnews (cells_one bs) (by simp only [maxLen]; omega) (by omega) (le_alloc hB _)
  unfold Oper.wp execOp
  simp only [ho, resolve, invoke, builtin, Sem.run_bind, Sem.run_pure, Result.andThen_ok, List.map_toArray, List.map_cons, List.map_nil, hs, hx, hrun]
  refine (h v' w' ?_ (((ba w _).mono hB).trans ((Below.refl _ _).grown r2 (le_alloc hB _) fun k hk => (hf.lt k hk).1)))
  unfold Row
  rw [cells_append, List.length_append]
  exact r1

end Go.Proofs.YtiimdkamgehioaaDoor
