/-
  Several elements of k cells appended out of their literal, inside a region that draws its order.
-/
import Derived.Test.YtfbclbolkojjeaaK0
namespace Go.Proofs.Ytfbclbolkojjeaa
open Go Go.RowKit Go.Joins
set_option linter.unusedVariables false

section
variable {α : Type} {enc : α → Array Value} {k : Nat} {T : TypeId}
/-- Several elements appended out of their literal, at a step of a region that draws its order. -/
theorem step_append_ks {P : Program} {S : TypeId} {z : Value} {bb : Nat} (hS : P.underlying S = some (.slice T)) (hinfo : (P.info? T).map (fun i => (i.zero, i.size, i.bytes)) = some (some z, k, bb)) (hz : z.cells.size = k) (hpos : 0 < k) (hk : ∀ x, (enc x).size = k)
    {w : World} {ya : Array Value} {ops : Array Oper} {o : Oper} {a : Act} {K : Act → World → Prop} {Q : Exit → Act → World → Prop} {E : Prop} (hgd : o.guard = none) (s x : Operand)
    (ho : o.op = .call { callee := .builtin .append, args := #[s, x], argTypes := #[S, S] })
    {B m c g : Nat} {v : Value} {l : List α} (hs : a.eval s = v) (hx : a.eval x = .slice (some ⟨g, 0, none⟩) m c) (hg : g = w.heap.size) (hf : KRow enc k T w B v l) (hB : B ≤ w.heap.size) (ts : List α) (hm : m = ts.length) (hm0 : 0 < m) (hya : ya.toList = kCs enc ts)
    (h1 : (kCs enc ts).all (·.oneCell') = true) (hn : l.length + m ≤ 140737488355328) (hb : (l.length + m) * bb ≤ 140737488355328)
    (h : ∀ v' w', KRow enc k T w' B v' (l ++ ts) → Below B w w' → K (a.put o.dst v') w') : if Region.wanted o (yielded ops a.tmps) = true then Oper.wp P o a (w.alloc (.cells ya T)) K Q else E := by
  have hw : Region.wanted o (yielded ops a.tmps) = true := by simp [Region.wanted, hgd]
  rw [if_pos hw]
  subst hg
  obtain ⟨i0, hi0, hz0, hz1, hz2⟩ := info_parts hinfo
  have hnews : ∀ j u, (kCs enc ts)[j]? = some u → (w.alloc (.cells ya T)).cell? ((⟨w.heap.size, 0, none⟩ : Addr).add j) = some u := by
    intro j u hj
    rw [Addr.add_lit, Nat.zero_add]
    have : (w.alloc (.cells ya T)).heap[w.heap.size]? = some (.cells ya T (0, 0)) := by
      show (w.heap.push _)[w.heap.size]? = _
      simp
    rw [cell_of_row _ _ _ _ _ _ this, ← Array.getElem?_toList, hya]
    exact hj
  obtain ⟨v', w', hrun, r1, r2, _⟩ := run_append_own (P := P) (w.alloc (.cells ya T)) B S o.type T i0 z k bb hS hi0 hz0 hz1 hz2 hz hpos v l.length (kCs enc l) (World.ownsRow.alloc hf _) ⟨w.heap.size, 0, none⟩ m c (kCs enc ts) (by rw [kCs_len hk, hm]) hnews (fun u hu => List.all_eq_true.1 h1 u hu) (by simp only [maxLen]; omega) hb (le_alloc hB _)
  unfold Oper.wp execOp
  simp only [ho, resolve, invoke, builtin, Sem.run_bind, Sem.run_pure, Result.andThen_ok, List.map_toArray, List.map_cons, List.map_nil, hs, hx, hrun]
  refine (h v' w' ?_ (((ba w _).mono hB).trans ((Below.refl _ _).grown r2 (le_alloc hB _) fun k hk => (World.ownsRow.lt hf k hk).1)))
  unfold KRow
  rw [kCs_append, List.length_append, ← hm]
  exact r1
/-- Several elements appended out of their literal, at a step of a region that draws its order: of old blocks, the row's own alone may have changed. -/
theorem step_append_ks2 {P : Program} {S : TypeId} {z : Value} {bb : Nat} (hS : P.underlying S = some (.slice T)) (hinfo : (P.info? T).map (fun i => (i.zero, i.size, i.bytes)) = some (some z, k, bb)) (hz : z.cells.size = k) (hpos : 0 < k) (hk : ∀ x, (enc x).size = k)
    {w : World} {ya : Array Value} {ops : Array Oper} {o : Oper} {a : Act} {K : Act → World → Prop} {Q : Exit → Act → World → Prop} {E : Prop} (hgd : o.guard = none) (s x : Operand)
    (ho : o.op = .call { callee := .builtin .append, args := #[s, x], argTypes := #[S, S] })
    {B m c g : Nat} {v : Value} {l : List α} (hs : a.eval s = v) (hx : a.eval x = .slice (some ⟨g, 0, none⟩) m c) (hg : g = w.heap.size) (hf : KRow enc k T w B v l) (hB : B ≤ w.heap.size) (ts : List α) (hm : m = ts.length) (hm0 : 0 < m) (hya : ya.toList = kCs enc ts)
    (h1 : (kCs enc ts).all (·.oneCell') = true) (hn : l.length + m ≤ 140737488355328) (hb : (l.length + m) * bb ≤ 140737488355328)
    (h : ∀ v' w', KRow enc k T w' B v' (l ++ ts) → Below B w w' → (∀ k, k < w.heap.size → some k ≠ v.ownBlock → w'.heap[k]? = w.heap[k]?) → K (a.put o.dst v') w') : if Region.wanted o (yielded ops a.tmps) = true then Oper.wp P o a (w.alloc (.cells ya T)) K Q else E := by
  have hw : Region.wanted o (yielded ops a.tmps) = true := by simp [Region.wanted, hgd]
  rw [if_pos hw]
  subst hg
  obtain ⟨i0, hi0, hz0, hz1, hz2⟩ := info_parts hinfo
  have hnews : ∀ j u, (kCs enc ts)[j]? = some u → (w.alloc (.cells ya T)).cell? ((⟨w.heap.size, 0, none⟩ : Addr).add j) = some u := by
    intro j u hj
    rw [Addr.add_lit, Nat.zero_add]
    have : (w.alloc (.cells ya T)).heap[w.heap.size]? = some (.cells ya T (0, 0)) := by
      show (w.heap.push _)[w.heap.size]? = _
      simp
    rw [cell_of_row _ _ _ _ _ _ this, ← Array.getElem?_toList, hya]
    exact hj
  obtain ⟨v', w', hrun, r1, r2, _⟩ := run_append_own (P := P) (w.alloc (.cells ya T)) B S o.type T i0 z k bb hS hi0 hz0 hz1 hz2 hz hpos v l.length (kCs enc l) (World.ownsRow.alloc hf _) ⟨w.heap.size, 0, none⟩ m c (kCs enc ts) (by rw [kCs_len hk, hm]) hnews (fun u hu => List.all_eq_true.1 h1 u hu) (by simp only [maxLen]; omega) hb (le_alloc hB _)
  unfold Oper.wp execOp
  simp only [ho, resolve, invoke, builtin, Sem.run_bind, Sem.run_pure, Result.andThen_ok, List.map_toArray, List.map_cons, List.map_nil, hs, hx, hrun]
  refine (h v' w' ?_ (((ba w _).mono hB).trans ((Below.refl _ _).grown r2 (le_alloc hB _) fun k hk => (World.ownsRow.lt hf k hk).1)) fun k hk hne => (r2.block k (by rw [World.size_alloc]; omega) hne).trans (Below.heap_alloc _ _ _ hk))
  unfold KRow
  rw [kCs_append, List.length_append, ← hm]
  exact r1
end

end Go.Proofs.Ytfbclbolkojjeaa
