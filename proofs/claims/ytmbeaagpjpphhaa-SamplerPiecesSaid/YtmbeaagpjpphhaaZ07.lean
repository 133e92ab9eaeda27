/-
  One element appended to a row of the call's own, out of its literal; a row of the call's own below what only makes memory.
-/
import Derived.Test.YtmbeaagpjpphhaaZ06
import Derived.Below
import Derived.Laws.OwnMore
import Derived.Deep.AppendLies
import Derived.Deep.Draws
import Derived.Maps.AppendAt
import Derived.OwnWalk
import Derived.Lib.AppendStr
import Derived.Laws.IdiomStrings
namespace Go.Proofs.Ytmbeaagpjpphhaa
open Go Go.RowKit Go.Joins
set_option linter.unusedVariables false

/-- One element, out of the block that the literal has just laid. -/
theorem wpList_append_lit {P : Program} {S T : TypeId} {z : Value} {sz bb : Nat} (hS : P.underlying S = some (.slice T)) (hinfo : (P.info? T).map (fun i => (i.zero, i.size, i.bytes)) = some (some z, sz, bb)) (hz : z.cells.size = sz) (hpos : 0 < sz)
    {w : World} {ops : Array Oper} {rest : List Oper} {o : Oper} {a : Act} {Q : Exit → Act → World → Prop} (hgd : o.guard = none) (s x : Operand)
    (ho : o.op = .call { callee := .builtin .append, args := #[s, x], argTypes := #[S, S] })
    {B n c : Nat} {v : Value} {cs : List Value} {ya : Array Value} {g : Nat} (hs : a.eval s = v) (hx : a.eval x = .slice (some ⟨g, 0, none⟩) 1 c) (hg : g = w.heap.size) (hf : w.ownsRow B T sz v n cs) (hB : B ≤ w.heap.size)
    (hl : ya.toList.length = sz) (h1 : ya.toList.all (·.oneCell') = true) (hn : n + 1 ≤ 140737488355328) (hb : (n + 1) * bb ≤ 140737488355328)
    (h : ∀ v' w', w'.ownsRow B T sz v' (n + 1) (cs ++ ya.toList) → Below B w w' → wpList P ops Q rest (a.put o.dst v') w') : wpList P ops Q (o :: rest) a (w.alloc (.cells ya T)) := by
  subst hg
  refine wpList_plain hgd fun K hK => ?_
  obtain ⟨i0, hi0, hz0, hz1, hz2⟩ := info_parts hinfo
  have hnews : ∀ j u, ya.toList[j]? = some u → (w.alloc (.cells ya T)).cell? ((⟨w.heap.size, 0, none⟩ : Addr).add j) = some u := by
    intro j u hj
    rw [Addr.add_lit, Nat.zero_add]
    have : (w.alloc (.cells ya T)).heap[w.heap.size]? = some (.cells ya T (0, 0)) := by
      show (w.heap.push _)[w.heap.size]? = _
      simp
    rw [cell_of_row _ _ _ _ _ _ this]
    simpa using hj
  obtain ⟨v', w', hrun, r1, r2, _⟩ := run_append_own (P := P) (w.alloc (.cells ya T)) B S o.type T i0 z sz bb hS hi0 hz0 hz1 hz2 hz hpos v n cs (hf.alloc _) ⟨w.heap.size, 0, none⟩ 1 c ya.toList (by omega) hnews (fun u hu => List.all_eq_true.1 h1 u hu) (by simp only [maxLen]; omega) hb (le_alloc hB _)
  unfold Oper.wp execOp
  simp only [ho, resolve, invoke, builtin, Sem.run_bind, Sem.run_pure, Result.andThen_ok, List.map_toArray, List.map_cons, List.map_nil, hs, hx, hrun]
  refine hK _ _ (h v' w' r1 (((ba w _).mono hB).trans ((Below.refl _ _).grown r2 (le_alloc hB _) fun k hk => (World.ownsRow.lt hf k hk).1)))

/-- The same; of old blocks, the row's own alone may have changed. -/
theorem wpList_append_lit2 {P : Program} {S T : TypeId} {z : Value} {sz bb : Nat} (hS : P.underlying S = some (.slice T)) (hinfo : (P.info? T).map (fun i => (i.zero, i.size, i.bytes)) = some (some z, sz, bb)) (hz : z.cells.size = sz) (hpos : 0 < sz)
    {w : World} {ops : Array Oper} {rest : List Oper} {o : Oper} {a : Act} {Q : Exit → Act → World → Prop} (hgd : o.guard = none) (s x : Operand)
    (ho : o.op = .call { callee := .builtin .append, args := #[s, x], argTypes := #[S, S] })
    {B n c : Nat} {v : Value} {cs : List Value} {ya : Array Value} {g : Nat} (hs : a.eval s = v) (hx : a.eval x = .slice (some ⟨g, 0, none⟩) 1 c) (hg : g = w.heap.size) (hf : w.ownsRow B T sz v n cs) (hB : B ≤ w.heap.size)
    (hl : ya.toList.length = sz) (h1 : ya.toList.all (·.oneCell') = true) (hn : n + 1 ≤ 140737488355328) (hb : (n + 1) * bb ≤ 140737488355328)
    (h : ∀ v' w', w'.ownsRow B T sz v' (n + 1) (cs ++ ya.toList) → Below B w w' → (∀ k, k < w.heap.size → some k ≠ v.ownBlock → w'.heap[k]? = w.heap[k]?) → wpList P ops Q rest (a.put o.dst v') w') : wpList P ops Q (o :: rest) a (w.alloc (.cells ya T)) := by
  subst hg
  refine wpList_plain hgd fun K hK => ?_
  obtain ⟨i0, hi0, hz0, hz1, hz2⟩ := info_parts hinfo
  have hnews : ∀ j u, ya.toList[j]? = some u → (w.alloc (.cells ya T)).cell? ((⟨w.heap.size, 0, none⟩ : Addr).add j) = some u := by
    intro j u hj
    rw [Addr.add_lit, Nat.zero_add]
    have : (w.alloc (.cells ya T)).heap[w.heap.size]? = some (.cells ya T (0, 0)) := by
      show (w.heap.push _)[w.heap.size]? = _
      simp
    rw [cell_of_row _ _ _ _ _ _ this]
    simpa using hj
  obtain ⟨v', w', hrun, r1, r2, _⟩ := run_append_own (P := P) (w.alloc (.cells ya T)) B S o.type T i0 z sz bb hS hi0 hz0 hz1 hz2 hz hpos v n cs (hf.alloc _) ⟨w.heap.size, 0, none⟩ 1 c ya.toList (by omega) hnews (fun u hu => List.all_eq_true.1 h1 u hu) (by simp only [maxLen]; omega) hb (le_alloc hB _)
  unfold Oper.wp execOp
  simp only [ho, resolve, invoke, builtin, Sem.run_bind, Sem.run_pure, Result.andThen_ok, List.map_toArray, List.map_cons, List.map_nil, hs, hx, hrun]
  refine hK _ _ (h v' w' r1 (((ba w _).mono hB).trans ((Below.refl _ _).grown r2 (le_alloc hB _) fun k hk => (World.ownsRow.lt hf k hk).1)) fun k hk hne => (r2.block k (by rw [World.size_alloc]; omega) hne).trans (Below.heap_alloc w _ k hk))

theorem Below.ownsRow {w w' : World} {B B' : Nat} {T : TypeId} {sz : Nat} {v : Value} {n : Nat} {cs : List Value} (h : w.ownsRow B T sz v n cs) (hb : Below B' w w') (hB : ∀ k, v.ownBlock = some k → k < B') : w'.ownsRow B T sz v n cs := by
  refine ⟨h.1, h.2.imp id fun ⟨g, cap, cur, e, h1, h2, h3⟩ => ⟨g, cap, cur, e, h1, ?_, h3⟩⟩
  rw [hb.block g (hB g (by rw [e]; rfl))]; exact h2

end Go.Proofs.Ytmbeaagpjpphhaa
