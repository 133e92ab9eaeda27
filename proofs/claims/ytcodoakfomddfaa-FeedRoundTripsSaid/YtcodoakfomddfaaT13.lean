/-
  An event appended: where the new row lies.
-/
import Derived.Test.YtcodoakfomddfaaT4
import Derived.Maps.AppendAt
namespace Go.Proofs.Ytcodoakfomddfaa
open Go Go.RowKit Go.Joins
set_option linter.unusedVariables false

/-- One element appended out of its literal: the new row lies where the old one did, or in a new block. -/
theorem wpList_append_lit3 {P : Program} {S T : TypeId} {z : Value} {sz bb : Nat} (hS : P.underlying S = some (.slice T)) (hinfo : (P.info? T).map (fun i => (i.zero, i.size, i.bytes)) = some (some z, sz, bb)) (hz : z.cells.size = sz) (hpos : 0 < sz)
    {w : World} {ops : Array Oper} {rest : List Oper} {o : Oper} {a : Act} {Q : Exit → Act → World → Prop} (hgd : o.guard = none) (s x : Operand)
    (ho : o.op = .call { callee := .builtin .append, args := #[s, x], argTypes := #[S, S] })
    {B n c : Nat} {v : Value} {cs : List Value} {ya : Array Value} {g : Nat} (hs : a.eval s = v) (hx : a.eval x = .slice (some ⟨g, 0, none⟩) 1 c) (hg : g = w.heap.size) (hf : w.ownsRow B T sz v n cs) (hB : B ≤ w.heap.size)
    (hl : ya.toList.length = sz) (h1 : ya.toList.all (·.oneCell') = true) (hn : n + 1 ≤ 140737488355328) (hb : (n + 1) * bb ≤ 140737488355328)
    (h : ∀ v' w', w'.ownsRow B T sz v' (n + 1) (cs ++ ya.toList) → Below B w w' → (∀ k, k < w.heap.size → some k ≠ v.ownBlock → w'.heap[k]? = w.heap[k]?) → (v'.ownBlock = v.ownBlock ∨ v'.ownBlock = some (w.heap.size + 1)) → wpList P ops Q rest (a.put o.dst v') w') : wpList P ops Q (o :: rest) a (w.alloc (.cells ya T)) := by
  subst hg
  refine wpList_plain hgd fun K hK => ?_
  obtain ⟨i0, hi0, hz0, hz1, hz2⟩ := info_parts hinfo
  have hnews : ∀ j u, ya.toList[j]? = some u → (w.alloc (.cells ya T)).cell? ((⟨w.heap.size, 0, none⟩ : Addr).add j) = some u := by
    intro j u hj
    rw [Addr.add_lit, Nat.zero_add]
    have : (w.alloc (.cells ya T)).heap[w.heap.size]? = some (.cells ya T (0, 0)) := by
      show (w.heap.push _)[w.heap.size]? = _
      simp
    rw [cell_of_row _ _ _ _ _ _ this]
    simpa using hj
  obtain ⟨v', w', hrun, r1, r2, _, r4⟩ := run_append_own_at (P := P) (w.alloc (.cells ya T)) B S o.type T i0 z sz bb hS hi0 hz0 hz1 hz2 hz hpos v n cs (hf.alloc _) ⟨w.heap.size, 0, none⟩ 1 c ya.toList (by omega) hnews (fun u hu => List.all_eq_true.1 h1 u hu) (by simp only [maxLen]; omega) hb (le_alloc hB _)
  unfold Oper.wp execOp
  simp only [ho, resolve, invoke, builtin, Sem.run_bind, Sem.run_pure, Result.andThen_ok, List.map_toArray, List.map_cons, List.map_nil, hs, hx, hrun]
  rw [World.size_alloc] at r4
  refine hK _ _ (h v' w' r1 (((ba w _).mono hB).trans ((Below.refl _ _).grown r2 (le_alloc hB _) fun k hk => (World.ownsRow.lt hf k hk).1)) (fun k hk hne => (r2.block k (by rw [World.size_alloc]; omega) hne).trans (Below.heap_alloc w _ k hk)) r4)
theorem wpList_append_ev3 {w : World} {ops : Array Oper} {rest : List Oper} {o : Oper} {ac : Act} {Q : Exit → Act → World → Prop} (hgd : o.guard = none) (p x : Operand)
    (ho : o.op = .call { callee := .builtin .append, args := #[p, x], argTypes := #[26, 26] })
    {B c : Nat} {V : Value} {l : List Ev} {g : Nat} {k f t v a : Int} {s : ByteArray} {u : Int} {ya : Array Value} (hya : ya = evA k f t v a s u) (hs : ac.eval p = V) (hx : ac.eval x = .slice (some ⟨g, 0, none⟩) 1 c) (hg : g = w.heap.size) (hf : EvRow w B V l) (hB : B ≤ w.heap.size) (hn : l.length ≤ 1099511627776)
    (h : ∀ v' w', EvRow w' B v' (l ++ [⟨k, f, t, v, a, s.data.toList, u⟩]) → Below B w w' → (∀ k, k < w.heap.size → some k ≠ V.ownBlock → w'.heap[k]? = w.heap[k]?) → (v'.ownBlock = V.ownBlock ∨ v'.ownBlock = some (w.heap.size + 1)) → wpList Try.prog ops Q rest (ac.put o.dst v') w') : wpList Try.prog ops Q (o :: rest) ac (w.alloc (.cells ya 48)) := by
  subst hya
  refine wpList_append_lit3 (P := Try.prog) Try.underlying26 ev_info rfl (by omega) hgd p x ho hs hx hg hf hB rfl rfl (by omega) (by omega) fun v' w' r b n4 n5 => h v' w' ?_ b n4 n5
  unfold EvRow KRow
  rw [List.length_append, kCs_snoc, ← evC_mk]
  exact r

end Go.Proofs.Ytcodoakfomddfaa
