/-
  'append(row, slice...)' and 'append(row, element)' at a step of a region that draws its order; of old blocks, the row's own alone may have changed.
-/
import Derived.Test.YtfbclbolkojjeaaK2
namespace Go.Proofs.Ytfbclbolkojjeaa
open Go Go.RowKit Go.Joins
set_option linter.unusedVariables false

section
variable {α : Type} {enc : α → Array Value} {k : Nat} {T : TypeId}
theorem append_arg_run {P : Program} {S ty : TypeId} {zv : Value} {bb : Nat} (hS : P.underlying S = some (.slice T)) (hinfo : (P.info? T).map (fun i => (i.zero, i.size, i.bytes)) = some (some zv, k, bb)) (hz : zv.cells.size = k) (hpos : 0 < k) (hk : ∀ x, (enc x).size = k) (h1 : ∀ x, (enc x).toList.all (·.oneCell') = true)
    {w : World} {B : Nat} {v sv : Value} {X Y : List α} (hX : KRow enc k T w B v X) (hY : KArg enc k w sv Y) (hB : B ≤ w.heap.size) (hn : X.length + Y.length ≤ 140737488355328) (hb : (X.length + Y.length) * bb ≤ 140737488355328) :
    ∃ v' w', (Builtin.append_ #[S, S] ty #[v, sv]).run P w = .ok v' w' ∧ KRow enc k T w' B v' (X ++ Y) ∧ Below B w w' ∧ (∀ k, k < w.heap.size → some k ≠ v.ownBlock → w'.heap[k]? = w.heap[k]?) := by
  obtain ⟨i0, hi0, hz0, hz1, hz2⟩ := info_parts hinfo
  obtain ⟨A, c, rfl⟩ := hY.form
  cases A with
  | none =>
    have h0 : Y = [] := by
      obtain ⟨A', c', e, hA⟩ := hY
      simp only [Value.slice.injEq] at e
      obtain ⟨rfl, _, _⟩ := e
      rcases Nat.eq_zero_or_pos Y.length with h0 | h0
      · exact List.eq_nil_of_length_eq_zero h0
      · obtain ⟨g', o', e, _⟩ := hA h0
        cases e
    subst h0
    have hrun : (Builtin.append_ #[S, S] ty #[v, .slice none ([] : List α).length c]).run P w = .ok v w := by
      rcases hX.2 with ⟨rfl, h0⟩ | ⟨g, cap, cur, rfl, _, _, hnc, _⟩
      · simp [Builtin.append_, run_underlying hS, sizeOf, typeInfo, hi0, Builtin.lenOf, Builtin.firstCells]
      · simp [Builtin.append_, run_underlying hS, sizeOf, typeInfo, hi0, Builtin.lenOf, Builtin.firstCells, hnc, storeCells]
    exact ⟨v, w, hrun, by rw [List.append_nil]; exact hX, Below.refl _ _, fun _ _ _ => rfl⟩
  | some ad =>
    obtain ⟨v', w', hrun, r1, r2, _⟩ := run_append_own (P := P) w B S ty T i0 zv k bb hS hi0 hz0 hz1 hz2 hz hpos v X.length (kCs enc X) hX ad Y.length c (kCs enc Y) (kCs_len hk Y) (hY.cells hk hpos) (kCs_one h1 Y) (by simp only [maxLen]; omega) hb hB
    refine ⟨v', w', hrun, ?_, ((Below.refl _ _).grown r2 hB fun k hk => (KRow.lt hX k hk).1), fun k hk hne => r2.block k hk hne⟩
    unfold KRow
    rw [kCs_append, List.length_append]
    exact r1
theorem step_append_arg {P : Program} {S : TypeId} {zv : Value} {bb : Nat} (hS : P.underlying S = some (.slice T)) (hinfo : (P.info? T).map (fun i => (i.zero, i.size, i.bytes)) = some (some zv, k, bb)) (hz : zv.cells.size = k) (hpos : 0 < k) (hk : ∀ x, (enc x).size = k) (h1 : ∀ x, (enc x).toList.all (·.oneCell') = true)
    {w : World} {ops : Array Oper} {o : Oper} {a : Act} {K : Act → World → Prop} {Q : Exit → Act → World → Prop} {E : Prop} (hgd : o.guard = none) (s x : Operand)
    (ho : o.op = .call { callee := .builtin .append, args := #[s, x], argTypes := #[S, S] })
    {B : Nat} {v sv : Value} {X Y : List α} (hs : a.eval s = v) (hx : a.eval x = sv) (hX : KRow enc k T w B v X) (hY : KArg enc k w sv Y) (hB : B ≤ w.heap.size) (hn : X.length + Y.length ≤ 140737488355328) (hb : (X.length + Y.length) * bb ≤ 140737488355328)
    (h : ∀ v' w', KRow enc k T w' B v' (X ++ Y) → Below B w w' → (∀ k, k < w.heap.size → some k ≠ v.ownBlock → w'.heap[k]? = w.heap[k]?) → K (a.put o.dst v') w') : if Region.wanted o (yielded ops a.tmps) = true then Oper.wp P o a w K Q else E := by
  have hw : Region.wanted o (yielded ops a.tmps) = true := by simp [Region.wanted, hgd]
  rw [if_pos hw]
  obtain ⟨v', w', hrun, r1, r2, r3⟩ := append_arg_run (P := P) (ty := o.type) hS hinfo hz hpos hk h1 hX hY hB hn hb
  unfold Oper.wp execOp
  simp only [ho, resolve, invoke, builtin, Sem.run_bind, Sem.run_pure, Result.andThen_ok, List.map_toArray, List.map_cons, List.map_nil, hs, hx, hrun]
  exact h v' w' r1 r2 r3
end

end Go.Proofs.Ytfbclbolkojjeaa
