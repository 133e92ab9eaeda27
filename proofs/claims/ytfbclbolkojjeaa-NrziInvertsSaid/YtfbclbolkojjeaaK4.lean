/-
  'append(row, slice...)' in a plain region: where the new row lies, and that of old blocks the row's own alone may have changed.
-/
import Derived.Test.YtfbclbolkojjeaaK3
import Derived.Maps.AppendAt
namespace Go.Proofs.Ytfbclbolkojjeaa
open Go Go.RowKit Go.Joins
set_option linter.unusedVariables false

section
variable {α : Type} {enc : α → Array Value} {k : Nat} {T : TypeId}
theorem append_arg_run_at {P : Program} {S ty : TypeId} {zv : Value} {bb : Nat} (hS : P.underlying S = some (.slice T)) (hinfo : (P.info? T).map (fun i => (i.zero, i.size, i.bytes)) = some (some zv, k, bb)) (hz : zv.cells.size = k) (hpos : 0 < k) (hk : ∀ x, (enc x).size = k) (h1 : ∀ x, (enc x).toList.all (·.oneCell') = true)
    {w : World} {B : Nat} {v sv : Value} {X Y : List α} (hX : KRow enc k T w B v X) (hY : KArg enc k w sv Y) (hB : B ≤ w.heap.size) (hn : X.length + Y.length ≤ 140737488355328) (hb : (X.length + Y.length) * bb ≤ 140737488355328) :
    ∃ v' w', (Builtin.append_ #[S, S] ty #[v, sv]).run P w = .ok v' w' ∧ KRow enc k T w' B v' (X ++ Y) ∧ Below B w w' ∧ (∀ k, k < w.heap.size → some k ≠ v.ownBlock → w'.heap[k]? = w.heap[k]?) ∧ (v'.ownBlock = v.ownBlock ∨ v'.ownBlock = some w.heap.size) := by
  obtain ⟨i0, hi0, hz0, hz1, hz2⟩ := info_parts hinfo
  obtain ⟨A, c, rfl⟩ := hY.form
  cases A with
  | none =>
    have h0 : Y = [] := by
      obtain ⟨A', c', e, hA⟩ := hY
      simp only [Value.slice.injEq] at e
      obtain ⟨rfl, _, _⟩ := e
      rcases Nat.eq_zero_or_pos Y.length with h0 | h0
      · exact List.eq_nil_of_length_eq_zero h0
      · obtain ⟨g', o', e, _⟩ := hA h0
        cases e
    subst h0
    have hrun : (Builtin.append_ #[S, S] ty #[v, .slice none ([] : List α).length c]).run P w = .ok v w := by
      rcases hX.2 with ⟨rfl, h0⟩ | ⟨g, cap, cur, rfl, _, _, hnc, _⟩
      · simp [Builtin.append_, run_underlying hS, sizeOf, typeInfo, hi0, Builtin.lenOf, Builtin.firstCells]
      · simp [Builtin.append_, run_underlying hS, sizeOf, typeInfo, hi0, Builtin.lenOf, Builtin.firstCells, hnc, storeCells]
    exact ⟨v, w, hrun, by rw [List.append_nil]; exact hX, Below.refl _ _, fun _ _ _ => rfl, .inl rfl⟩
  | some ad =>
    obtain ⟨v', w', hrun, r1, r2, _, r4⟩ := run_append_own_at (P := P) w B S ty T i0 zv k bb hS hi0 hz0 hz1 hz2 hz hpos v X.length (kCs enc X) hX ad Y.length c (kCs enc Y) (kCs_len hk Y) (hY.cells hk hpos) (kCs_one h1 Y) (by simp only [maxLen]; omega) hb hB
    refine ⟨v', w', hrun, ?_, ((Below.refl _ _).grown r2 hB fun k hk => (KRow.lt hX k hk).1), fun k hk hne => r2.block k hk hne, r4⟩
    unfold KRow
    rw [kCs_append, List.length_append]
    exact r1
theorem wpList_append_arg_at {P : Program} {S : TypeId} {zv : Value} {bb : Nat} (hS : P.underlying S = some (.slice T)) (hinfo : (P.info? T).map (fun i => (i.zero, i.size, i.bytes)) = some (some zv, k, bb)) (hz : zv.cells.size = k) (hpos : 0 < k) (hk : ∀ x, (enc x).size = k) (h1 : ∀ x, (enc x).toList.all (·.oneCell') = true)
    {w : World} {ops : Array Oper} {rest : List Oper} {o : Oper} {a : Act} {Q : Exit → Act → World → Prop} (hgd : o.guard = none) (s x : Operand)
    (ho : o.op = .call { callee := .builtin .append, args := #[s, x], argTypes := #[S, S] })
    {B : Nat} {v sv : Value} {X Y : List α} (hs : a.eval s = v) (hx : a.eval x = sv) (hX : KRow enc k T w B v X) (hY : KArg enc k w sv Y) (hB : B ≤ w.heap.size) (hn : X.length + Y.length ≤ 140737488355328) (hb : (X.length + Y.length) * bb ≤ 140737488355328)
    (h : ∀ v' w', KRow enc k T w' B v' (X ++ Y) → Below B w w' → (∀ k, k < w.heap.size → some k ≠ v.ownBlock → w'.heap[k]? = w.heap[k]?) → (v'.ownBlock = v.ownBlock ∨ v'.ownBlock = some w.heap.size) → wpList P ops Q rest (a.put o.dst v') w') : wpList P ops Q (o :: rest) a w := by
  refine wpList_plain hgd fun K hK => ?_
  obtain ⟨v', w', hrun, r1, r2, r3, r4⟩ := append_arg_run_at (ty := o.type) hS hinfo hz hpos hk h1 hX hY hB hn hb
  unfold Oper.wp execOp
  simp only [ho, resolve, invoke, builtin, Sem.run_bind, Sem.run_pure, Result.andThen_ok, List.map_toArray, List.map_cons, List.map_nil, hs, hx, hrun]
  exact hK _ _ (h v' w' r1 r2 r3 r4)
end
/-- A row of the call's own that is not this block. -/
theorem row_kept {w w' : World} {b : Nat} {T : TypeId} {cs : Array Value} {v : Value} (h : RowAt w b T cs) (hk : ∀ k, k < w.heap.size → some k ≠ v.ownBlock → w'.heap[k]? = w.heap[k]?) (hb : v.ownBlock ≠ some b) : RowAt w' b T cs := by
  have hl := h.lt
  unfold RowAt at *
  rw [hk b hl (fun e => hb e.symm)]
  exact h

end Go.Proofs.Ytfbclbolkojjeaa
