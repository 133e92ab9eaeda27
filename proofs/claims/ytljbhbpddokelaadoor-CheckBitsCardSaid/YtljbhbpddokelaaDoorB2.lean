/-
  Rows of whatever elements that the call itself has made: one element appended out of its literal; rows of strings.
-/
import Derived.Test.YtljbhbpddokelaaDoorB1
namespace Go.Proofs.YtljbhbpddokelaaDoor
open Go Go.RowKit Go.Joins
set_option linter.unusedVariables false

/-- One element, out of the block that the literal has just laid. -/
theorem wpList_append_lit {P : Program} {S T : TypeId} {z : Value} {sz bb : Nat} (hS : P.underlying S = some (.slice T)) (hinfo : (P.info? T).map (fun i => (i.zero, i.size, i.bytes)) = some (some z, sz, bb)) (hz : z.cells.size = sz) (hpos : 0 < sz)
    {w : World} {ops : Array Oper} {rest : List Oper} {o : Oper} {a : Act} {Q : Exit → Act → World → Prop} (hgd : o.guard = none) (s x : Operand)
    (ho : o.op = .call { callee := .builtin .append, args := #[s, x], argTypes := #[S, S] })
    {B n c : Nat} {v : Value} {cs : List Value} {ya : Array Value} {g : Nat} (hs : a.eval s = v) (hx : a.eval x = .slice (some ⟨g, 0, none⟩) 1 c) (hg : g = w.heap.size) (hf : w.ownsRow B T sz v n cs) (hB : B ≤ w.heap.size)
    (hl : ya.toList.length = sz) (h1 : ya.toList.all (·.oneCell') = true) (hn : n + 1 ≤ 140737488355328) (hb : (n + 1) * bb ≤ 140737488355328)
    (h : ∀ v' w', w'.ownsRow B T sz v' (n + 1) (cs ++ ya.toList) → Below B w w' → wpList P ops Q rest (a.put o.dst v') w') : wpList P ops Q (o :: rest) a (w.alloc (.cells ya T)) := by
  subst hg
  refine wpList_plain hgd fun K hK => ?_
  obtain ⟨i0, hi0, hz0, hz1, hz2⟩ := info_parts hinfo
  have hnews : ∀ j u, ya.toList[j]? = some u → (w.alloc (.cells ya T)).cell? ((⟨w.heap.size, 0, none⟩ : Addr).add j) = some u := by
    intro j u hj
    rw [Addr.add_lit, Nat.zero_add]
    have : (w.alloc (.cells ya T)).heap[w.heap.size]? = some (.cells ya T (0, 0)) := by
      show (w.heap.push _)[w.heap.size]? = _
      simp
    rw [cell_of_row _ _ _ _ _ _ this]
    simpa using hj
  obtain ⟨v', w', hrun, r1, r2, _⟩ := run_append_own (P := P) (w.alloc (.cells ya T)) B S o.type T i0 z sz bb hS hi0 hz0 hz1 hz2 hz hpos v n cs (hf.alloc _) ⟨w.heap.size, 0, none⟩ 1 c ya.toList (by omega) hnews (fun u hu => List.all_eq_true.1 h1 u hu) (by simp only [maxLen]; omega) hb (le_alloc hB _)
  unfold Oper.wp execOp
  simp only [ho, resolve, invoke, builtin, Sem.run_bind, Sem.run_pure, Result.andThen_ok, List.map_toArray, List.map_cons, List.map_nil, hs, hx, hrun]
  refine hK _ _ (h v' w' r1 (((ba w _).mono hB).trans ((Below.refl _ _).grown r2 (le_alloc hB _) fun k hk => (World.ownsRow.lt hf k hk).1)))

theorem Below.ownsRow {w w' : World} {B B' : Nat} {T : TypeId} {sz : Nat} {v : Value} {n : Nat} {cs : List Value} (h : w.ownsRow B T sz v n cs) (hb : Below B' w w') (hB : ∀ k, v.ownBlock = some k → k < B') : w'.ownsRow B T sz v n cs := by
  refine ⟨h.1, h.2.imp id fun ⟨g, cap, cur, e, h1, h2, h3⟩ => ⟨g, cap, cur, e, h1, ?_, h3⟩⟩
  rw [hb.block g (hB g (by rw [e]; rfl))]; exact h2

/-- The slice v is of the call's own (at or above B), or nil, and holds these strings. -/
def SRow (w : World) (B : Nat) (v : Value) (l : List ByteArray) : Prop := w.ownsRow B 9 1 v l.length (l.map Value.string)
theorem SRow.nil (w : World) (B : Nat) : SRow w B (.slice none 0 0) [] := World.ownsRow_nil w B _ 1
theorem SRow.form {w : World} {B : Nat} {v : Value} {l : List ByteArray} (h : SRow w B v l) : ∃ A N c, v = .slice A N c ∧ N = l.length := by
  rcases ownsRow_forms h with ⟨rfl, e⟩ | ⟨g, c, rfl⟩
  · exact ⟨none, 0, 0, rfl, e.symm⟩
  · exact ⟨_, _, _, rfl, rfl⟩
theorem SRow.lt {w : World} {B : Nat} {v : Value} {l : List ByteArray} (h : SRow w B v l) : ∀ k, v.ownBlock = some k → B ≤ k ∧ k < w.heap.size := World.ownsRow.lt h
theorem SRow.keep {w w' : World} {B : Nat} {v : Value} {l : List ByteArray} (h : SRow w B v l) (hb : Below w.heap.size w w') : SRow w' B v l := Below.ownsRow h hb fun k hk => (h.lt k hk).2
theorem SRow.alloc {w : World} {B : Nat} {v : Value} {l : List ByteArray} (h : SRow w B v l) (o : Obj) : SRow (w.alloc o) B v l := h.keep (ba w o)
theorem SRow.mono {w : World} {B B' : Nat} {v : Value} {l : List ByteArray} (h : SRow w B v l) (hB : B' ≤ B) : SRow w B' v l :=
  ⟨h.1, h.2.imp id fun ⟨g, cap, cur, h1, h2, h3⟩ => ⟨g, cap, cur, h1, Nat.le_trans hB h2, h3⟩⟩
/-- A literal of strings. -/
theorem SRow.lit (w : World) (B : Nat) (hB : B ≤ w.heap.size) (l : List ByteArray) (hl : l.length ≤ 140737488355328) (n : Nat) (hn : n = l.length) : SRow (w.alloc (.cells (l.map Value.string).toArray 9)) B (.slice (some ⟨w.heap.size, 0, none⟩) n n) l := by
  subst hn
  have := World.ownsRow_lit (size := 1) (e := 9) w (l.map Value.string).toArray l.length hB (by simp only [maxLen]; omega) (by simp)
  exact this
theorem SRow.cell {w : World} {B g n c : Nat} {l : List ByteArray} (h : SRow w B (.slice (some ⟨g, 0, none⟩) n c) l) (j : Nat) (hj : j < l.length) : w.cell? ⟨g, j, none⟩ = some (.string l[j]) := by
  have hn : n = l.length := by
    obtain ⟨A, N, c', e, hN⟩ := SRow.form h
    simp only [Value.slice.injEq] at e
    omega
  subst hn
  rw [World.ownsRow.cellAt h j (by omega)]
  simp [hj]
theorem SRow.some {w : World} {B : Nat} {v : Value} {l : List ByteArray} (h : SRow w B v l) (hl : 0 < l.length) : ∃ g c, v = .slice (some ⟨g, 0, none⟩) l.length c := ownsRow_form h hl

theorem string_info : (Tryd.prog.info? 9).map (fun i => (i.zero, i.size, i.bytes)) = some (some (.string ⟨#[]⟩), 1, 16) := by kernel_rfl
/-- A string appended, out of its literal. -/
theorem wpList_append_string {w : World} {ops : Array Oper} {rest : List Oper} {o : Oper} {a : Act} {Q : Exit → Act → World → Prop} (hgd : o.guard = none) (s x : Operand)
    (ho : o.op = .call { callee := .builtin .append, args := #[s, x], argTypes := #[26, 26] })
    {B c : Nat} {v : Value} {l : List ByteArray} {g : Nat} (t : ByteArray) (hs : a.eval s = v) (hx : a.eval x = .slice (some ⟨g, 0, none⟩) 1 c) (hg : g = w.heap.size) (hf : SRow w B v l) (hB : B ≤ w.heap.size) (hn : l.length + 1 ≤ 8796093022208)
    (h : ∀ v' w', SRow w' B v' (l ++ [t]) → Below B w w' → wpList Tryd.prog ops Q rest (a.put o.dst v') w') : wpList Tryd.prog ops Q (o :: rest) a (w.alloc (.cells #[.string t] 9)) := by
  refine wpList_append_lit (P := Tryd.prog) Tryd.underlying26 string_info rfl (by omega) hgd s x ho hs hx hg hf hB rfl rfl (by omega) (by omega) fun v' w' r b => h v' w' ?_ b
  unfold SRow
  rw [List.length_append, List.map_append]
  exact r

end Go.Proofs.YtljbhbpddokelaaDoor
