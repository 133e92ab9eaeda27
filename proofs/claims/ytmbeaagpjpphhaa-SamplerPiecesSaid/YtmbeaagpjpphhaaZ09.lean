/-
  Rows of elements of k cells (structs): those that the call itself has made ('KRow': of its own or nil), and those that are only read ('KArg': arguments, rows). The encoding is given as a function to arrays of cells.
  Several elements of k cells appended out of their literal, inside a region that draws its order.
  Rows of elements of k cells, more: made by 'make' (full, or empty with room), filled by 'copy', appended from a slice that came in, cut to their first elements, one element stored.
  'append(row, slice...)' and 'append(row, element)' at a step of a region that draws its order; of old blocks, the row's own alone may have changed.
  Memory of which old blocks some, named ones, alone may have changed.
  The walks of Valid, place and appendBits, and of the specification's Valid and turn.
  Runs as the model holds them; the walks of isLevel, other, Valid (the program's and the specification's).
  What the proofs of all statements of this seat share: lists of runs and of numbers among the arguments.
-/
import Derived.Test.YtmbeaagpjpphhaaZ08
import Derived.Test.YtmbeaagpjpphhaaZ07
import Derived.Laws.MakeOwn
import Derived.Laws.CopyRow
import Derived.Test.YtmbeaagpjpphhaaZ01
import Derived.Deep.DeepMust
import Derived.Test.YtmbeaagpjpphhaaZ06
import Derived.Deep.QuietTactic
import Derived.BigQuiet
import Derived.SizedLaws
import Derived.ChangeMaps5
namespace Go.Proofs.Ytmbeaagpjpphhaa
open Go Go.RowKit Go.Joins
set_option linter.unusedVariables false

section
variable {α : Type} {enc : α → Array Value} {k : Nat} {T : TypeId}

def kCs (enc : α → Array Value) (l : List α) : List Value := l.flatMap fun t => (enc t).toList
theorem kCs_nil : kCs enc [] = [] := rfl
theorem kCs_cons (t : α) (l : List α) : kCs enc (t :: l) = (enc t).toList ++ kCs enc l := by simp [kCs]
theorem kCs_len (hk : ∀ x, (enc x).size = k) (l : List α) : (kCs enc l).length = l.length * k := by
  induction l with
  | nil => simp [kCs]
  | cons t l ih => rw [kCs_cons, List.length_append, ih, List.length_cons, Nat.add_mul, Array.length_toList, hk]; omega
theorem kCs_snoc (l : List α) (t : α) : kCs enc (l ++ [t]) = kCs enc l ++ (enc t).toList := by simp [kCs]
theorem kCs_append (l r : List α) : kCs enc (l ++ r) = kCs enc l ++ kCs enc r := by simp [kCs]
theorem kCs_at (hk : ∀ x, (enc x).size = k) (l : List α) (j : Nat) (hj : j < l.length) (i : Nat) (hi : i < k) : (kCs enc l)[j * k + i]? = (enc l[j])[i]? := by
  induction l generalizing j with
  | nil => simp at hj
  | cons t l ih =>
    have e4 : (enc t).toList.length = k := by rw [Array.length_toList, hk]
    rw [kCs_cons]
    cases j with
    | zero => rw [List.getElem?_append_left (by omega)]; simp
    | succ j =>
      rw [List.getElem?_append_right (by rw [Nat.add_mul]; omega), e4, show (j + 1) * k + i - k = j * k + i by rw [Nat.add_mul]; omega, ih j (by simpa using hj)]
      rfl

/-- The slice v is of the call's own (at or above B), or nil, and holds these elements. -/
def KRow (enc : α → Array Value) (k : Nat) (T : TypeId) (w : World) (B : Nat) (v : Value) (l : List α) : Prop := w.ownsRow B T k v l.length (kCs enc l)
theorem KRow.nil (w : World) (B : Nat) : KRow enc k T w B (.slice none 0 0) [] := World.ownsRow_nil w B _ k
theorem KRow.form {w : World} {B : Nat} {v : Value} {l : List α} (h : KRow enc k T w B v l) : ∃ A N c, v = .slice A N c ∧ N = l.length := by
  rcases ownsRow_forms h with ⟨rfl, e⟩ | ⟨g, c, rfl⟩
  · exact ⟨none, 0, 0, rfl, e.symm⟩
  · exact ⟨_, _, _, rfl, rfl⟩
theorem KRow.lt {w : World} {B : Nat} {v : Value} {l : List α} (h : KRow enc k T w B v l) : ∀ k, v.ownBlock = some k → B ≤ k ∧ k < w.heap.size := World.ownsRow.lt h
theorem KRow.keep {w w' : World} {B : Nat} {v : Value} {l : List α} (h : KRow enc k T w B v l) (hb : Below w.heap.size w w') : KRow enc k T w' B v l := Below.ownsRow h hb fun k hk => (h.lt k hk).2
theorem KRow.alloc {w : World} {B : Nat} {v : Value} {l : List α} (h : KRow enc k T w B v l) (o : Obj) : KRow enc k T (w.alloc o) B v l := h.keep (ba w o)
theorem KRow.drewN {w : World} {B : Nat} {v : Value} {l : List α} (h : KRow enc k T w B v l) (n : Nat) : KRow enc k T (w.drewN n) B v l := h
theorem KRow.mono {w : World} {B B' : Nat} {v : Value} {l : List α} (h : KRow enc k T w B v l) (hB : B' ≤ B) : KRow enc k T w B' v l :=
  ⟨h.1, h.2.imp id fun ⟨g, cap, cur, h1, h2, h3⟩ => ⟨g, cap, cur, h1, Nat.le_trans hB h2, h3⟩⟩
theorem KRow.full {w : World} {B : Nat} {v : Value} {l : List α} (h : KRow enc k T w B v l) (hl : 0 < l.length) : ∃ g c, v = .slice (some ⟨g, 0, none⟩) l.length c := ownsRow_form h hl
theorem KRow.cell {w : World} {B g n c : Nat} {l : List α} (hk : ∀ x, (enc x).size = k) (h : KRow enc k T w B (.slice (some ⟨g, 0, none⟩) n c) l) (j : Nat) (hj : j < l.length) (i : Nat) (hi : i < k) : w.cell? ⟨g, j * k + i, none⟩ = (enc l[j])[i]? := by
  have hn : n = l.length := by
    obtain ⟨A, N, c', e, hN⟩ := KRow.form h
    simp only [Value.slice.injEq] at e
    omega
  subst hn
  have hm : j * k + i < l.length * k := by have := Nat.mul_le_mul_right k (show j + 1 ≤ l.length from hj); rw [Nat.add_mul, Nat.one_mul] at this; omega
  rw [World.ownsRow.cellAt h (j * k + i) hm]
  exact kCs_at hk l j hj i hi
theorem KRow.frozen {w : World} {B g n c : Nat} {l : List α} (h : KRow enc k T w B (.slice (some ⟨g, 0, none⟩) n c) l) (j : Nat) : w.frozen? ⟨g, j, none⟩ = false := by
  have hn : n = l.length := by
    obtain ⟨A, N, c', e, hN⟩ := KRow.form h
    simp only [Value.slice.injEq] at e
    omega
  subst hn
  exact World.ownsRow.frozenAt h j
/-- A literal of n elements. -/
theorem KRow.lit (hk : ∀ x, (enc x).size = k) (w : World) (B : Nat) (hB : B ≤ w.heap.size) (l : List α) (cs : Array Value) (hcs : cs.toList = kCs enc l) (n : Nat) (hn : n = l.length) (hl : l.length ≤ 140737488355328) :
    KRow enc k T (w.alloc (.cells cs T)) B (.slice (some ⟨w.heap.size, 0, none⟩) n n) l := by
  subst hn
  have := World.ownsRow_lit (size := k) (e := T) w cs l.length hB (by simp only [maxLen]; omega) (by rw [← Array.length_toList, hcs, kCs_len hk])
  rw [hcs] at this
  exact this
/-- One element appended, out of its literal. -/
theorem wpList_append_k {P : Program} {S : TypeId} {z : Value} {bb : Nat} (hS : P.underlying S = some (.slice T)) (hinfo : (P.info? T).map (fun i => (i.zero, i.size, i.bytes)) = some (some z, k, bb)) (hz : z.cells.size = k) (hpos : 0 < k) (hk : ∀ x, (enc x).size = k)
    {w : World} {ops : Array Oper} {rest : List Oper} {o : Oper} {a : Act} {Q : Exit → Act → World → Prop} (hgd : o.guard = none) (s x : Operand)
    (ho : o.op = .call { callee := .builtin .append, args := #[s, x], argTypes := #[S, S] })
    {B c : Nat} {v : Value} {l : List α} {g : Nat} (t : α) {ya : Array Value} (hya : ya = enc t) (hs : a.eval s = v) (hx : a.eval x = .slice (some ⟨g, 0, none⟩) 1 c) (hg : g = w.heap.size) (hf : KRow enc k T w B v l) (hB : B ≤ w.heap.size)
    (h1 : ya.toList.all (·.oneCell') = true) (hn : l.length + 1 ≤ 140737488355328) (hb : (l.length + 1) * bb ≤ 140737488355328)
    (h : ∀ v' w', KRow enc k T w' B v' (l ++ [t]) → Below B w w' → wpList P ops Q rest (a.put o.dst v') w') : wpList P ops Q (o :: rest) a (w.alloc (.cells ya T)) := by
  subst hya
  refine wpList_append_lit (P := P) hS hinfo hz hpos hgd s x ho hs hx hg hf hB (by rw [Array.length_toList, hk]) h1 hn hb fun v' w' r b => h v' w' ?_ b
  unfold KRow
  rw [List.length_append, kCs_snoc]
  exact r
/-- The same; of old blocks, the row's own alone may have changed. -/
theorem wpList_append_k2 {P : Program} {S : TypeId} {z : Value} {bb : Nat} (hS : P.underlying S = some (.slice T)) (hinfo : (P.info? T).map (fun i => (i.zero, i.size, i.bytes)) = some (some z, k, bb)) (hz : z.cells.size = k) (hpos : 0 < k) (hk : ∀ x, (enc x).size = k)
    {w : World} {ops : Array Oper} {rest : List Oper} {o : Oper} {a : Act} {Q : Exit → Act → World → Prop} (hgd : o.guard = none) (s x : Operand)
    (ho : o.op = .call { callee := .builtin .append, args := #[s, x], argTypes := #[S, S] })
    {B c : Nat} {v : Value} {l : List α} {g : Nat} (t : α) {ya : Array Value} (hya : ya = enc t) (hs : a.eval s = v) (hx : a.eval x = .slice (some ⟨g, 0, none⟩) 1 c) (hg : g = w.heap.size) (hf : KRow enc k T w B v l) (hB : B ≤ w.heap.size)
    (h1 : ya.toList.all (·.oneCell') = true) (hn : l.length + 1 ≤ 140737488355328) (hb : (l.length + 1) * bb ≤ 140737488355328)
    (h : ∀ v' w', KRow enc k T w' B v' (l ++ [t]) → Below B w w' → (∀ k, k < w.heap.size → some k ≠ v.ownBlock → w'.heap[k]? = w.heap[k]?) → wpList P ops Q rest (a.put o.dst v') w') : wpList P ops Q (o :: rest) a (w.alloc (.cells ya T)) := by
  subst hya
  refine wpList_append_lit2 (P := P) hS hinfo hz hpos hgd s x ho hs hx hg hf hB (by rw [Array.length_toList, hk]) h1 hn hb fun v' w' r b n => h v' w' ?_ b n
  unfold KRow
  rw [List.length_append, kCs_snoc]
  exact r
/-- A cell of an old block that is not the row's, behind an append. -/
theorem kept_at {w w' : World} {v : Value} (h : ∀ k, k < w.heap.size → some k ≠ v.ownBlock → w'.heap[k]? = w.heap[k]?) (a : Addr) (h1 : a.block < w.heap.size) (h2 : some a.block ≠ v.ownBlock) : w'.cell? a = w.cell? a := World.cell?_of_block (h a.block h1 h2)
/-- Elements that are only read. -/
def KArg (enc : α → Array Value) (k : Nat) (w : World) (v : Value) (l : List α) : Prop := ∃ A c, v = .slice A l.length c ∧
  (0 < l.length → ∃ g o, A = some ⟨g, o, none⟩ ∧ g < w.heap.size ∧ ∀ j (hj : j < l.length) i, i < k → w.cell? ⟨g, o + j * k + i, none⟩ = (enc l[j])[i]?)
theorem KArg.keep {w w' : World} {v : Value} {l : List α} (h : KArg enc k w v l) (hb : Below w.heap.size w w') : KArg enc k w' v l := by
  obtain ⟨A, c, rfl, h⟩ := h
  refine ⟨A, c, rfl, fun h0 => ?_⟩
  obtain ⟨g, o, e, hg, hc⟩ := h h0
  exact ⟨g, o, e, Nat.lt_of_lt_of_le hg hb.size, fun j hj i hi => (hb.cell (p := ⟨g, o + j * k + i, none⟩) hg).trans (hc j hj i hi)⟩
theorem KRow.arg {w : World} {B : Nat} {v : Value} {l : List α} (hk : ∀ x, (enc x).size = k) (h : KRow enc k T w B v l) : KArg enc k w v l := by
  by_cases h0 : 0 < l.length
  · obtain ⟨g, c, rfl⟩ := h.full h0
    exact ⟨_, c, rfl, fun _ => ⟨g, 0, rfl, (h.lt g rfl).2, fun j hj i hi => by rw [Nat.zero_add]; exact h.cell hk j hj i hi⟩⟩
  · obtain ⟨A, N, c, rfl, rfl⟩ := h.form
    exact ⟨A, c, rfl, fun h => absurd h h0⟩
end

end Go.Proofs.Ytmbeaagpjpphhaa

namespace Go.Proofs.Ytmbeaagpjpphhaa
open Go Go.RowKit Go.Joins
set_option linter.unusedVariables false

section
variable {α : Type} {enc : α → Array Value} {k : Nat} {T : TypeId}
/-- Several elements appended out of their literal, at a step of a region that draws its order. -/
theorem step_append_ks {P : Program} {S : TypeId} {z : Value} {bb : Nat} (hS : P.underlying S = some (.slice T)) (hinfo : (P.info? T).map (fun i => (i.zero, i.size, i.bytes)) = some (some z, k, bb)) (hz : z.cells.size = k) (hpos : 0 < k) (hk : ∀ x, (enc x).size = k)
    {w : World} {ya : Array Value} {ops : Array Oper} {o : Oper} {a : Act} {K : Act → World → Prop} {Q : Exit → Act → World → Prop} {E : Prop} (hgd : o.guard = none) (s x : Operand)
    (ho : o.op = .call { callee := .builtin .append, args := #[s, x], argTypes := #[S, S] })
    {B m c g : Nat} {v : Value} {l : List α} (hs : a.eval s = v) (hx : a.eval x = .slice (some ⟨g, 0, none⟩) m c) (hg : g = w.heap.size) (hf : KRow enc k T w B v l) (hB : B ≤ w.heap.size) (ts : List α) (hm : m = ts.length) (hm0 : 0 < m) (hya : ya.toList = kCs enc ts)
    (h1 : (kCs enc ts).all (·.oneCell') = true) (hn : l.length + m ≤ 140737488355328) (hb : (l.length + m) * bb ≤ 140737488355328)
    (h : ∀ v' w', KRow enc k T w' B v' (l ++ ts) → Below B w w' → K (a.put o.dst v') w') : if Region.wanted o (yielded ops a.tmps) = true then Oper.wp P o a (w.alloc (.cells ya T)) K Q else E := by
  have hw : Region.wanted o (yielded ops a.tmps) = true := by simp [Region.wanted, hgd]
  rw [if_pos hw]
  subst hg
  obtain ⟨i0, hi0, hz0, hz1, hz2⟩ := info_parts hinfo
  have hnews : ∀ j u, (kCs enc ts)[j]? = some u → (w.alloc (.cells ya T)).cell? ((⟨w.heap.size, 0, none⟩ : Addr).add j) = some u := by
    intro j u hj
    rw [Addr.add_lit, Nat.zero_add]
    have : (w.alloc (.cells ya T)).heap[w.heap.size]? = some (.cells ya T (0, 0)) := by
      show (w.heap.push _)[w.heap.size]? = _
      simp
    rw [cell_of_row _ _ _ _ _ _ this, ← Array.getElem?_toList, hya]
    exact hj
  obtain ⟨v', w', hrun, r1, r2, _⟩ := run_append_own (P := P) (w.alloc (.cells ya T)) B S o.type T i0 z k bb hS hi0 hz0 hz1 hz2 hz hpos v l.length (kCs enc l) (World.ownsRow.alloc hf _) ⟨w.heap.size, 0, none⟩ m c (kCs enc ts) (by rw [kCs_len hk, hm]) hnews (fun u hu => List.all_eq_true.1 h1 u hu) (by simp only [maxLen]; omega) hb (le_alloc hB _)
  unfold Oper.wp execOp
  simp only [ho, resolve, invoke, builtin, Sem.run_bind, Sem.run_pure, Result.andThen_ok, List.map_toArray, List.map_cons, List.map_nil, hs, hx, hrun]
  refine (h v' w' ?_ (((ba w _).mono hB).trans ((Below.refl _ _).grown r2 (le_alloc hB _) fun k hk => (World.ownsRow.lt hf k hk).1)))
  unfold KRow
  rw [kCs_append, List.length_append, ← hm]
  exact r1
/-- Several elements appended out of their literal, at a step of a region that draws its order: of old blocks, the row's own alone may have changed. -/
theorem step_append_ks2 {P : Program} {S : TypeId} {z : Value} {bb : Nat} (hS : P.underlying S = some (.slice T)) (hinfo : (P.info? T).map (fun i => (i.zero, i.size, i.bytes)) = some (some z, k, bb)) (hz : z.cells.size = k) (hpos : 0 < k) (hk : ∀ x, (enc x).size = k)
    {w : World} {ya : Array Value} {ops : Array Oper} {o : Oper} {a : Act} {K : Act → World → Prop} {Q : Exit → Act → World → Prop} {E : Prop} (hgd : o.guard = none) (s x : Operand)
    (ho : o.op = .call { callee := .builtin .append, args := #[s, x], argTypes := #[S, S] })
    {B m c g : Nat} {v : Value} {l : List α} (hs : a.eval s = v) (hx : a.eval x = .slice (some ⟨g, 0, none⟩) m c) (hg : g = w.heap.size) (hf : KRow enc k T w B v l) (hB : B ≤ w.heap.size) (ts : List α) (hm : m = ts.length) (hm0 : 0 < m) (hya : ya.toList = kCs enc ts)
    (h1 : (kCs enc ts).all (·.oneCell') = true) (hn : l.length + m ≤ 140737488355328) (hb : (l.length + m) * bb ≤ 140737488355328)
    (h : ∀ v' w', KRow enc k T w' B v' (l ++ ts) → Below B w w' → (∀ k, k < w.heap.size → some k ≠ v.ownBlock → w'.heap[k]? = w.heap[k]?) → K (a.put o.dst v') w') : if Region.wanted o (yielded ops a.tmps) = true then Oper.wp P o a (w.alloc (.cells ya T)) K Q else E := by
  have hw : Region.wanted o (yielded ops a.tmps) = true := by simp [Region.wanted, hgd]
  rw [if_pos hw]
  subst hg
  obtain ⟨i0, hi0, hz0, hz1, hz2⟩ := info_parts hinfo
  have hnews : ∀ j u, (kCs enc ts)[j]? = some u → (w.alloc (.cells ya T)).cell? ((⟨w.heap.size, 0, none⟩ : Addr).add j) = some u := by
    intro j u hj
    rw [Addr.add_lit, Nat.zero_add]
    have : (w.alloc (.cells ya T)).heap[w.heap.size]? = some (.cells ya T (0, 0)) := by
      show (w.heap.push _)[w.heap.size]? = _
      simp
    rw [cell_of_row _ _ _ _ _ _ this, ← Array.getElem?_toList, hya]
    exact hj
  obtain ⟨v', w', hrun, r1, r2, _⟩ := run_append_own (P := P) (w.alloc (.cells ya T)) B S o.type T i0 z k bb hS hi0 hz0 hz1 hz2 hz hpos v l.length (kCs enc l) (World.ownsRow.alloc hf _) ⟨w.heap.size, 0, none⟩ m c (kCs enc ts) (by rw [kCs_len hk, hm]) hnews (fun u hu => List.all_eq_true.1 h1 u hu) (by simp only [maxLen]; omega) hb (le_alloc hB _)
  unfold Oper.wp execOp
  simp only [ho, resolve, invoke, builtin, Sem.run_bind, Sem.run_pure, Result.andThen_ok, List.map_toArray, List.map_cons, List.map_nil, hs, hx, hrun]
  refine (h v' w' ?_ (((ba w _).mono hB).trans ((Below.refl _ _).grown r2 (le_alloc hB _) fun k hk => (World.ownsRow.lt hf k hk).1)) fun k hk hne => (r2.block k (by rw [World.size_alloc]; omega) hne).trans (Below.heap_alloc _ _ _ hk))
  unfold KRow
  rw [kCs_append, List.length_append, ← hm]
  exact r1
end

end Go.Proofs.Ytmbeaagpjpphhaa

namespace Go.Proofs.Ytmbeaagpjpphhaa
open Go Go.RowKit Go.Joins
set_option linter.unusedVariables false

section
variable {α : Type} {enc : α → Array Value} {k : Nat} {T : TypeId}

theorem kCs_take (hk : ∀ x, (enc x).size = k) (l : List α) (n : Nat) : kCs enc (l.take n) = (kCs enc l).take (n * k) := by
  induction l generalizing n with
  | nil => simp [kCs]
  | cons t l ih =>
    have e4 : (enc t).toList.length = k := by rw [Array.length_toList, hk]
    cases n with
    | zero => simp [kCs]
    | succ n =>
      have e5 : (n + 1) * k - k = n * k := by rw [Nat.add_mul]; omega
      have e6 : (enc t).toList.take ((n + 1) * k) = (enc t).toList := List.take_of_length_le (by rw [e4, Nat.add_mul]; omega)
      rw [List.take_succ_cons, kCs_cons, kCs_cons, ih, List.take_append, e4, e5, e6]
theorem kCs_drop (hk : ∀ x, (enc x).size = k) (l : List α) (n : Nat) : kCs enc (l.drop n) = (kCs enc l).drop (n * k) := by
  induction l generalizing n with
  | nil => simp [kCs]
  | cons t l ih =>
    have e4 : (enc t).toList.length = k := by rw [Array.length_toList, hk]
    cases n with
    | zero => simp
    | succ n =>
      have e5 : (n + 1) * k - k = n * k := by rw [Nat.add_mul]; omega
      have e6 : (enc t).toList.drop ((n + 1) * k) = [] := List.drop_of_length_le (by rw [e4, Nat.add_mul]; omega)
      rw [List.drop_succ_cons, kCs_cons, ih, List.drop_append, e4, e5, e6, List.nil_append]
theorem kCs_one (h1 : ∀ x, (enc x).toList.all (·.oneCell') = true) (l : List α) : ∀ u ∈ kCs enc l, u.oneCell' = true := by
  intro u hu
  unfold kCs at hu
  obtain ⟨t, _, hu⟩ := List.mem_flatMap.1 hu
  exact List.all_eq_true.1 (h1 t) u hu
theorem kCs_set1 (hk : ∀ x, (enc x).size = k) (l : List α) (j : Nat) (hj : j < l.length) (y : α) :
    kCs enc (l.set j y) = (kCs enc l).take (j * k) ++ (enc y).toList ++ (kCs enc l).drop (j * k + k) := by
  rw [List.set_eq_take_append_cons_drop, if_pos hj, kCs_append, kCs_cons, kCs_take hk, kCs_drop hk, List.append_assoc, show (j + 1) * k = j * k + k by rw [Nat.add_mul]; omega]
/-- The cells of a slice of elements that came in, from its address on. -/
theorem KArg.cells (hk : ∀ x, (enc x).size = k) (hpos : 0 < k) {w : World} {a : Addr} {n c : Nat} {l : List α} (h : KArg enc k w (.slice (some a) n c) l) : ∀ j u, (kCs enc l)[j]? = some u → w.cell? (a.add j) = some u := by
  intro j u hu
  obtain ⟨A, c', e, hA⟩ := h
  simp only [Value.slice.injEq] at e
  obtain ⟨rfl, rfl, rfl⟩ := e
  have hj : j < (kCs enc l).length := (List.getElem?_eq_some_iff.1 hu).1
  rw [kCs_len hk] at hj
  have h0 : 0 < l.length := by
    rcases Nat.eq_zero_or_pos l.length with h | h
    · rw [h, Nat.zero_mul] at hj; omega
    · exact h
  obtain ⟨g, o, e, hg, hc⟩ := hA h0
  injection e with e
  subst e
  have hq : j / k < l.length := Nat.div_lt_of_lt_mul (by rw [Nat.mul_comm]; exact hj)
  have hm : j % k < k := Nat.mod_lt _ hpos
  have hd : j / k * k + j % k = j := Nat.div_add_mod' j k
  have h2 := hc (j / k) hq (j % k) hm
  rw [Nat.add_assoc, hd] at h2
  rw [Addr.add_lit, h2, ← kCs_at hk l (j / k) hq (j % k) hm, hd]
  exact hu
theorem KArg.form {w : World} {v : Value} {l : List α} (h : KArg enc k w v l) : ∃ A c, v = .slice A l.length c := by
  obtain ⟨A, c, rfl, _⟩ := h; exact ⟨A, c, rfl⟩

theorem kCs_replicate (z : α) (hk : (enc z).size = k) (n : Nat) : (madeCells (enc z) (n * k)).toList = kCs enc (List.replicate n z) := by
  rcases Nat.eq_zero_or_pos k with h0 | h0
  · subst h0
    have : ∀ n, kCs enc (List.replicate n z) = [] := by
      intro n
      induction n with
      | zero => rfl
      | succ n ih => rw [List.replicate_succ, kCs_cons, ih]; simpa using Array.eq_empty_of_size_eq_zero hk
    rw [this]; simp [madeCells]
  apply List.ext_getElem?
  intro j
  have hx : (madeCells (enc z) (n * k)).toList[j]? = if j < n * k then some ((enc z)[j % k]!) else none := by
    unfold madeCells
    rw [hk]
    by_cases hj : j < n * k <;> simp [hj]
  rw [hx]
  have hlen : (kCs enc (List.replicate n z)).length = n * k := by
    clear hx
    induction n with
    | zero => simp [kCs]
    | succ n ih => rw [List.replicate_succ, kCs_cons, List.length_append, ih, Array.length_toList, hk, Nat.add_mul]; omega
  by_cases hj : j < n * k
  · rw [if_pos hj]
    have hm : j % k < k := Nat.mod_lt _ h0
    have hq : j / k < n := Nat.div_lt_of_lt_mul (by rw [Nat.mul_comm]; exact hj)
    have hd : j / k * k + j % k = j := Nat.div_add_mod' j k
    have key : ∀ (m q : Nat), q < m → (kCs enc (List.replicate m z))[q * k + j % k]? = (enc z)[j % k]? := by
      intro m
      induction m with
      | zero => intro q hq; omega
      | succ m ih =>
        intro q hq
        have e4 : (enc z).toList.length = k := by rw [Array.length_toList, hk]
        rw [List.replicate_succ, kCs_cons]
        cases q with
        | zero => rw [List.getElem?_append_left (by omega)]; simp
        | succ q =>
          rw [List.getElem?_append_right (by rw [Nat.add_mul]; omega), e4, show (q + 1) * k + j % k - k = q * k + j % k by rw [Nat.add_mul]; omega]
          exact ih q (by omega)
    have := key n (j / k) hq
    rw [hd] at this
    rw [this, getElem!_pos _ _ (by rw [hk]; exact hm), Array.getElem?_eq_getElem (by rw [hk]; exact hm)]
  · rw [if_neg hj, List.getElem?_eq_none (by omega)]

/-- 'make([]T, n)': n zero elements. -/
theorem wpList_make_k {P : Program} {S : TypeId} {zv : Value} {bb : Nat} (hS : P.underlying S = some (.slice T)) (hinfo : (P.info? T).map (fun i => (i.zero, i.size, i.bytes)) = some (some zv, k, bb)) (z : α) (hz : zv.cells = enc z) (hk : (enc z).size = k)
    {w : World} {ops : Array Oper} {rest : List Oper} {o : Oper} {a : Act} {Q : Exit → Act → World → Prop} (hgd : o.guard = none) (l c : Operand) (ho : o.op = .makeSlice S l c)
    {B n : Nat} {L C : Int} (hl : a.eval l = .int .i64 L) (hc : a.eval c = .int .i64 C) (hL : L = (n : Int)) (hC : C = (n : Int)) (hb : bb * n ≤ 281474976710656) (hn : n ≤ 140737488355328) (hB : B ≤ w.heap.size)
    (h : ∀ w', KRow enc k T w' B (.slice (some ⟨w.heap.size, 0, none⟩) n n) (List.replicate n z) → Below B w w' → wpList P ops Q rest (a.put o.dst (.slice (some ⟨w.heap.size, 0, none⟩) n n)) w') : wpList P ops Q (o :: rest) a w := by
  refine wpList_plain hgd fun K hK => ?_
  obtain ⟨i0, hi0, hz0, hz1, hz2⟩ := info_parts hinfo
  subst hL; subst hC
  obtain ⟨w', hrun, r1, r2⟩ := run_make_full (P := P) w B S T i0 zv k hS hi0 hz0 hz1 .i64 .i64 n (by rw [hz2]; exact hb) (by simp only [maxLen]; omega) hB
  unfold Oper.wp
  simp [execOp, ho, hl, hc, hrun, Result.andThen]
  refine hK _ _ (h w' ?_ ((Below.refl _ _).grown r2 hB fun k hk => by cases hk))
  rw [hz, kCs_replicate z hk] at r1
  unfold KRow
  rw [List.length_replicate]
  exact r1
/-- 'make([]T, 0, n)': no element, room for n. -/
theorem wpList_room_k {P : Program} {S : TypeId} {zv : Value} {bb : Nat} (hS : P.underlying S = some (.slice T)) (hinfo : (P.info? T).map (fun i => (i.zero, i.size, i.bytes)) = some (some zv, k, bb))
    {w : World} {ops : Array Oper} {rest : List Oper} {o : Oper} {a : Act} {Q : Exit → Act → World → Prop} (hgd : o.guard = none) (l c : Operand) (ho : o.op = .makeSlice S l c)
    {B n : Nat} {C : Int} (hl : a.eval l = .int .i64 0) (hc : a.eval c = .int .i64 C) (hC : C = (n : Int)) (hb : bb * n ≤ 281474976710656) (hn : n ≤ 140737488355328) (hB : B ≤ w.heap.size)
    (h : ∀ w', KRow enc k T w' B (.slice (some ⟨w.heap.size, 0, none⟩) 0 n) [] → Below B w w' → wpList P ops Q rest (a.put o.dst (.slice (some ⟨w.heap.size, 0, none⟩) 0 n)) w') : wpList P ops Q (o :: rest) a w := by
  refine wpList_plain hgd fun K hK => ?_
  obtain ⟨i0, hi0, hz0, hz1, hz2⟩ := info_parts hinfo
  subst hC
  obtain ⟨w', hrun, r1, r2⟩ := run_make_own (P := P) w B S T i0 zv k hS hi0 hz0 hz1 .i64 .i64 n (by rw [hz2]; exact hb) (by simp only [maxLen]; omega) hB
  unfold Oper.wp
  simp [execOp, ho, hl, hc, hrun, Result.andThen]
  exact hK _ _ (h w' r1 ((Below.refl _ _).grown r2 hB fun k hk => by cases hk))

theorem run_copy_k {P : Program} (w : World) {S T ty : TypeId} {sz : Nat} (hS : P.underlying S = some (.slice T)) (hs : (P.info? T).map (·.size) = some sz)
    (g o dLen dCap : Nat) (a : Addr) (sLen sCap : Nat) (cur : Array Value) (t : TypeId) (m : Nat) (cs : List Value)
    (hg : w.heap[g]? = some (.cells cur t (0, 0))) (hm : m = Nat.min sLen dLen) (hn : cs.length = m * sz)
    (hsrc : ∀ j v, cs[j]? = some v → w.cell? (a.add j) = some v) (hfit : o + cs.length ≤ cur.size) (h1 : ∀ v ∈ cs, v.oneCell' = true) :
    (Builtin.copy_ #[S, S] ty #[.slice (some ⟨g, o, none⟩) dLen dCap, .slice (some a) sLen sCap]).run P w =
      .ok (goInt m) (w.setRow g (cur.toList.take o ++ cs ++ cur.toList.drop (o + cs.length)).toArray) := by
  have hl := run_firstCells_some (P := P) w sz m a sLen sCap cs hn hsrc
  have hst := run_storeCells_at P g o t cs 0 cur w hg (by simpa using hfit) h1
  cases hq : P.info? T with
  | none => simp [hq] at hs
  | some i =>
    have hi : i.size = sz := by simpa [hq] using hs
    simp [Builtin.copy_, run_underlying hS, Builtin.lenOf, sizeOf, typeInfo, hq, hi, ← hm, hl, hst]
theorem run_copy_no {P : Program} (w : World) {S T ty : TypeId} {sz : Nat} (hS : P.underlying S = some (.slice T)) (hs : (P.info? T).map (·.size) = some sz)
    (dp sp : Option Addr) (dLen dCap sLen sCap : Nat) (hm : Nat.min sLen dLen = 0) :
    (Builtin.copy_ #[S, S] ty #[.slice dp dLen dCap, .slice sp sLen sCap]).run P w = .ok (goInt 0) w := by
  cases hq : P.info? T with
  | none => simp [hq] at hs
  | some i =>
    cases sp with
    | none => cases dp <;> simp [Builtin.copy_, run_underlying hS, Builtin.lenOf, Builtin.firstCells, sizeOf, typeInfo, hq, hm, storeCells]
    | some a =>
      have hl := run_firstCells_some (P := P) w i.size 0 a sLen sCap [] (by simp) (fun j v h => by simp at h)
      cases dp <;> simp [Builtin.copy_, run_underlying hS, Builtin.lenOf, sizeOf, typeInfo, hq, hm, hl, storeCells]
theorem take_splice {β : Type} (A Y : List β) (p M : Nat) (h : p + Y.length ≤ M) (hA : M ≤ A.length) :
    (A.take p ++ Y ++ A.drop (p + Y.length)).take M = (A.take M).take p ++ Y ++ (A.take M).drop (p + Y.length) := by
  have hp : (A.take p).length = p := by rw [List.length_take]; omega
  rw [List.take_append, List.take_of_length_le (by rw [List.length_append, hp]; exact h), List.take_take, Nat.min_eq_left (by omega), List.length_append, hp, List.drop_take]
/-- A row of the call's own, written over from a place on. -/
theorem KRow.splice (hk : ∀ x, (enc x).size = k) {w : World} {B g N cap off : Nat} {X Y : List α} (hX : KRow enc k T w B (.slice (some ⟨g, 0, none⟩) N cap) X) (hfit : off + Y.length ≤ X.length) :
    ∃ cur, w.heap[g]? = some (.cells cur T (0, 0)) ∧ B ≤ g ∧ off * k + (kCs enc Y).length ≤ cur.size ∧
      KRow enc k T (w.setRow g (cur.toList.take (off * k) ++ kCs enc Y ++ cur.toList.drop (off * k + (kCs enc Y).length)).toArray) B (.slice (some ⟨g, 0, none⟩) N cap) (X.take off ++ Y ++ X.drop (off + Y.length)) := by
  have hX0 := hX
  rcases hX.2 with ⟨h', _⟩ | ⟨g', cap', cur, h', hB, hg, hnc, hcm, hcs, htake⟩
  · simp at h'
  simp only [Value.slice.injEq, Option.some.injEq, Addr.mk.injEq, and_true] at h'
  obtain ⟨rfl, hN, rfl⟩ := h'
  have hY : (kCs enc Y).length = Y.length * k := kCs_len hk Y
  have hq1 : (off + Y.length) * k ≤ X.length * k := Nat.mul_le_mul_right k hfit
  have hq2 : X.length * k ≤ cap * k := Nat.mul_le_mul_right k hnc
  rw [Nat.add_mul] at hq1
  have hq3 : X.length * k ≤ cur.toList.length := by
    have e := Array.length_toList (xs := cur)
    omega
  have hlen : (X.take off ++ Y ++ X.drop (off + Y.length)).length = X.length := by
    simp only [List.length_append, List.length_take, List.length_drop]; omega
  refine ⟨cur, hg, hB, by rw [hcs, hY]; omega, ⟨by rw [kCs_len hk], .inr ⟨g, cap, _, by rw [hN, hlen], hB, setRow_heap w g _ _ T _ hg, by rw [hlen]; exact hnc, hcm, ?_, ?_⟩⟩⟩
  · rw [List.size_toArray]
    simp only [List.length_append, List.length_take, List.length_drop, Array.length_toList, hcs, hY]
    omega
  · rw [hlen]
    show ((cur.toList.take (off * k) ++ kCs enc Y ++ cur.toList.drop (off * k + (kCs enc Y).length))).take (X.length * k) = _
    rw [take_splice cur.toList (kCs enc Y) (off * k) (X.length * k) (by rw [hY]; exact hq1) hq3, htake, kCs_append, kCs_append, kCs_take hk, kCs_drop hk, hY, Nat.add_mul]
/-- 'copy' onto a row of the call's own, from place 'off' on. -/
theorem wpList_copy_k {P : Program} {S : TypeId} (hS : P.underlying S = some (.slice T)) (hsz : (P.info? T).map (·.size) = some k) (hpos : 0 < k) (hk : ∀ x, (enc x).size = k) (h1 : ∀ x, (enc x).toList.all (·.oneCell') = true)
    {w : World} {ops : Array Oper} {rest : List Oper} {o : Oper} {a : Act} {Q : Exit → Act → World → Prop} (hgd : o.guard = none) (d s : Operand)
    (ho : o.op = .call { callee := .builtin .copy, args := #[d, s], argTypes := #[S, S] })
    {dp : Option Addr} {dLen dCap : Nat} {sv : Value} (hd : a.eval d = .slice dp dLen dCap) (hs : a.eval s = sv)
    {B g N cap off : Nat} {X Y : List α} (hX : KRow enc k T w B (.slice (some ⟨g, 0, none⟩) N cap) X) (hY : KArg enc k w sv Y) (hle : Y.length ≤ dLen) (hfit : off + Y.length ≤ X.length) (hdp : 0 < Y.length → dp = some ⟨g, off * k, none⟩)
    (h : ∀ w', KRow enc k T w' B (.slice (some ⟨g, 0, none⟩) N cap) (X.take off ++ Y ++ X.drop (off + Y.length)) → Below B w w' → wpList P ops Q rest (a.put o.dst (goInt Y.length)) w') : wpList P ops Q (o :: rest) a w := by
  refine wpList_plain hgd fun K hK => ?_
  obtain ⟨A, c, rfl⟩ := hY.form
  have hmin : Nat.min Y.length dLen = Y.length := Nat.min_eq_left hle
  rcases Nat.eq_zero_or_pos Y.length with h0 | h0
  · have hY0 : Y = [] := List.eq_nil_of_length_eq_zero h0
    subst hY0
    have hrun := run_copy_no (P := P) (ty := o.type) w hS hsz dp A dLen dCap 0 c (by simp)
    unfold Oper.wp
    simp [execOp, ho, resolve, invoke, builtin, hd, hs, hrun, Result.andThen]
    refine hK _ _ (h w (by simpa using hX) (Below.refl _ _))
  · obtain ⟨cur, hg, hB, hfit2, hR⟩ := KRow.splice hk hX hfit
    have hA : ∃ ad, A = some ad := by
      obtain ⟨A', c', e, hA⟩ := hY
      simp only [Value.slice.injEq] at e
      obtain ⟨rfl, _, _⟩ := e
      obtain ⟨g', o', e, _⟩ := hA h0
      exact ⟨_, e⟩
    obtain ⟨ad, rfl⟩ := hA
    have hrun := run_copy_k (P := P) (ty := o.type) w hS hsz g (off * k) dLen dCap ad Y.length c cur T Y.length (kCs enc Y) hg hmin.symm (kCs_len hk Y) (hY.cells hk hpos) hfit2 (kCs_one h1 Y)
    rw [hdp h0] at hd
    unfold Oper.wp execOp
    simp only [ho, resolve, invoke, builtin, Sem.run_bind, Sem.run_pure, Result.andThen_ok, List.map_toArray, List.map_cons, List.map_nil, hd, hs, hrun]
    exact hK _ _ (h _ hR (below_setRow (Below.refl _ _) hB _))

/-- 'append(row, slice...)', the slice one that is read. -/
theorem wpList_append_arg {P : Program} {S : TypeId} {zv : Value} {bb : Nat} (hS : P.underlying S = some (.slice T)) (hinfo : (P.info? T).map (fun i => (i.zero, i.size, i.bytes)) = some (some zv, k, bb)) (hz : zv.cells.size = k) (hpos : 0 < k) (hk : ∀ x, (enc x).size = k) (h1 : ∀ x, (enc x).toList.all (·.oneCell') = true)
    {w : World} {ops : Array Oper} {rest : List Oper} {o : Oper} {a : Act} {Q : Exit → Act → World → Prop} (hgd : o.guard = none) (s x : Operand)
    (ho : o.op = .call { callee := .builtin .append, args := #[s, x], argTypes := #[S, S] })
    {B : Nat} {v sv : Value} {X Y : List α} (hs : a.eval s = v) (hx : a.eval x = sv) (hX : KRow enc k T w B v X) (hY : KArg enc k w sv Y) (hB : B ≤ w.heap.size) (hn : X.length + Y.length ≤ 140737488355328) (hb : (X.length + Y.length) * bb ≤ 140737488355328)
    (h : ∀ v' w', KRow enc k T w' B v' (X ++ Y) → Below B w w' → wpList P ops Q rest (a.put o.dst v') w') : wpList P ops Q (o :: rest) a w := by
  refine wpList_plain hgd fun K hK => ?_
  obtain ⟨i0, hi0, hz0, hz1, hz2⟩ := info_parts hinfo
  obtain ⟨A, c, rfl⟩ := hY.form
  cases A with
  | none =>
    have h0 : Y = [] := by
      obtain ⟨A', c', e, hA⟩ := hY
      simp only [Value.slice.injEq] at e
      obtain ⟨rfl, _, _⟩ := e
      rcases Nat.eq_zero_or_pos Y.length with h0 | h0
      · exact List.eq_nil_of_length_eq_zero h0
      · obtain ⟨g', o', e, _⟩ := hA h0
        cases e
    subst h0
    have hrun : (Builtin.append_ #[S, S] o.type #[v, .slice none ([] : List α).length c]).run P w = .ok v w := by
      rcases hX.2 with ⟨rfl, h0⟩ | ⟨g, cap, cur, rfl, _, _, hnc, _⟩
      · simp [Builtin.append_, run_underlying hS, sizeOf, typeInfo, hi0, Builtin.lenOf, Builtin.firstCells]
      · simp [Builtin.append_, run_underlying hS, sizeOf, typeInfo, hi0, Builtin.lenOf, Builtin.firstCells, hnc, storeCells]
    unfold Oper.wp execOp
    simp only [ho, resolve, invoke, builtin, Sem.run_bind, Sem.run_pure, Result.andThen_ok, List.map_toArray, List.map_cons, List.map_nil, hs, hx, hrun]
    exact hK _ _ (h v w (by rw [List.append_nil]; exact hX) (Below.refl _ _))
  | some ad =>
    obtain ⟨v', w', hrun, r1, r2, _⟩ := run_append_own (P := P) w B S o.type T i0 zv k bb hS hi0 hz0 hz1 hz2 hz hpos v X.length (kCs enc X) hX ad Y.length c (kCs enc Y) (kCs_len hk Y) (hY.cells hk hpos) (kCs_one h1 Y) (by simp only [maxLen]; omega) hb hB
    unfold Oper.wp execOp
    simp only [ho, resolve, invoke, builtin, Sem.run_bind, Sem.run_pure, Result.andThen_ok, List.map_toArray, List.map_cons, List.map_nil, hs, hx, hrun]
    refine hK _ _ (h v' w' ?_ ((Below.refl _ _).grown r2 hB fun k hk => (KRow.lt hX k hk).1))
    unfold KRow
    rw [kCs_append, List.length_append]
    exact r1

/-- The first n elements of a row: the same block, cut. -/
theorem KRow.first (hk : ∀ x, (enc x).size = k) {w : World} {B g N cap n : Nat} {X : List α} (h : KRow enc k T w B (.slice (some ⟨g, 0, none⟩) N cap) X) (hn : n ≤ X.length) : KRow enc k T w B (.slice (some ⟨g, 0, none⟩) n cap) (X.take n) := by
  rcases h.2 with ⟨h', _⟩ | ⟨g', cap', cur, h', hB, hg, hnc, hcm, hcs, htake⟩
  · simp at h'
  simp only [Value.slice.injEq, Option.some.injEq, Addr.mk.injEq, and_true] at h'
  obtain ⟨rfl, hN, rfl⟩ := h'
  have hl : (X.take n).length = n := by rw [List.length_take]; omega
  refine ⟨kCs_len hk _, .inr ⟨g, cap, cur, by rw [hl], hB, hg, by omega, hcm, hcs, ?_⟩⟩
  rw [hl, kCs_take hk, ← htake, List.take_take, Nat.min_eq_left (Nat.mul_le_mul_right k hn)]
/-- The length of a row, and its room, off its value. -/
theorem KRow.len {w : World} {B g N cap : Nat} {X : List α} (h : KRow enc k T w B (.slice (some ⟨g, 0, none⟩) N cap) X) : N = X.length ∧ N ≤ cap ∧ B ≤ g ∧ g < w.heap.size := by
  rcases h.2 with ⟨h', _⟩ | ⟨g', cap', cur, h', hB, hg, hnc, hcm, hcs, htake⟩
  · simp at h'
  simp only [Value.slice.injEq, Option.some.injEq, Addr.mk.injEq, and_true] at h'
  obtain ⟨rfl, hN, rfl⟩ := h'
  exact ⟨hN, by omega, hB, (Array.getElem?_eq_some_iff.1 hg).1⟩
/-- One cell of an element stored. -/
theorem KRow.cellSet (hk : ∀ x, (enc x).size = k) {w : World} {B g N cap : Nat} {X : List α} (h : KRow enc k T w B (.slice (some ⟨g, 0, none⟩) N cap) X) (j i : Nat) (hj : j < X.length) (hi : i < k) (u : Value) (y : α) (hy : enc y = (enc X[j]).setIfInBounds i u) :
    KRow enc k T (w.setCell ⟨g, j * k + i, none⟩ u) B (.slice (some ⟨g, 0, none⟩) N cap) (X.set j y) := by
  obtain ⟨rfl, _⟩ := h.len
  have h1 := (World.ownsRow.stored h (j * k + i) u).1
  unfold KRow
  rw [List.length_set]
  have e : (kCs enc X).set (j * k + i) u = kCs enc (X.set j y) := by
    rw [kCs_set1 hk X j hj y, hy]
    apply List.ext_getElem?
    intro q
    have hc : j * k + k ≤ X.length * k := by have := Nat.mul_le_mul_right k (show j + 1 ≤ X.length from hj); rw [Nat.add_mul, Nat.one_mul] at this; exact this
    have hL := kCs_len hk X
    have hA : ((kCs enc X).take (j * k)).length = j * k := by rw [List.length_take]; omega
    have hE : ((enc X[j]).setIfInBounds i u).toList.length = k := by simp [hk]
    rw [List.getElem?_set]
    by_cases c1 : q < j * k
    · rw [if_neg (by omega), List.append_assoc, List.getElem?_append_left (by omega), List.getElem?_take, if_pos c1]
    · by_cases c2 : q < j * k + k
      · rw [List.getElem?_append_left (by rw [List.length_append]; omega), List.getElem?_append_right (by omega), hA]
        have hq : q = j * k + (q - j * k) := by omega
        have hat := kCs_at hk X j hj (q - j * k) (by omega)
        rw [← hq] at hat
        rw [hat, Array.getElem?_toList, Array.getElem?_setIfInBounds]
        by_cases c3 : j * k + i = q
        · rw [if_pos c3, if_pos (by rw [hL]; omega), if_pos (by omega), if_pos (by rw [hk]; omega)]
        · rw [if_neg c3, if_neg (by omega)]
      · rw [if_neg (by omega), List.getElem?_append_right (by rw [List.length_append]; omega), List.length_append, hA, hE, List.getElem?_drop]
        congr 1
        omega
  rw [← e]
  exact h1
end

end Go.Proofs.Ytmbeaagpjpphhaa

namespace Go.Proofs.Ytmbeaagpjpphhaa
open Go Go.RowKit Go.Joins
set_option linter.unusedVariables false

section
variable {α : Type} {enc : α → Array Value} {k : Nat} {T : TypeId}
theorem append_arg_run {P : Program} {S ty : TypeId} {zv : Value} {bb : Nat} (hS : P.underlying S = some (.slice T)) (hinfo : (P.info? T).map (fun i => (i.zero, i.size, i.bytes)) = some (some zv, k, bb)) (hz : zv.cells.size = k) (hpos : 0 < k) (hk : ∀ x, (enc x).size = k) (h1 : ∀ x, (enc x).toList.all (·.oneCell') = true)
    {w : World} {B : Nat} {v sv : Value} {X Y : List α} (hX : KRow enc k T w B v X) (hY : KArg enc k w sv Y) (hB : B ≤ w.heap.size) (hn : X.length + Y.length ≤ 140737488355328) (hb : (X.length + Y.length) * bb ≤ 140737488355328) :
    ∃ v' w', (Builtin.append_ #[S, S] ty #[v, sv]).run P w = .ok v' w' ∧ KRow enc k T w' B v' (X ++ Y) ∧ Below B w w' ∧ (∀ k, k < w.heap.size → some k ≠ v.ownBlock → w'.heap[k]? = w.heap[k]?) := by
  obtain ⟨i0, hi0, hz0, hz1, hz2⟩ := info_parts hinfo
  obtain ⟨A, c, rfl⟩ := hY.form
  cases A with
  | none =>
    have h0 : Y = [] := by
      obtain ⟨A', c', e, hA⟩ := hY
      simp only [Value.slice.injEq] at e
      obtain ⟨rfl, _, _⟩ := e
      rcases Nat.eq_zero_or_pos Y.length with h0 | h0
      · exact List.eq_nil_of_length_eq_zero h0
      · obtain ⟨g', o', e, _⟩ := hA h0
        cases e
    subst h0
    have hrun : (Builtin.append_ #[S, S] ty #[v, .slice none ([] : List α).length c]).run P w = .ok v w := by
      rcases hX.2 with ⟨rfl, h0⟩ | ⟨g, cap, cur, rfl, _, _, hnc, _⟩
      · simp [Builtin.append_, run_underlying hS, sizeOf, typeInfo, hi0, Builtin.lenOf, Builtin.firstCells]
      · simp [Builtin.append_, run_underlying hS, sizeOf, typeInfo, hi0, Builtin.lenOf, Builtin.firstCells, hnc, storeCells]
    exact ⟨v, w, hrun, by rw [List.append_nil]; exact hX, Below.refl _ _, fun _ _ _ => rfl⟩
  | some ad =>
    obtain ⟨v', w', hrun, r1, r2, _⟩ := run_append_own (P := P) w B S ty T i0 zv k bb hS hi0 hz0 hz1 hz2 hz hpos v X.length (kCs enc X) hX ad Y.length c (kCs enc Y) (kCs_len hk Y) (hY.cells hk hpos) (kCs_one h1 Y) (by simp only [maxLen]; omega) hb hB
    refine ⟨v', w', hrun, ?_, ((Below.refl _ _).grown r2 hB fun k hk => (KRow.lt hX k hk).1), fun k hk hne => r2.block k hk hne⟩
    unfold KRow
    rw [kCs_append, List.length_append]
    exact r1
theorem step_append_arg {P : Program} {S : TypeId} {zv : Value} {bb : Nat} (hS : P.underlying S = some (.slice T)) (hinfo : (P.info? T).map (fun i => (i.zero, i.size, i.bytes)) = some (some zv, k, bb)) (hz : zv.cells.size = k) (hpos : 0 < k) (hk : ∀ x, (enc x).size = k) (h1 : ∀ x, (enc x).toList.all (·.oneCell') = true)
    {w : World} {ops : Array Oper} {o : Oper} {a : Act} {K : Act → World → Prop} {Q : Exit → Act → World → Prop} {E : Prop} (hgd : o.guard = none) (s x : Operand)
    (ho : o.op = .call { callee := .builtin .append, args := #[s, x], argTypes := #[S, S] })
    {B : Nat} {v sv : Value} {X Y : List α} (hs : a.eval s = v) (hx : a.eval x = sv) (hX : KRow enc k T w B v X) (hY : KArg enc k w sv Y) (hB : B ≤ w.heap.size) (hn : X.length + Y.length ≤ 140737488355328) (hb : (X.length + Y.length) * bb ≤ 140737488355328)
    (h : ∀ v' w', KRow enc k T w' B v' (X ++ Y) → Below B w w' → (∀ k, k < w.heap.size → some k ≠ v.ownBlock → w'.heap[k]? = w.heap[k]?) → K (a.put o.dst v') w') : if Region.wanted o (yielded ops a.tmps) = true then Oper.wp P o a w K Q else E := by
  have hw : Region.wanted o (yielded ops a.tmps) = true := by simp [Region.wanted, hgd]
  rw [if_pos hw]
  obtain ⟨v', w', hrun, r1, r2, r3⟩ := append_arg_run (P := P) (ty := o.type) hS hinfo hz hpos hk h1 hX hY hB hn hb
  unfold Oper.wp execOp
  simp only [ho, resolve, invoke, builtin, Sem.run_bind, Sem.run_pure, Result.andThen_ok, List.map_toArray, List.map_cons, List.map_nil, hs, hx, hrun]
  exact h v' w' r1 r2 r3
end

end Go.Proofs.Ytmbeaagpjpphhaa

namespace Go.Proofs.Ytmbeaagpjpphhaa
open Go Go.RowKit
set_option linter.unusedVariables false
set_option linter.unusedSimpArgs false

/-- Of old blocks, those of X alone may have changed. -/
structure Kp (X : List Nat) (w w' : World) : Prop where
  os : w'.os = w.os
  tape : w'.tape = w.tape
  output : w'.output = w.output
  size : w.heap.size ≤ w'.heap.size
  block : ∀ k, k < w.heap.size → k ∉ X → w'.heap[k]? = w.heap[k]?
theorem Kp.refl (X : List Nat) (w : World) : Kp X w w := ⟨rfl, rfl, rfl, Nat.le_refl _, fun _ _ _ => rfl⟩
theorem Kp.trans {X : List Nat} {a b c : World} (h : Kp X a b) (k : Kp X b c) : Kp X a c :=
  ⟨k.os.trans h.os, k.tape.trans h.tape, k.output.trans h.output, Nat.le_trans h.size k.size, fun i hi hx => (k.block i (Nat.lt_of_lt_of_le hi h.size) hx).trans (h.block i hi hx)⟩
theorem Kp.mono {X Y : List Nat} {a b : World} (h : Kp X a b) (hs : ∀ k, k < a.heap.size → k ∈ X → k ∈ Y) : Kp Y a b :=
  ⟨h.os, h.tape, h.output, h.size, fun i hi hy => h.block i hi fun hx => hy (hs i hi hx)⟩
theorem Kp.of_below {X : List Nat} {w w' : World} (h : Below w.heap.size w w') : Kp X w w' := ⟨h.os, h.tape, h.output, h.size, fun k hk _ => h.block k hk⟩
theorem Kp.then_below {X : List Nat} {a w w' : World} (h : Kp X a w) (hb : Below w.heap.size w w') : Kp X a w' := h.trans (Kp.of_below hb)
theorem Kp.then_old {X : List Nat} {a w w' : World} (h : Kp X a w) (hb : Below a.heap.size w w') : Kp X a w' := ⟨hb.os.trans h.os, hb.tape.trans h.tape, hb.output.trans h.output, Nat.le_trans h.size hb.size, fun k hk hx => (hb.block k hk).trans (h.block k hk hx)⟩
theorem Kp.setCell {X : List Nat} {a w : World} (h : Kp X a w) {p : Addr} (hp : p.block ∈ X ∨ a.heap.size ≤ p.block) (u : Value) : Kp X a (w.setCell p u) :=
  ⟨h.os, h.tape, h.output, by rw [World.size_setCell]; exact h.size, fun k hk hx => (Below.heap_setCell _ _ _ _ (fun e => by subst e; rcases hp with hp | hp; exact hx hp; omega)).trans (h.block k hk hx)⟩
theorem Kp.drew {X : List Nat} {a w : World} (h : Kp X a w) : Kp X a w.drew := ⟨h.os, h.tape, h.output, h.size, h.block⟩
theorem Kp.drewN {X : List Nat} {a w : World} (h : Kp X a w) (n : Nat) : Kp X a (w.drewN n) := ⟨h.os, h.tape, h.output, h.size, h.block⟩
theorem Kp.alloc {X : List Nat} {a w : World} (h : Kp X a w) (o : Obj) : Kp X a (w.alloc o) := h.then_below (ba w o)
theorem Kp.below {X : List Nat} {B : Nat} {w w' : World} (h : Kp X w w') (hX : ∀ k ∈ X, B ≤ k) (hB : B ≤ w.heap.size) : Below B w w' :=
  ⟨h.os, h.tape, h.output, h.size, fun k hk => h.block k (Nat.lt_of_lt_of_le hk hB) fun hx => by have := hX k hx; omega⟩
theorem Kp.old {X : List Nat} {w w' : World} (h : Kp X w w') (hX : ∀ k ∈ X, w.heap.size ≤ k) : Below w.heap.size w w' := h.below hX (Nat.le_refl _)
theorem Kp.row {X : List Nat} {w w' : World} (h : Kp X w w') {b : Nat} {T : TypeId} {cs : Array Value} (hr : RowAt w b T cs) (hb : b ∉ X) : RowAt w' b T cs := by
  unfold RowAt at *; rw [h.block b (Array.getElem?_eq_some_iff.1 hr).1 hb]; exact hr
theorem Kp.cell {X : List Nat} {w w' : World} (h : Kp X w w') {p : Addr} (hp : p.block < w.heap.size) (hx : p.block ∉ X) : w'.cell? p = w.cell? p := World.cell?_of_block (w := w) (h.block p.block hp hx)
theorem Kp.one {X : List Nat} {w w' : World} (h : Kp [] w w') : Kp X w w' := h.mono fun _ _ hx => by cases hx
theorem KRow.kp {α : Type} {enc : α → Array Value} {k : Nat} {T : TypeId} {X : List Nat} {w w' : World} {B : Nat} {v : Value} {l : List α} (h : KRow enc k T w B v l) (hk : Kp X w w') (hX : ∀ g, v.ownBlock = some g → g ∉ X) : KRow enc k T w' B v l := by
  have hlt := h.lt
  obtain ⟨hl, h⟩ := h
  refine ⟨hl, ?_⟩
  rcases h with h | ⟨g, cap, cur, rfl, hB, hc, h1⟩
  · exact .inl h
  · have hg := hlt g rfl
    exact .inr ⟨g, cap, cur, rfl, hB, (hk.block g hg.2 (hX g rfl)).trans hc, h1⟩
/-- A box of one cell. -/
theorem RowAt.get1 {w : World} {b : Nat} {T : TypeId} {v : Value} (h : RowAt w b T #[v]) : w.cell? ⟨b, 0, none⟩ = some v := h.cell 0
theorem RowAt.set1 {w : World} {b : Nat} {T : TypeId} {v : Value} (h : RowAt w b T #[v]) (u : Value) : RowAt (w.setCell ⟨b, 0, none⟩ u) b T #[u] := h.set 0 u
theorem RowAt.ne {w w' : World} {b c : Nat} {T U : TypeId} {x y : Array Value} (h : RowAt w b T x) (hc : w.heap.size ≤ c) : b ≠ c := by have := h.lt; omega

/-- A whole store into a row of the call's own: no other block has changed. -/
theorem wpList_store_kp {P : Program} {ops : Array Oper} {rest : List Oper} {o : Oper} {a : Act} {w : World} {Q : Exit → Act → World → Prop} {b : Nat} {T : TypeId} {old : Array Value} (h : RowAt w b T old)
    (cells : Array Value) (x y : Operand) (ty : TypeId) (hgd : o.guard = none) (ho : o.op = .store ty x y) (hx : a.eval x = .pointer (some ⟨b, 0, none⟩)) (hy : a.eval y = .agg cells)
    (hi : (P.info? ty).map (·.size) = some cells.size) (hold : old.size = cells.size) (h1 : cells.toList.all (·.oneCell') = true)
    (hk : ∀ w', RowAt w' b T cells → Kp [b] w w' → wpList P ops Q rest (a.put o.dst undef) w') : wpList P ops Q (o :: rest) a w := by
  have h2 := (below_setRow (Below.refl b w) (Nat.le_refl b) cells)
  refine wpList_store_row hgd ty x y ho b cells hx hy T old h hi hold (by simpa using h1) (hk _ (setRow_heap w b old cells T (0, 0) h) ⟨h2.os, h2.tape, h2.output, h2.size, fun k hk hne => ?_⟩)
  unfold World.setRow
  rw [Array.getElem?_modify, if_neg (fun e => hne (by simp [e]))]

end Go.Proofs.Ytmbeaagpjpphhaa

namespace Go.Proofs.Ytmbeaagpjpphhaa
namespace Sb
open Go.RowKit
set_option linter.unusedVariables false
set_option linter.unusedSimpArgs false

theorem okb_long {s : ByteArray} (h : 65536 < s.size) : okB s.data.toList = false := okB_long (by rw [← size_len]; exact h)
theorem okb_bad {s : ByteArray} (j : Nat) (hj : j < s.size) (h : s[j].toNat ≠ 48) (h' : s[j].toNat ≠ 49) : okB s.data.toList = false :=
  okB_bad j (by rw [← size_len]; exact hj) h h'
theorem okb_all {s : ByteArray} (h : s.size ≤ 65536) (h' : ∀ j (hj : j < s.size), s[j].toNat = 48 ∨ s[j].toNat = 49) : okB s.data.toList = true :=
  okB_all (by rw [← size_len]; exact h) fun j hj => h' j (by rw [size_len]; exact hj)

set_option maxHeartbeats 1000000 in
theorem valid_any (s : ByteArray) (w : World) (hs : s.size ≤ 140737488351232) :
    Calls Try.prog 91 #[.string s] w fun e w' => e = .returned (.bool (okB s.data.toList)) ∧ w = w' := by
  have hs' : (s.size : Int) ≤ 140737488351232 := by omega
  by_cases hbig : 65536 < s.size
  · have HB := Lib.hid (okb_long hbig)
    go_enter Try.func91, Try.ntmps91
    go_wp2
    go_returns
    exact ⟨ret_bool HB.out.symm, rfl⟩
  · have HBad := Lib.hid (@okb_bad s)
    have HAll := Lib.hid (okb_all (s := s) (by omega))
    go_enter Try.func91, Try.ntmps91
    go_wp2
    go_loop [9] (fun x => ∃ k : Nat, k ≤ s.size ∧ x = .int .i64 k ∧ Hid (∀ j (hj : j < s.size), j < k → s[j].toNat = 48 ∨ s[j].toNat = 49)) (fun x => s.size - (intOf x).toNat)
    case atStart => exact ⟨0, by omega, rfl, fun j hj h => by omega⟩
    case round =>
      obtain ⟨k, hk, rfl, HC⟩ := hrel
      by_cases he : k = s.size
      · have HT := Lib.hid (HAll.out fun j hj => HC.out j hj (by omega))
        go_wp2
        go_returns
        exact ⟨ret_bool HT.out.symm, rfl⟩
      · have hlt : k < s.size := by omega
        go_wp2
        all_goals first
          | (go_returns
             exact ⟨ret_bool (HBad.out k hlt (by (first | omega | (simp only [beq_iff_eq, beq_eq_false_iff_ne, bne_iff_ne, ne_eq, bne_eq_false_iff_eq] at *; omega))) (by (first | omega | (simp only [beq_iff_eq, beq_eq_false_iff_ne, bne_iff_ne, ne_eq, bne_eq_false_iff_eq] at *; omega)))).symm, rfl⟩)
          | (have hb : s[k].toNat = 48 ∨ s[k].toNat = 49 := by (first | omega | (simp only [beq_iff_eq, beq_eq_false_iff_ne, bne_iff_ne, ne_eq, bne_eq_false_iff_eq] at *; omega))
             go_round
             case rel => exact ⟨k + 1, by omega, by go_num, fun j hj hjk => by
               rcases Nat.lt_or_ge j k with h | h
               · exact HC.out j hj h
               · obtain rfl : j = k := by omega
                 exact hb⟩
             case measure => simp [intOf]; omega)

set_option maxHeartbeats 1000000 in
theorem rvalid_any (s : ByteArray) (w : World) (hs : s.size ≤ 140737488351232) :
    Calls Try.prog 102 #[.string s] w fun e w' => e = .returned (.bool (okB s.data.toList)) ∧ w = w' := by
  have hs' : (s.size : Int) ≤ 140737488351232 := by omega
  by_cases hbig : 65536 < s.size
  · have HB := Lib.hid (okb_long hbig)
    go_enter Try.func102, Try.ntmps102
    go_wp2
    go_returns
    exact ⟨ret_bool HB.out.symm, rfl⟩
  · have HBad := Lib.hid (@okb_bad s)
    have HAll := Lib.hid (okb_all (s := s) (by omega))
    go_enter Try.func102, Try.ntmps102
    go_wp2
    go_loop [3] (fun x => ∃ k : Nat, k ≤ s.size ∧ x = .int .i64 k ∧ Hid (∀ j (hj : j < s.size), j < k → s[j].toNat = 48 ∨ s[j].toNat = 49)) (fun x => s.size - (intOf x).toNat)
    case atStart => exact ⟨0, by omega, rfl, fun j hj h => by omega⟩
    case round =>
      obtain ⟨k, hk, rfl, HC⟩ := hrel
      by_cases he : k = s.size
      · have HT := Lib.hid (HAll.out fun j hj => HC.out j hj (by omega))
        go_wp2
        go_returns
        exact ⟨ret_bool HT.out.symm, rfl⟩
      · have hlt : k < s.size := by omega
        go_wp2
        all_goals first
          | (go_returns
             exact ⟨ret_bool (HBad.out k hlt (by (first | omega | (simp only [beq_iff_eq, beq_eq_false_iff_ne, bne_iff_ne, ne_eq, bne_eq_false_iff_eq] at *; omega))) (by (first | omega | (simp only [beq_iff_eq, beq_eq_false_iff_ne, bne_iff_ne, ne_eq, bne_eq_false_iff_eq] at *; omega)))).symm, rfl⟩)
          | (have hb : s[k].toNat = 48 ∨ s[k].toNat = 49 := by (first | omega | (simp only [beq_iff_eq, beq_eq_false_iff_ne, bne_iff_ne, ne_eq, bne_eq_false_iff_eq] at *; omega))
             go_round
             case rel => exact ⟨k + 1, by omega, by go_num, fun j hj hjk => by
               rcases Nat.lt_or_ge j k with h | h
               · exact HC.out j hj h
               · obtain rfl : j = k := by omega
                 exact hb⟩
             case measure => simp [intOf]; omega)

end Sb
end Go.Proofs.Ytmbeaagpjpphhaa

namespace Go.Proofs.Ytmbeaagpjpphhaa
namespace Sw
open Go Go.RowKit Go.Joins
set_option linter.unusedVariables false
set_option linter.unusedSimpArgs false

def rnC (s : Rn) : Array Value := #[.int .i64 s.1, .int .i64 s.2]
def rnV (s : Rn) : Value := .agg (rnC s)
theorem rnC_size (s : Rn) : (rnC s).size = 2 := rfl
theorem rnC_one (s : Rn) : (rnC s).toList.all (·.oneCell') = true := rfl
abbrev RnRow (w : World) (B : Nat) (v : Value) (l : List Rn) : Prop := KRow rnC 2 50 w B v l
abbrev RnArg (w : World) (v : Value) (l : List Rn) : Prop := KArg rnC 2 w v l
def inC (x : Int) : Array Value := #[.int .i64 x]
theorem inC_size (x : Int) : (inC x).size = 1 := rfl
theorem inC_one (x : Int) : (inC x).toList.all (·.oneCell') = true := rfl
abbrev InRow (w : World) (B : Nat) (v : Value) (l : List Int) : Prop := KRow inC 1 3 w B v l
abbrev InArg (w : World) (v : Value) (l : List Int) : Prop := KArg inC 1 w v l

theorem run_info : (Try.prog.info? 50).map (fun i => (i.zero, i.size, i.bytes)) = some (some (.agg #[.int .i64 0, .int .i64 0]), 2, 16) := by kernel_rfl
theorem run_size : (Try.prog.info? 50).map (·.size) = some 2 := by kernel_rfl
theorem int_info : (Try.prog.info? 3).map (fun i => (i.zero, i.size, i.bytes)) = some (some (.int .i64 0), 1, 8) := by kernel_rfl
/-- A run appended, out of its literal. -/
theorem wpList_append_rn {w : World} {ops : Array Oper} {rest : List Oper} {o : Oper} {a : Act} {Q : Exit → Act → World → Prop} (hgd : o.guard = none) (s x : Operand)
    (ho : o.op = .call { callee := .builtin .append, args := #[s, x], argTypes := #[27, 27] })
    {B c : Nat} {v : Value} {l : List Rn} {g : Nat} {X Y : Int} {ya : Array Value} (hya : ya = #[.int .i64 X, .int .i64 Y]) (hs : a.eval s = v) (hx : a.eval x = .slice (some ⟨g, 0, none⟩) 1 c) (hg : g = w.heap.size) (hf : RnRow w B v l) (hB : B ≤ w.heap.size) (hn : l.length + 1 ≤ 4398046511104)
    (h : ∀ v' w', RnRow w' B v' (l ++ [(X, Y)]) → Below B w w' → wpList Try.prog ops Q rest (a.put o.dst v') w') : wpList Try.prog ops Q (o :: rest) a (w.alloc (.cells ya 50)) :=
  wpList_append_k (P := Try.prog) Try.underlying27 run_info rfl (by omega) rnC_size hgd s x ho (X, Y) hya hs hx hg hf hB (by subst hya; rfl) (by omega) (by omega) h
/-- A number appended, out of its literal. -/
theorem wpList_append_in {w : World} {ops : Array Oper} {rest : List Oper} {o : Oper} {a : Act} {Q : Exit → Act → World → Prop} (hgd : o.guard = none) (s x : Operand)
    (ho : o.op = .call { callee := .builtin .append, args := #[s, x], argTypes := #[54, 54] })
    {B c : Nat} {v : Value} {l : List Int} {g : Nat} {X : Int} {ya : Array Value} (hya : ya = #[.int .i64 X]) (hs : a.eval s = v) (hx : a.eval x = .slice (some ⟨g, 0, none⟩) 1 c) (hg : g = w.heap.size) (hf : InRow w B v l) (hB : B ≤ w.heap.size) (hn : l.length + 1 ≤ 4398046511104)
    (h : ∀ v' w', InRow w' B v' (l ++ [X]) → Below B w w' → wpList Try.prog ops Q rest (a.put o.dst v') w') : wpList Try.prog ops Q (o :: rest) a (w.alloc (.cells ya 3)) :=
  wpList_append_k (P := Try.prog) Try.underlying54 int_info rfl (by omega) inC_size hgd s x ho X hya hs hx hg hf hB (by subst hya; rfl) (by omega) (by omega) h
/-- The same; of old blocks, the row's own alone may have changed. -/
theorem wpList_append_in2 {w : World} {ops : Array Oper} {rest : List Oper} {o : Oper} {a : Act} {Q : Exit → Act → World → Prop} (hgd : o.guard = none) (s x : Operand)
    (ho : o.op = .call { callee := .builtin .append, args := #[s, x], argTypes := #[54, 54] })
    {B c : Nat} {v : Value} {l : List Int} {g : Nat} {X : Int} {ya : Array Value} (hya : ya = #[.int .i64 X]) (hs : a.eval s = v) (hx : a.eval x = .slice (some ⟨g, 0, none⟩) 1 c) (hg : g = w.heap.size) (hf : InRow w B v l) (hB : B ≤ w.heap.size) (hn : l.length + 1 ≤ 4398046511104)
    (h : ∀ v' w', InRow w' B v' (l ++ [X]) → Below B w w' → (∀ k, k < w.heap.size → some k ≠ v.ownBlock → w'.heap[k]? = w.heap[k]?) → wpList Try.prog ops Q rest (a.put o.dst v') w') : wpList Try.prog ops Q (o :: rest) a (w.alloc (.cells ya 3)) :=
  wpList_append_k2 (P := Try.prog) Try.underlying54 int_info rfl (by omega) inC_size hgd s x ho X hya hs hx hg hf hB (by subst hya; rfl) (by omega) (by omega) h
theorem wpList_append_rn2 {w : World} {ops : Array Oper} {rest : List Oper} {o : Oper} {a : Act} {Q : Exit → Act → World → Prop} (hgd : o.guard = none) (s x : Operand)
    (ho : o.op = .call { callee := .builtin .append, args := #[s, x], argTypes := #[27, 27] })
    {B c : Nat} {v : Value} {l : List Rn} {g : Nat} {X Y : Int} {ya : Array Value} (hya : ya = #[.int .i64 X, .int .i64 Y]) (hs : a.eval s = v) (hx : a.eval x = .slice (some ⟨g, 0, none⟩) 1 c) (hg : g = w.heap.size) (hf : RnRow w B v l) (hB : B ≤ w.heap.size) (hn : l.length + 1 ≤ 4398046511104)
    (h : ∀ v' w', RnRow w' B v' (l ++ [(X, Y)]) → Below B w w' → (∀ k, k < w.heap.size → some k ≠ v.ownBlock → w'.heap[k]? = w.heap[k]?) → wpList Try.prog ops Q rest (a.put o.dst v') w') : wpList Try.prog ops Q (o :: rest) a (w.alloc (.cells ya 50)) :=
  wpList_append_k2 (P := Try.prog) Try.underlying27 run_info rfl (by omega) rnC_size hgd s x ho (X, Y) hya hs hx hg hf hB (by subst hya; rfl) (by omega) (by omega) h
/-- The two cells of an element that is read. -/
theorem arg_two {w : World} {g o : Nat} {l : List Rn} (h : ∀ j (hj : j < l.length) i, i < 2 → w.cell? ⟨g, o + j * 2 + i, none⟩ = (rnC l[j])[i]?) (j : Nat) (hj : j < l.length) : w.cell? ⟨g, o + j * 2, none⟩ = some (.int .i64 l[j].1) ∧ w.cell? ⟨g, o + j * 2 + 1, none⟩ = some (.int .i64 l[j].2) :=
  ⟨h j hj 0 (by omega), h j hj 1 (by omega)⟩
theorem arg_int {w : World} {g o : Nat} {l : List Int} (h : ∀ j (hj : j < l.length) i, i < 1 → w.cell? ⟨g, o + j * 1 + i, none⟩ = (inC l[j])[i]?) (j : Nat) (hj : j < l.length) : w.cell? ⟨g, o + j, none⟩ = some (.int .i64 l[j]) := by
  have := h j hj 0 (by omega)
  rwa [Nat.mul_one] at this

set_option maxHeartbeats 1000000 in
theorem isLevel_any (n : Int) (w : World) : Calls Try.prog 123 #[.int .i64 n] w fun e w' => e = .returned (.bool (decide (n = 0 ∨ n = 1))) ∧ w = w' := by
  by_cases h0 : n = 0
  · subst h0
    go_enter Try.func123, Try.ntmps123
    go_wp2
    go_returns
    exact ⟨rfl, rfl⟩
  by_cases h1 : n = 1
  · subst h1
    go_enter Try.func123, Try.ntmps123
    go_wp2
    go_returns
    exact ⟨rfl, rfl⟩
  have e0 : (n == 0) = false := by simpa using h0
  have e1 : (n == 1) = false := by simpa using h1
  have H := Lib.hid (show decide (n = 0 ∨ n = 1) = false from decide_eq_false (by omega))
  clear h0 h1
  go_enter Try.func123, Try.ntmps123
  go_wp2
  go_returns
  exact ⟨ret_bool H.out.symm, rfl⟩
set_option maxHeartbeats 1000000 in
theorem other_any (n : Int) (w : World) (h : n = 0 ∨ n = 1) : Calls Try.prog 120 #[.int .i64 n] w fun e w' => e = .returned (.int .i64 (1 - n)) ∧ w = w' := by
  rcases h with rfl | rfl
  all_goals
    go_enter Try.func120, Try.ntmps120
    go_wp2
    go_returns
    exact ⟨rfl, rfl⟩

set_option maxRecDepth 20000 in
set_option maxHeartbeats 4000000 in
theorem valid_any (l : List Rn) (V : Value) (w : World) (hT : RnArg w V l) : Calls Try.prog 118 #[V] w fun e w' => e = .returned (.bool (vl l)) ∧ Below w.heap.size w w' := by
  obtain ⟨A, c, rfl, hA⟩ := hT
  have HA := Lib.hid hA
  clear hA
  by_cases hn : 262144 < l.length
  · have hn' : (262144 : Int) < l.length := by omega
    have HV := Lib.hid (show vl l = false by unfold vl; rw [decide_eq_false (by omega)]; rfl)
    clear hn HA
    go_enter Try.func118, Try.ntmps118
    go_wp2
    go_returns
    exact ⟨ret_bool HV.out.symm, Below.refl _ _⟩
  have hn' : (l.length : Int) ≤ 262144 := by omega
  have CL := Lib.hid isLevel_any
  go_enter Try.func118, Try.ntmps118
  go_wp2
  go_loopw [11, 3] (fun i s wr => ∃ j : Nat, j ≤ l.length ∧ i = .int .i64 j ∧ s = .int .i64 (lg (l.take j)) ∧ Hid (vr 0 (l.take j) = true) ∧ Hid (Below w.heap.size w wr)) (fun i _ _ => l.length - (intOf i).toNat)
  case atStart => exact ⟨0, Nat.zero_le _, rfl, rfl, Lib.hid rfl, Lib.hid (Below.refl _ _)⟩
  case round =>
    obtain ⟨j, hj, rfl, rfl, HR, HB⟩ := hrel
    have hb := HB.out
    by_cases hjl : j < l.length
    · obtain ⟨g, o, rfl, hg, hc⟩ := HA.out (by omega)
      obtain ⟨a0, a1⟩ := arg_two hc j hjl
      have f0 := (hb.cell (p := ⟨g, o + j * 2, none⟩) hg).trans a0
      have f1 := (hb.cell (p := ⟨g, o + j * 2 + 1, none⟩) hg).trans a1
      have hr := vr_range HR.out
      have hst := Lib.hid (vr_step hjl HR.out)
      have hbd := Lib.hid (fun h => vr_bad (l := l) hjl h)
      have htk := Lib.hid (lg_take l j hjl)
      clear a0 a1 hc
      have hok := fun (b : Bool) (h : okR (lg (l.take j)) (l[j].1, l[j].2) = b) => h
      have HB2 := Lib.hid (show Below w.heap.size w (wr.alloc (.cells #[.int .i64 l[j].1, .int .i64 l[j].2] 50)) from hb.alloc hb.size _)
      have hst' : Hid (vr 0 (l.take (j + 1)) = okR (lg (l.take j)) (l[j].1, l[j].2)) := Lib.hid hst.out
      have hbd' : Hid (okR (lg (l.take j)) (l[j].1, l[j].2) = false → vl l = false) := Lib.hid hbd.out
      clear hst hbd hok HR
      generalize l[j].1 = x0 at *
      generalize l[j].2 = x1 at *
      generalize lg (l.take j) = S at *
      by_cases c0 : x0 = 0 ∨ x0 = 1
      · have d0 : decide (x0 = 0 ∨ x0 = 1) = true := decide_eq_true c0
        have CL2 := Lib.hid (fun w => by have := CL.out x0 w; rw [d0] at this; exact this)
        clear CL d0
        by_cases c1 : x1 < 1
        · have HV := Lib.hid (hbd'.out (by unfold okR; rw [decide_eq_false (show ¬ (1 : Int) ≤ x1 by omega)]; simp))
          go_wp2_with (first
            | (go_at_call 123; go_must (refine (CL2.out _).mono ?_; rintro e1 w1 ⟨rfl, rfl⟩)))
          go_returns
          exact ⟨ret_bool HV.out.symm, HB2.out⟩
        by_cases c2 : 1099511627776 - S < x1
        · have HV := Lib.hid (hbd'.out (by unfold okR; rw [decide_eq_false (show ¬ x1 ≤ 1099511627776 - S by omega)]; simp))
          go_wp2_with (first
            | (go_at_call 123; go_must (refine (CL2.out _).mono ?_; rintro e1 w1 ⟨rfl, rfl⟩)))
          go_returns
          exact ⟨ret_bool HV.out.symm, HB2.out⟩
        have HS := Lib.hid (show vr 0 (l.take (j + 1)) = true by rw [hst'.out]; unfold okR; rw [decide_eq_true c0, decide_eq_true (show (1 : Int) ≤ x1 by omega), decide_eq_true (show x1 ≤ 1099511627776 - S by omega)]; rfl)
        clear c0
        go_wp2_with (first
          | (go_at_call 123; go_must (refine (CL2.out _).mono ?_; rintro e1 w1 ⟨rfl, rfl⟩)))
        go_roundw
        case rel => exact ⟨j + 1, by omega, val_int (by omega), val_int (by rw [htk.out]), HS, HB2⟩
        case measure => simp [intOf]; omega
      · have d0 : decide (x0 = 0 ∨ x0 = 1) = false := decide_eq_false c0
        have CL2 := Lib.hid (fun w => by have := CL.out x0 w; rw [d0] at this; exact this)
        have HV := Lib.hid (hbd'.out (by unfold okR; rw [d0]; rfl))
        clear CL d0 c0
        go_wp2_with (first
          | (go_at_call 123; go_must (refine (CL2.out _).mono ?_; rintro e1 w1 ⟨rfl, rfl⟩)))
        go_returns
        exact ⟨ret_bool HV.out.symm, HB2.out⟩
    · have he : l.take j = l := List.take_of_length_le (by omega)
      have HV := Lib.hid (vr_all (l := l) (by omega) (by rw [← he]; exact HR.out))
      clear he
      go_wp2
      go_returns
      exact ⟨ret_bool HV.out.symm, hb⟩

end Sw
end Go.Proofs.Ytmbeaagpjpphhaa

namespace Go.Proofs.Ytmbeaagpjpphhaa
namespace Sw
open Go Go.ChangeShapes Go.WideShapes Go.ChangeAt Go.RowKit
set_option linter.unusedVariables false

instance rnInh : Inhabited Rn := ⟨(0, 0)⟩
theorem cells_run : Try.prog.cellsOf 50 = 2 := by kernel_rfl
theorem cells_int : Try.prog.cellsOf 3 = 1 := by kernel_rfl
set_option maxRecDepth 100000 in
/-- A slice of runs that came in. -/
theorem open_runs {H : Type} {enc : TypeId × Value → H} {W : World} {base : Nat} {v : Value} {d : DataW H} {p : List MemPlace} (hv : Value.okWide Try.prog W .any base 27 v) (h : DataW.Trod enc Try.prog W 0 (fun _ => true) true 27 v d p) :
    ∃ l : List Rn, RnArg W v l := by
  obtain ⟨A, len, cap, rfl, hlc, hnil, hel⟩ := open_rows Try.underlying27 Try.underlying50 cells_run (by omega) hv h
  rcases Nat.eq_zero_or_pos len with h0 | h0
  · subst h0
    exact ⟨[], A, cap, rfl, fun h => absurd h (by simp)⟩
  · obtain ⟨g, o, es, sp, rfl, hg, rfl, hes, hj⟩ := hel h0
    have key : ∀ j, j < len → ∃ t : Rn, ∀ i, i < 2 → W.cell? ⟨g, o + j * 2 + i, none⟩ = (rnC t)[i]? := by
      intro j hjl
      obtain ⟨cs, ys, n, hcl, hcell, hys, hf⟩ := hj j hjl
      obtain ⟨c0, y0, q0, k0, l0, t0⟩ := hf 0 _ rfl (by kernel_rfl) (by decide)
      obtain ⟨c1, y1, q1, k1, l1, t1⟩ := hf 1 _ rfl (by kernel_rfl) (by decide)
      obtain ⟨x0, e0, _, w0⟩ := DataW.trod_int Try.underlying3 t0
      obtain ⟨x1, e1, _, w1⟩ := DataW.trod_int Try.underlying3 t1
      simp only [List.cons.injEq, and_true] at e0 e1
      subst e0 e1
      have k0' : cs[0]? = some (.int .i64 x0) := k0
      have k1' : cs[1]? = some (.int .i64 x1) := k1
      refine ⟨(x0, x1), fun i hi => ?_⟩
      rw [hcell i hi]
      match i, hi with
      | 0, _ => exact k0'
      | 1, _ => exact k1'
    obtain ⟨F, hF⟩ := Go.Deep.choose_lt key
    have hlen : ((List.range len).map F).length = len := by simp
    refine ⟨(List.range len).map F, some ⟨g, o, none⟩, cap, by rw [hlen], fun _ => ⟨g, o, rfl, hg, fun j hj i hi => ?_⟩⟩
    rw [hlen] at hj
    rw [hF j hj i hi]
    simp
set_option maxRecDepth 100000 in
/-- A slice of numbers that came in. -/
theorem open_nums {H : Type} {enc : TypeId × Value → H} {W : World} {base : Nat} {v : Value} {d : DataW H} {p : List MemPlace} (hv : Value.okWide Try.prog W .any base 54 v) (h : DataW.Trod enc Try.prog W 0 (fun _ => true) true 54 v d p) :
    ∃ l : List Int, InArg W v l := by
  obtain ⟨A, len, cap, rfl⟩ := okWide_slice Try.underlying54 hv
  obtain ⟨fuel, hf⟩ := h
  rcases Go.Deep.open_slice1 Try.underlying54 cells_int hf with ⟨h1, h2⟩ | ⟨a, len', cap', m, n, V, D, Pl, h1, hb, hl, hm, hmm, h2, hx⟩
  · simp only [Value.cells, List.cons.injEq, Value.slice.injEq, and_true] at h1
    obtain ⟨rfl, rfl, rfl⟩ := h1
    exact ⟨[], none, 0, rfl, fun h => absurd h (by simp)⟩
  · simp only [Value.cells, List.cons.injEq, Value.slice.injEq, and_true] at h1
    obtain ⟨rfl, rfl, rfl⟩ := h1
    simp only [if_true] at hmm
    have key : ∀ j, j < len → ∃ t : Int, W.cell? (a.add j) = some (.int .i64 t) := by
      intro j hj
      obtain ⟨k1, k2⟩ := hx j (by omega)
      obtain ⟨x0, e0, _, _⟩ := DataW.trod_int Try.underlying3 k2
      simp only [List.cons.injEq, and_true] at e0
      exact ⟨x0, by rw [k1, e0]⟩
    obtain ⟨F, hF⟩ := Go.Deep.choose_lt key
    have hlen : ((List.range len).map F).length = len := by simp
    rcases Nat.eq_zero_or_pos len with h0 | h0
    · subst h0
      exact ⟨[], some a, cap, rfl, fun h => absurd h (by simp)⟩
    · have hspot : a.spot = none := by simpa [Addr.add] using World.cell?_spot (hF 0 h0)
      obtain ⟨g, o, s⟩ := a
      simp only at hspot
      subst hspot
      have h00 := hF 0 h0
      refine ⟨(List.range len).map F, some ⟨g, o, none⟩, cap, by rw [hlen], fun _ => ⟨g, o, rfl, World.block_lt_of_cell? W _ h00, fun j hj i hi => ?_⟩⟩
      rw [hlen] at hj
      have hj2 := hF j hj
      rw [Addr.add_lit] at hj2
      obtain rfl : i = 0 := by omega
      rw [Nat.mul_one, Nat.add_zero, hj2]
      simp [inC]

end Sw
end Go.Proofs.Ytmbeaagpjpphhaa
