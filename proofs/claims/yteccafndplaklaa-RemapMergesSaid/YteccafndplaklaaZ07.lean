/-
  Rows of elements of k cells (structs): those that the call itself has made ('KRow': of its own or nil), and those that are only read ('KArg': arguments, rows). The encoding is given as a function to arrays of cells.
  Several elements of k cells appended out of their literal, inside a region that draws its order.
  Rows of elements of k cells, more: made by 'make' (full, or empty with room), filled by 'copy', appended from a slice that came in, cut to their first elements, one element stored.
  'append(row, slice...)' and 'append(row, element)' at a step of a region that draws its order; of old blocks, the row's own alone may have changed.
  Steps of all waves, plain; positions as the model holds them.
  One round of putting waves together, plain.
-/
import Derived.Test.YteccafndplaklaaZ06
import Derived.Test.YteccafndplaklaaZ05
import Derived.Laws.MakeOwn
import Derived.Laws.CopyRow
import Derived.Test.YteccafndplaklaaZ04
namespace Go.Proofs.Yteccafndplaklaa
open Go Go.RowKit Go.Joins
set_option linter.unusedVariables false

section
variable {α : Type} {enc : α → Array Value} {k : Nat} {T : TypeId}

def kCs (enc : α → Array Value) (l : List α) : List Value := l.flatMap fun t => (enc t).toList
theorem kCs_nil : kCs enc [] = [] := rfl
theorem kCs_cons (t : α) (l : List α) : kCs enc (t :: l) = (enc t).toList ++ kCs enc l := by simp [kCs]
theorem kCs_len (hk : ∀ x, (enc x).size = k) (l : List α) : (kCs enc l).length = l.length * k := by
  induction l with
  | nil => simp [kCs]
  | cons t l ih => rw [kCs_cons, List.length_append, ih, List.length_cons, Nat.add_mul, Array.length_toList, hk]; omega
theorem kCs_snoc (l : List α) (t : α) : kCs enc (l ++ [t]) = kCs enc l ++ (enc t).toList := by simp [kCs]
theorem kCs_append (l r : List α) : kCs enc (l ++ r) = kCs enc l ++ kCs enc r := by simp [kCs]
theorem kCs_at (hk : ∀ x, (enc x).size = k) (l : List α) (j : Nat) (hj : j < l.length) (i : Nat) (hi : i < k) : (kCs enc l)[j * k + i]? = (enc l[j])[i]? := by
  induction l generalizing j with
  | nil => simp at hj
  | cons t l ih =>
    have e4 : (enc t).toList.length = k := by rw [Array.length_toList, hk]
    rw [kCs_cons]
    cases j with
    | zero => rw [List.getElem?_append_left (by omega)]; simp
    | succ j =>
      rw [List.getElem?_append_right (by rw [Nat.add_mul]; omega), e4, show (j + 1) * k + i - k = j * k + i by rw [Nat.add_mul]; omega, ih j (by simpa using hj)]
      rfl

/-- The slice v is of the call's own (at or above B), or nil, and holds these elements. -/
def KRow (enc : α → Array Value) (k : Nat) (T : TypeId) (w : World) (B : Nat) (v : Value) (l : List α) : Prop := w.ownsRow B T k v l.length (kCs enc l)
theorem KRow.nil (w : World) (B : Nat) : KRow enc k T w B (.slice none 0 0) [] := World.ownsRow_nil w B _ k
theorem KRow.form {w : World} {B : Nat} {v : Value} {l : List α} (h : KRow enc k T w B v l) : ∃ A N c, v = .slice A N c ∧ N = l.length := by
  rcases ownsRow_forms h with ⟨rfl, e⟩ | ⟨g, c, rfl⟩
  · exact ⟨none, 0, 0, rfl, e.symm⟩
  · exact ⟨_, _, _, rfl, rfl⟩
theorem KRow.lt {w : World} {B : Nat} {v : Value} {l : List α} (h : KRow enc k T w B v l) : ∀ k, v.ownBlock = some k → B ≤ k ∧ k < w.heap.size := World.ownsRow.lt h
theorem KRow.keep {w w' : World} {B : Nat} {v : Value} {l : List α} (h : KRow enc k T w B v l) (hb : Below w.heap.size w w') : KRow enc k T w' B v l := Below.ownsRow h hb fun k hk => (h.lt k hk).2
theorem KRow.alloc {w : World} {B : Nat} {v : Value} {l : List α} (h : KRow enc k T w B v l) (o : Obj) : KRow enc k T (w.alloc o) B v l := h.keep (ba w o)
theorem KRow.drewN {w : World} {B : Nat} {v : Value} {l : List α} (h : KRow enc k T w B v l) (n : Nat) : KRow enc k T (w.drewN n) B v l := h
theorem KRow.mono {w : World} {B B' : Nat} {v : Value} {l : List α} (h : KRow enc k T w B v l) (hB : B' ≤ B) : KRow enc k T w B' v l :=
  ⟨h.1, h.2.imp id fun ⟨g, cap, cur, h1, h2, h3⟩ => ⟨g, cap, cur, h1, Nat.le_trans hB h2, h3⟩⟩
theorem KRow.full {w : World} {B : Nat} {v : Value} {l : List α} (h : KRow enc k T w B v l) (hl : 0 < l.length) : ∃ g c, v = .slice (some ⟨g, 0, none⟩) l.length c := ownsRow_form h hl
theorem KRow.cell {w : World} {B g n c : Nat} {l : List α} (hk : ∀ x, (enc x).size = k) (h : KRow enc k T w B (.slice (some ⟨g, 0, none⟩) n c) l) (j : Nat) (hj : j < l.length) (i : Nat) (hi : i < k) : w.cell? ⟨g, j * k + i, none⟩ = (enc l[j])[i]? := by
  have hn : n = l.length := by
    obtain ⟨A, N, c', e, hN⟩ := KRow.form h
    simp only [Value.slice.injEq] at e
    omega
  subst hn
  have hm : j * k + i < l.length * k := by have := Nat.mul_le_mul_right k (show j + 1 ≤ l.length from hj); rw [Nat.add_mul, Nat.one_mul] at this; omega
  rw [World.ownsRow.cellAt h (j * k + i) hm]
  exact kCs_at hk l j hj i hi
theorem KRow.frozen {w : World} {B g n c : Nat} {l : List α} (h : KRow enc k T w B (.slice (some ⟨g, 0, none⟩) n c) l) (j : Nat) : w.frozen? ⟨g, j, none⟩ = false := by
  have hn : n = l.length := by
    obtain ⟨A, N, c', e, hN⟩ := KRow.form h
    simp only [Value.slice.injEq] at e
    omega
  subst hn
  exact World.ownsRow.frozenAt h j
/-- A literal of n elements. -/
theorem KRow.lit (hk : ∀ x, (enc x).size = k) (w : World) (B : Nat) (hB : B ≤ w.heap.size) (l : List α) (cs : Array Value) (hcs : cs.toList = kCs enc l) (n : Nat) (hn : n = l.length) (hl : l.length ≤ 140737488355328) :
    KRow enc k T (w.alloc (.cells cs T)) B (.slice (some ⟨w.heap.size, 0, none⟩) n n) l := by
  subst hn
  have := World.ownsRow_lit (size := k) (e := T) w cs l.length hB (by simp only [maxLen]; omega) (by rw [← Array.length_toList, hcs, kCs_len hk])
  rw [hcs] at this
  exact this
/-- One element appended, out of its literal. -/
theorem wpList_append_k {P : Program} {S : TypeId} {z : Value} {bb : Nat} (hS : P.underlying S = some (.slice T)) (hinfo : (P.info? T).map (fun i => (i.zero, i.size, i.bytes)) = some (some z, k, bb)) (hz : z.cells.size = k) (hpos : 0 < k) (hk : ∀ x, (enc x).size = k)
    {w : World} {ops : Array Oper} {rest : List Oper} {o : Oper} {a : Act} {Q : Exit → Act → World → Prop} (hgd : o.guard = none) (s x : Operand)
    (ho : o.op = .call { callee := .builtin .append, args := #[s, x], argTypes := #[S, S] })
    {B c : Nat} {v : Value} {l : List α} {g : Nat} (t : α) {ya : Array Value} (hya : ya = enc t) (hs : a.eval s = v) (hx : a.eval x = .slice (some ⟨g, 0, none⟩) 1 c) (hg : g = w.heap.size) (hf : KRow enc k T w B v l) (hB : B ≤ w.heap.size)
    (h1 : ya.toList.all (·.oneCell') = true) (hn : l.length + 1 ≤ 140737488355328) (hb : (l.length + 1) * bb ≤ 140737488355328)
    (h : ∀ v' w', KRow enc k T w' B v' (l ++ [t]) → Below B w w' → wpList P ops Q rest (a.put o.dst v') w') : wpList P ops Q (o :: rest) a (w.alloc (.cells ya T)) := by
  subst hya
  refine wpList_append_lit (P := P) hS hinfo hz hpos hgd s x ho hs hx hg hf hB (by rw [Array.length_toList, hk]) h1 hn hb fun v' w' r b => h v' w' ?_ b
  unfold KRow
  rw [List.length_append, kCs_snoc]
  exact r
/-- The same; of old blocks, the row's own alone may have changed. -/
theorem wpList_append_k2 {P : Program} {S : TypeId} {z : Value} {bb : Nat} (hS : P.underlying S = some (.slice T)) (hinfo : (P.info? T).map (fun i => (i.zero, i.size, i.bytes)) = some (some z, k, bb)) (hz : z.cells.size = k) (hpos : 0 < k) (hk : ∀ x, (enc x).size = k)
    {w : World} {ops : Array Oper} {rest : List Oper} {o : Oper} {a : Act} {Q : Exit → Act → World → Prop} (hgd : o.guard = none) (s x : Operand)
    (ho : o.op = .call { callee := .builtin .append, args := #[s, x], argTypes := #[S, S] })
    {B c : Nat} {v : Value} {l : List α} {g : Nat} (t : α) {ya : Array Value} (hya : ya = enc t) (hs : a.eval s = v) (hx : a.eval x = .slice (some ⟨g, 0, none⟩) 1 c) (hg : g = w.heap.size) (hf : KRow enc k T w B v l) (hB : B ≤ w.heap.size)
    (h1 : ya.toList.all (·.oneCell') = true) (hn : l.length + 1 ≤ 140737488355328) (hb : (l.length + 1) * bb ≤ 140737488355328)
    (h : ∀ v' w', KRow enc k T w' B v' (l ++ [t]) → Below B w w' → (∀ k, k < w.heap.size → some k ≠ v.ownBlock → w'.heap[k]? = w.heap[k]?) → wpList P ops Q rest (a.put o.dst v') w') : wpList P ops Q (o :: rest) a (w.alloc (.cells ya T)) := by
  subst hya
  refine wpList_append_lit2 (P := P) hS hinfo hz hpos hgd s x ho hs hx hg hf hB (by rw [Array.length_toList, hk]) h1 hn hb fun v' w' r b n => h v' w' ?_ b n
  unfold KRow
  rw [List.length_append, kCs_snoc]
  exact r
/-- A cell of an old block that is not the row's, behind an append. -/
theorem kept_at {w w' : World} {v : Value} (h : ∀ k, k < w.heap.size → some k ≠ v.ownBlock → w'.heap[k]? = w.heap[k]?) (a : Addr) (h1 : a.block < w.heap.size) (h2 : some a.block ≠ v.ownBlock) : w'.cell? a = w.cell? a := World.cell?_of_block (h a.block h1 h2)
/-- Elements that are only read. -/
def KArg (enc : α → Array Value) (k : Nat) (w : World) (v : Value) (l : List α) : Prop := ∃ A c, v = .slice A l.length c ∧
  (0 < l.length → ∃ g o, A = some ⟨g, o, none⟩ ∧ g < w.heap.size ∧ ∀ j (hj : j < l.length) i, i < k → w.cell? ⟨g, o + j * k + i, none⟩ = (enc l[j])[i]?)
theorem KArg.keep {w w' : World} {v : Value} {l : List α} (h : KArg enc k w v l) (hb : Below w.heap.size w w') : KArg enc k w' v l := by
  obtain ⟨A, c, rfl, h⟩ := h
  refine ⟨A, c, rfl, fun h0 => ?_⟩
  obtain ⟨g, o, e, hg, hc⟩ := h h0
  exact ⟨g, o, e, Nat.lt_of_lt_of_le hg hb.size, fun j hj i hi => (hb.cell (p := ⟨g, o + j * k + i, none⟩) hg).trans (hc j hj i hi)⟩
theorem KRow.arg {w : World} {B : Nat} {v : Value} {l : List α} (hk : ∀ x, (enc x).size = k) (h : KRow enc k T w B v l) : KArg enc k w v l := by
  by_cases h0 : 0 < l.length
  · obtain ⟨g, c, rfl⟩ := h.full h0
    exact ⟨_, c, rfl, fun _ => ⟨g, 0, rfl, (h.lt g rfl).2, fun j hj i hi => by rw [Nat.zero_add]; exact h.cell hk j hj i hi⟩⟩
  · obtain ⟨A, N, c, rfl, rfl⟩ := h.form
    exact ⟨A, c, rfl, fun h => absurd h h0⟩
end

end Go.Proofs.Yteccafndplaklaa

namespace Go.Proofs.Yteccafndplaklaa
open Go Go.RowKit Go.Joins
set_option linter.unusedVariables false

section
variable {α : Type} {enc : α → Array Value} {k : Nat} {T : TypeId}
/-- Several elements appended out of their literal, at a step of a region that draws its order. -/
theorem step_append_ks {P : Program} {S : TypeId} {z : Value} {bb : Nat} (hS : P.underlying S = some (.slice T)) (hinfo : (P.info? T).map (fun i => (i.zero, i.size, i.bytes)) = some (some z, k, bb)) (hz : z.cells.size = k) (hpos : 0 < k) (hk : ∀ x, (enc x).size = k)
    {w : World} {ya : Array Value} {ops : Array Oper} {o : Oper} {a : Act} {K : Act → World → Prop} {Q : Exit → Act → World → Prop} {E : Prop} (hgd : o.guard = none) (s x : Operand)
    (ho : o.op = .call { callee := .builtin .append, args := #[s, x], argTypes := #[S, S] })
    {B m c g : Nat} {v : Value} {l : List α} (hs : a.eval s = v) (hx : a.eval x = .slice (some ⟨g, 0, none⟩) m c) (hg : g = w.heap.size) (hf : KRow enc k T w B v l) (hB : B ≤ w.heap.size) (ts : List α) (hm : m = ts.length) (hm0 : 0 < m) (hya : ya.toList = kCs enc ts)
    (h1 : (kCs enc ts).all (·.oneCell') = true) (hn : l.length + m ≤ 140737488355328) (hb : (l.length + m) * bb ≤ 140737488355328)
    (h : ∀ v' w', KRow enc k T w' B v' (l ++ ts) → Below B w w' → K (a.put o.dst v') w') : if Region.wanted o (yielded ops a.tmps) = true then Oper.wp P o a (w.alloc (.cells ya T)) K Q else E := by
  have hw : Region.wanted o (yielded ops a.tmps) = true := by simp [Region.wanted, hgd]
  rw [if_pos hw]
  subst hg
  obtain ⟨i0, hi0, hz0, hz1, hz2⟩ := info_parts hinfo
  have hnews : ∀ j u, (kCs enc ts)[j]? = some u → (w.alloc (.cells ya T)).cell? ((⟨w.heap.size, 0, none⟩ : Addr).add j) = some u := by
    intro j u hj
    rw [Addr.add_lit, Nat.zero_add]
    have : (w.alloc (.cells ya T)).heap[w.heap.size]? = some (.cells ya T (0, 0)) := by
      show (w.heap.push _)[w.heap.size]? = _
      simp
    rw [cell_of_row _ _ _ _ _ _ this, ← Array.getElem?_toList, hya]
    exact hj
  obtain ⟨v', w', hrun, r1, r2, _⟩ := run_append_own (P := P) (w.alloc (.cells ya T)) B S o.type T i0 z k bb hS hi0 hz0 hz1 hz2 hz hpos v l.length (kCs enc l) (World.ownsRow.alloc hf _) ⟨w.heap.size, 0, none⟩ m c (kCs enc ts) (by rw [kCs_len hk, hm]) hnews (fun u hu => List.all_eq_true.1 h1 u hu) (by simp only [maxLen]; omega) hb (le_alloc hB _)
  unfold Oper.wp execOp
  simp only [ho, resolve, invoke, builtin, Sem.run_bind, Sem.run_pure, Result.andThen_ok, List.map_toArray, List.map_cons, List.map_nil, hs, hx, hrun]
  refine (h v' w' ?_ (((ba w _).mono hB).trans ((Below.refl _ _).grown r2 (le_alloc hB _) fun k hk => (World.ownsRow.lt hf k hk).1)))
  unfold KRow
  rw [kCs_append, List.length_append, ← hm]
  exact r1
/-- Several elements appended out of their literal, at a step of a region that draws its order: of old blocks, the row's own alone may have changed. -/
theorem step_append_ks2 {P : Program} {S : TypeId} {z : Value} {bb : Nat} (hS : P.underlying S = some (.slice T)) (hinfo : (P.info? T).map (fun i => (i.zero, i.size, i.bytes)) = some (some z, k, bb)) (hz : z.cells.size = k) (hpos : 0 < k) (hk : ∀ x, (enc x).size = k)
    {w : World} {ya : Array Value} {ops : Array Oper} {o : Oper} {a : Act} {K : Act → World → Prop} {Q : Exit → Act → World → Prop} {E : Prop} (hgd : o.guard = none) (s x : Operand)
    (ho : o.op = .call { callee := .builtin .append, args := #[s, x], argTypes := #[S, S] })
    {B m c g : Nat} {v : Value} {l : List α} (hs : a.eval s = v) (hx : a.eval x = .slice (some ⟨g, 0, none⟩) m c) (hg : g = w.heap.size) (hf : KRow enc k T w B v l) (hB : B ≤ w.heap.size) (ts : List α) (hm : m = ts.length) (hm0 : 0 < m) (hya : ya.toList = kCs enc ts)
    (h1 : (kCs enc ts).all (·.oneCell') = true) (hn : l.length + m ≤ 140737488355328) (hb : (l.length + m) * bb ≤ 140737488355328)
    (h : ∀ v' w', KRow enc k T w' B v' (l ++ ts) → Below B w w' → (∀ k, k < w.heap.size → some k ≠ v.ownBlock → w'.heap[k]? = w.heap[k]?) → K (a.put o.dst v') w') : if Region.wanted o (yielded ops a.tmps) = true then Oper.wp P o a (w.alloc (.cells ya T)) K Q else E := by
  have hw : Region.wanted o (yielded ops a.tmps) = true := by simp [Region.wanted, hgd]
  rw [if_pos hw]
  subst hg
  obtain ⟨i0, hi0, hz0, hz1, hz2⟩ := info_parts hinfo
  have hnews : ∀ j u, (kCs enc ts)[j]? = some u → (w.alloc (.cells ya T)).cell? ((⟨w.heap.size, 0, none⟩ : Addr).add j) = some u := by
    intro j u hj
    rw [Addr.add_lit, Nat.zero_add]
    have : (w.alloc (.cells ya T)).heap[w.heap.size]? = some (.cells ya T (0, 0)) := by
      show (w.heap.push _)[w.heap.size]? = _
      simp
    rw [cell_of_row _ _ _ _ _ _ this, ← Array.getElem?_toList, hya]
    exact hj
  obtain ⟨v', w', hrun, r1, r2, _⟩ := run_append_own (P := P) (w.alloc (.cells ya T)) B S o.type T i0 z k bb hS hi0 hz0 hz1 hz2 hz hpos v l.length (kCs enc l) (World.ownsRow.alloc hf _) ⟨w.heap.size, 0, none⟩ m c (kCs enc ts) (by rw [kCs_len hk, hm]) hnews (fun u hu => List.all_eq_true.1 h1 u hu) (by simp only [maxLen]; omega) hb (le_alloc hB _)
  unfold Oper.wp execOp
  simp only [ho, resolve, invoke, builtin, Sem.run_bind, Sem.run_pure, Result.andThen_ok, List.map_toArray, List.map_cons, List.map_nil, hs, hx, hrun]
  refine (h v' w' ?_ (((ba w _).mono hB).trans ((Below.refl _ _).grown r2 (le_alloc hB _) fun k hk => (World.ownsRow.lt hf k hk).1)) fun k hk hne => (r2.block k (by rw [World.size_alloc]; omega) hne).trans (Below.heap_alloc _ _ _ hk))
  unfold KRow
  rw [kCs_append, List.length_append, ← hm]
  exact r1
end

end Go.Proofs.Yteccafndplaklaa

namespace Go.Proofs.Yteccafndplaklaa
open Go Go.RowKit Go.Joins
set_option linter.unusedVariables false

section
variable {α : Type} {enc : α → Array Value} {k : Nat} {T : TypeId}

theorem kCs_take (hk : ∀ x, (enc x).size = k) (l : List α) (n : Nat) : kCs enc (l.take n) = (kCs enc l).take (n * k) := by
  induction l generalizing n with
  | nil => simp [kCs]
  | cons t l ih =>
    have e4 : (enc t).toList.length = k := by rw [Array.length_toList, hk]
    cases n with
    | zero => simp [kCs]
    | succ n =>
      have e5 : (n + 1) * k - k = n * k := by rw [Nat.add_mul]; omega
      have e6 : (enc t).toList.take ((n + 1) * k) = (enc t).toList := List.take_of_length_le (by rw [e4, Nat.add_mul]; omega)
      rw [List.take_succ_cons, kCs_cons, kCs_cons, ih, List.take_append, e4, e5, e6]
theorem kCs_drop (hk : ∀ x, (enc x).size = k) (l : List α) (n : Nat) : kCs enc (l.drop n) = (kCs enc l).drop (n * k) := by
  induction l generalizing n with
  | nil => simp [kCs]
  | cons t l ih =>
    have e4 : (enc t).toList.length = k := by rw [Array.length_toList, hk]
    cases n with
    | zero => simp
    | succ n =>
      have e5 : (n + 1) * k - k = n * k := by rw [Nat.add_mul]; omega
      have e6 : (enc t).toList.drop ((n + 1) * k) = [] := List.drop_of_length_le (by rw [e4, Nat.add_mul]; omega)
      rw [List.drop_succ_cons, kCs_cons, ih, List.drop_append, e4, e5, e6, List.nil_append]
theorem kCs_one (h1 : ∀ x, (enc x).toList.all (·.oneCell') = true) (l : List α) : ∀ u ∈ kCs enc l, u.oneCell' = true := by
  intro u hu
  unfold kCs at hu
  obtain ⟨t, _, hu⟩ := List.mem_flatMap.1 hu
  exact List.all_eq_true.1 (h1 t) u hu
theorem kCs_set1 (hk : ∀ x, (enc x).size = k) (l : List α) (j : Nat) (hj : j < l.length) (y : α) :
    kCs enc (l.set j y) = (kCs enc l).take (j * k) ++ (enc y).toList ++ (kCs enc l).drop (j * k + k) := by
  rw [List.set_eq_take_append_cons_drop, if_pos hj, kCs_append, kCs_cons, kCs_take hk, kCs_drop hk, List.append_assoc, show (j + 1) * k = j * k + k by rw [Nat.add_mul]; omega]
/-- The cells of a slice of elements that came in, from its address on. -/
theorem KArg.cells (hk : ∀ x, (enc x).size = k) (hpos : 0 < k) {w : World} {a : Addr} {n c : Nat} {l : List α} (h : KArg enc k w (.slice (some a) n c) l) : ∀ j u, (kCs enc l)[j]? = some u → w.cell? (a.add j) = some u := by
  intro j u hu
  obtain ⟨A, c', e, hA⟩ := h
  simp only [Value.slice.injEq] at e
  obtain ⟨rfl, rfl, rfl⟩ := e
  have hj : j < (kCs enc l).length := (List.getElem?_eq_some_iff.1 hu).1
  rw [kCs_len hk] at hj
  have h0 : 0 < l.length := by
    rcases Nat.eq_zero_or_pos l.length with h | h
    · rw [h, Nat.zero_mul] at hj; omega
    · exact h
  obtain ⟨g, o, e, hg, hc⟩ := hA h0
  injection e with e
  subst e
  have hq : j / k < l.length := Nat.div_lt_of_lt_mul (by rw [Nat.mul_comm]; exact hj)
  have hm : j % k < k := Nat.mod_lt _ hpos
  have hd : j / k * k + j % k = j := Nat.div_add_mod' j k
  have h2 := hc (j / k) hq (j % k) hm
  rw [Nat.add_assoc, hd] at h2
  rw [Addr.add_lit, h2, ← kCs_at hk l (j / k) hq (j % k) hm, hd]
  exact hu
theorem KArg.form {w : World} {v : Value} {l : List α} (h : KArg enc k w v l) : ∃ A c, v = .slice A l.length c := by
  obtain ⟨A, c, rfl, _⟩ := h; exact ⟨A, c, rfl⟩

theorem kCs_replicate (z : α) (hk : (enc z).size = k) (n : Nat) : (madeCells (enc z) (n * k)).toList = kCs enc (List.replicate n z) := by
  rcases Nat.eq_zero_or_pos k with h0 | h0
  · subst h0
    have : ∀ n, kCs enc (List.replicate n z) = [] := by
      intro n
      induction n with
      | zero => rfl
      | succ n ih => rw [List.replicate_succ, kCs_cons, ih]; simpa using Array.eq_empty_of_size_eq_zero hk
    rw [this]; simp [madeCells]
  apply List.ext_getElem?
  intro j
  have hx : (madeCells (enc z) (n * k)).toList[j]? = if j < n * k then some ((enc z)[j % k]!) else none := by
    unfold madeCells
    rw [hk]
    by_cases hj : j < n * k <;> simp [hj]
  rw [hx]
  have hlen : (kCs enc (List.replicate n z)).length = n * k := by
    clear hx
    induction n with
    | zero => simp [kCs]
    | succ n ih => rw [List.replicate_succ, kCs_cons, List.length_append, ih, Array.length_toList, hk, Nat.add_mul]; omega
  by_cases hj : j < n * k
  · rw [if_pos hj]
    have hm : j % k < k := Nat.mod_lt _ h0
    have hq : j / k < n := Nat.div_lt_of_lt_mul (by rw [Nat.mul_comm]; exact hj)
    have hd : j / k * k + j % k = j := Nat.div_add_mod' j k
    have key : ∀ (m q : Nat), q < m → (kCs enc (List.replicate m z))[q * k + j % k]? = (enc z)[j % k]? := by
      intro m
      induction m with
      | zero => intro q hq; omega
      | succ m ih =>
        intro q hq
        have e4 : (enc z).toList.length = k := by rw [Array.length_toList, hk]
        rw [List.replicate_succ, kCs_cons]
        cases q with
        | zero => rw [List.getElem?_append_left (by omega)]; simp
        | succ q =>
          rw [List.getElem?_append_right (by rw [Nat.add_mul]; omega), e4, show (q + 1) * k + j % k - k = q * k + j % k by rw [Nat.add_mul]; omega]
          exact ih q (by omega)
    have := key n (j / k) hq
    rw [hd] at this
    rw [this, getElem!_pos _ _ (by rw [hk]; exact hm), Array.getElem?_eq_getElem (by rw [hk]; exact hm)]
  · rw [if_neg hj, List.getElem?_eq_none (by omega)]

/-- 'make([]T, n)': n zero elements. -/
theorem wpList_make_k {P : Program} {S : TypeId} {zv : Value} {bb : Nat} (hS : P.underlying S = some (.slice T)) (hinfo : (P.info? T).map (fun i => (i.zero, i.size, i.bytes)) = some (some zv, k, bb)) (z : α) (hz : zv.cells = enc z) (hk : (enc z).size = k)
    {w : World} {ops : Array Oper} {rest : List Oper} {o : Oper} {a : Act} {Q : Exit → Act → World → Prop} (hgd : o.guard = none) (l c : Operand) (ho : o.op = .makeSlice S l c)
    {B n : Nat} {L C : Int} (hl : a.eval l = .int .i64 L) (hc : a.eval c = .int .i64 C) (hL : L = (n : Int)) (hC : C = (n : Int)) (hb : bb * n ≤ 281474976710656) (hn : n ≤ 140737488355328) (hB : B ≤ w.heap.size)
    (h : ∀ w', KRow enc k T w' B (.slice (some ⟨w.heap.size, 0, none⟩) n n) (List.replicate n z) → Below B w w' → wpList P ops Q rest (a.put o.dst (.slice (some ⟨w.heap.size, 0, none⟩) n n)) w') : wpList P ops Q (o :: rest) a w := by
  refine wpList_plain hgd fun K hK => ?_
  obtain ⟨i0, hi0, hz0, hz1, hz2⟩ := info_parts hinfo
  subst hL; subst hC
  obtain ⟨w', hrun, r1, r2⟩ := run_make_full (P := P) w B S T i0 zv k hS hi0 hz0 hz1 .i64 .i64 n (by rw [hz2]; exact hb) (by simp only [maxLen]; omega) hB
  unfold Oper.wp
  simp [execOp, ho, hl, hc, hrun, Result.andThen]
  refine hK _ _ (h w' ?_ ((Below.refl _ _).grown r2 hB fun k hk => by cases hk))
  rw [hz, kCs_replicate z hk] at r1
  unfold KRow
  rw [List.length_replicate]
  exact r1
/-- 'make([]T, 0, n)': no element, room for n. -/
theorem wpList_room_k {P : Program} {S : TypeId} {zv : Value} {bb : Nat} (hS : P.underlying S = some (.slice T)) (hinfo : (P.info? T).map (fun i => (i.zero, i.size, i.bytes)) = some (some zv, k, bb))
    {w : World} {ops : Array Oper} {rest : List Oper} {o : Oper} {a : Act} {Q : Exit → Act → World → Prop} (hgd : o.guard = none) (l c : Operand) (ho : o.op = .makeSlice S l c)
    {B n : Nat} {C : Int} (hl : a.eval l = .int .i64 0) (hc : a.eval c = .int .i64 C) (hC : C = (n : Int)) (hb : bb * n ≤ 281474976710656) (hn : n ≤ 140737488355328) (hB : B ≤ w.heap.size)
    (h : ∀ w', KRow enc k T w' B (.slice (some ⟨w.heap.size, 0, none⟩) 0 n) [] → Below B w w' → wpList P ops Q rest (a.put o.dst (.slice (some ⟨w.heap.size, 0, none⟩) 0 n)) w') : wpList P ops Q (o :: rest) a w := by
  refine wpList_plain hgd fun K hK => ?_
  obtain ⟨i0, hi0, hz0, hz1, hz2⟩ := info_parts hinfo
  subst hC
  obtain ⟨w', hrun, r1, r2⟩ := run_make_own (P := P) w B S T i0 zv k hS hi0 hz0 hz1 .i64 .i64 n (by rw [hz2]; exact hb) (by simp only [maxLen]; omega) hB
  unfold Oper.wp
  simp [execOp, ho, hl, hc, hrun, Result.andThen]
  exact hK _ _ (h w' r1 ((Below.refl _ _).grown r2 hB fun k hk => by cases hk))

theorem run_copy_k {P : Program} (w : World) {S T ty : TypeId} {sz : Nat} (hS : P.underlying S = some (.slice T)) (hs : (P.info? T).map (·.size) = some sz)
    (g o dLen dCap : Nat) (a : Addr) (sLen sCap : Nat) (cur : Array Value) (t : TypeId) (m : Nat) (cs : List Value)
    (hg : w.heap[g]? = some (.cells cur t (0, 0))) (hm : m = Nat.min sLen dLen) (hn : cs.length = m * sz)
    (hsrc : ∀ j v, cs[j]? = some v → w.cell? (a.add j) = some v) (hfit : o + cs.length ≤ cur.size) (h1 : ∀ v ∈ cs, v.oneCell' = true) :
    (Builtin.copy_ #[S, S] ty #[.slice (some ⟨g, o, none⟩) dLen dCap, .slice (some a) sLen sCap]).run P w =
      .ok (goInt m) (w.setRow g (cur.toList.take o ++ cs ++ cur.toList.drop (o + cs.length)).toArray) := by
  have hl := run_firstCells_some (P := P) w sz m a sLen sCap cs hn hsrc
  have hst := run_storeCells_at P g o t cs 0 cur w hg (by simpa using hfit) h1
  cases hq : P.info? T with
  | none => simp [hq] at hs
  | some i =>
    have hi : i.size = sz := by simpa [hq] using hs
    simp [Builtin.copy_, run_underlying hS, Builtin.lenOf, sizeOf, typeInfo, hq, hi, ← hm, hl, hst]
theorem run_copy_no {P : Program} (w : World) {S T ty : TypeId} {sz : Nat} (hS : P.underlying S = some (.slice T)) (hs : (P.info? T).map (·.size) = some sz)
    (dp sp : Option Addr) (dLen dCap sLen sCap : Nat) (hm : Nat.min sLen dLen = 0) :
    (Builtin.copy_ #[S, S] ty #[.slice dp dLen dCap, .slice sp sLen sCap]).run P w = .ok (goInt 0) w := by
  cases hq : P.info? T with
  | none => simp [hq] at hs
  | some i =>
    cases sp with
    | none => cases dp <;> simp [Builtin.copy_, run_underlying hS, Builtin.lenOf, Builtin.firstCells, sizeOf, typeInfo, hq, hm, storeCells]
    | some a =>
      have hl := run_firstCells_some (P := P) w i.size 0 a sLen sCap [] (by simp) (fun j v h => by simp at h)
      cases dp <;> simp [Builtin.copy_, run_underlying hS, Builtin.lenOf, sizeOf, typeInfo, hq, hm, hl, storeCells]
theorem take_splice {β : Type} (A Y : List β) (p M : Nat) (h : p + Y.length ≤ M) (hA : M ≤ A.length) :
    (A.take p ++ Y ++ A.drop (p + Y.length)).take M = (A.take M).take p ++ Y ++ (A.take M).drop (p + Y.length) := by
  have hp : (A.take p).length = p := by rw [List.length_take]; omega
  rw [List.take_append, List.take_of_length_le (by rw [List.length_append, hp]; exact h), List.take_take, Nat.min_eq_left (by omega), List.length_append, hp, List.drop_take]
/-- A row of the call's own, written over from a place on. -/
theorem KRow.splice (hk : ∀ x, (enc x).size = k) {w : World} {B g N cap off : Nat} {X Y : List α} (hX : KRow enc k T w B (.slice (some ⟨g, 0, none⟩) N cap) X) (hfit : off + Y.length ≤ X.length) :
    ∃ cur, w.heap[g]? = some (.cells cur T (0, 0)) ∧ B ≤ g ∧ off * k + (kCs enc Y).length ≤ cur.size ∧
      KRow enc k T (w.setRow g (cur.toList.take (off * k) ++ kCs enc Y ++ cur.toList.drop (off * k + (kCs enc Y).length)).toArray) B (.slice (some ⟨g, 0, none⟩) N cap) (X.take off ++ Y ++ X.drop (off + Y.length)) := by
  have hX0 := hX
  rcases hX.2 with ⟨h', _⟩ | ⟨g', cap', cur, h', hB, hg, hnc, hcm, hcs, htake⟩
  · simp at h'
  simp only [Value.slice.injEq, Option.some.injEq, Addr.mk.injEq, and_true] at h'
  obtain ⟨rfl, hN, rfl⟩ := h'
  have hY : (kCs enc Y).length = Y.length * k := kCs_len hk Y
  have hq1 : (off + Y.length) * k ≤ X.length * k := Nat.mul_le_mul_right k hfit
  have hq2 : X.length * k ≤ cap * k := Nat.mul_le_mul_right k hnc
  rw [Nat.add_mul] at hq1
  have hq3 : X.length * k ≤ cur.toList.length := by
    have e := Array.length_toList (xs := cur)
    omega
  have hlen : (X.take off ++ Y ++ X.drop (off + Y.length)).length = X.length := by
    simp only [List.length_append, List.length_take, List.length_drop]; omega
  refine ⟨cur, hg, hB, by rw [hcs, hY]; omega, ⟨by rw [kCs_len hk], .inr ⟨g, cap, _, by rw [hN, hlen], hB, setRow_heap w g _ _ T _ hg, by rw [hlen]; exact hnc, hcm, ?_, ?_⟩⟩⟩
  · rw [List.size_toArray]
    simp only [List.length_append, List.length_take, List.length_drop, Array.length_toList, hcs, hY]
    omega
  · rw [hlen]
    show ((cur.toList.take (off * k) ++ kCs enc Y ++ cur.toList.drop (off * k + (kCs enc Y).length))).take (X.length * k) = _
    rw [take_splice cur.toList (kCs enc Y) (off * k) (X.length * k) (by rw [hY]; exact hq1) hq3, htake, kCs_append, kCs_append, kCs_take hk, kCs_drop hk, hY, Nat.add_mul]
/-- 'copy' onto a row of the call's own, from place 'off' on. -/
theorem wpList_copy_k {P : Program} {S : TypeId} (hS : P.underlying S = some (.slice T)) (hsz : (P.info? T).map (·.size) = some k) (hpos : 0 < k) (hk : ∀ x, (enc x).size = k) (h1 : ∀ x, (enc x).toList.all (·.oneCell') = true)
    {w : World} {ops : Array Oper} {rest : List Oper} {o : Oper} {a : Act} {Q : Exit → Act → World → Prop} (hgd : o.guard = none) (d s : Operand)
    (ho : o.op = .call { callee := .builtin .copy, args := #[d, s], argTypes := #[S, S] })
    {dp : Option Addr} {dLen dCap : Nat} {sv : Value} (hd : a.eval d = .slice dp dLen dCap) (hs : a.eval s = sv)
    {B g N cap off : Nat} {X Y : List α} (hX : KRow enc k T w B (.slice (some ⟨g, 0, none⟩) N cap) X) (hY : KArg enc k w sv Y) (hle : Y.length ≤ dLen) (hfit : off + Y.length ≤ X.length) (hdp : 0 < Y.length → dp = some ⟨g, off * k, none⟩)
    (h : ∀ w', KRow enc k T w' B (.slice (some ⟨g, 0, none⟩) N cap) (X.take off ++ Y ++ X.drop (off + Y.length)) → Below B w w' → wpList P ops Q rest (a.put o.dst (goInt Y.length)) w') : wpList P ops Q (o :: rest) a w := by
  refine wpList_plain hgd fun K hK => ?_
  obtain ⟨A, c, rfl⟩ := hY.form
  have hmin : Nat.min Y.length dLen = Y.length := Nat.min_eq_left hle
  rcases Nat.eq_zero_or_pos Y.length with h0 | h0
  · have hY0 : Y = [] := List.eq_nil_of_length_eq_zero h0
    subst hY0
    have hrun := run_copy_no (P := P) (ty := o.type) w hS hsz dp A dLen dCap 0 c (by simp)
    unfold Oper.wp
    simp [execOp, ho, resolve, invoke, builtin, hd, hs, hrun, Result.andThen]
    refine hK _ _ (h w (by simpa using hX) (Below.refl _ _))
  · obtain ⟨cur, hg, hB, hfit2, hR⟩ := KRow.splice hk hX hfit
    have hA : ∃ ad, A = some ad := by
      obtain ⟨A', c', e, hA⟩ := hY
      simp only [Value.slice.injEq] at e
      obtain ⟨rfl, _, _⟩ := e
      obtain ⟨g', o', e, _⟩ := hA h0
      exact ⟨_, e⟩
    obtain ⟨ad, rfl⟩ := hA
    have hrun := run_copy_k (P := P) (ty := o.type) w hS hsz g (off * k) dLen dCap ad Y.length c cur T Y.length (kCs enc Y) hg hmin.symm (kCs_len hk Y) (hY.cells hk hpos) hfit2 (kCs_one h1 Y)
    rw [hdp h0] at hd
    unfold Oper.wp execOp
    simp only [ho, resolve, invoke, builtin, Sem.run_bind, Sem.run_pure, Result.andThen_ok, List.map_toArray, List.map_cons, List.map_nil, hd, hs, hrun]
    exact hK _ _ (h _ hR (below_setRow (Below.refl _ _) hB _))

/-- 'append(row, slice...)', the slice one that is read. -/
theorem wpList_append_arg {P : Program} {S : TypeId} {zv : Value} {bb : Nat} (hS : P.underlying S = some (.slice T)) (hinfo : (P.info? T).map (fun i => (i.zero, i.size, i.bytes)) = some (some zv, k, bb)) (hz : zv.cells.size = k) (hpos : 0 < k) (hk : ∀ x, (enc x).size = k) (h1 : ∀ x, (enc x).toList.all (·.oneCell') = true)
    {w : World} {ops : Array Oper} {rest : List Oper} {o : Oper} {a : Act} {Q : Exit → Act → World → Prop} (hgd : o.guard = none) (s x : Operand)
    (ho : o.op = .call { callee := .builtin .append, args := #[s, x], argTypes := #[S, S] })
    {B : Nat} {v sv : Value} {X Y : List α} (hs : a.eval s = v) (hx : a.eval x = sv) (hX : KRow enc k T w B v X) (hY : KArg enc k w sv Y) (hB : B ≤ w.heap.size) (hn : X.length + Y.length ≤ 140737488355328) (hb : (X.length + Y.length) * bb ≤ 140737488355328)
    (h : ∀ v' w', KRow enc k T w' B v' (X ++ Y) → Below B w w' → wpList P ops Q rest (a.put o.dst v') w') : wpList P ops Q (o :: rest) a w := by
  refine wpList_plain hgd fun K hK => ?_
  obtain ⟨i0, hi0, hz0, hz1, hz2⟩ := info_parts hinfo
  obtain ⟨A, c, rfl⟩ := hY.form
  cases A with
  | none =>
    have h0 : Y = [] := by
      obtain ⟨A', c', e, hA⟩ := hY
      simp only [Value.slice.injEq] at e
      obtain ⟨rfl, _, _⟩ := e
      rcases Nat.eq_zero_or_pos Y.length with h0 | h0
      · exact List.eq_nil_of_length_eq_zero h0
      · obtain ⟨g', o', e, _⟩ := hA h0
        cases e
    subst h0
    have hrun : (Builtin.append_ #[S, S] o.type #[v, .slice none ([] : List α).length c]).run P w = .ok v w := by
      rcases hX.2 with ⟨rfl, h0⟩ | ⟨g, cap, cur, rfl, _, _, hnc, _⟩
      · simp [Builtin.append_, run_underlying hS, sizeOf, typeInfo, hi0, Builtin.lenOf, Builtin.firstCells]
      · simp [Builtin.append_, run_underlying hS, sizeOf, typeInfo, hi0, Builtin.lenOf, Builtin.firstCells, hnc, storeCells]
    unfold Oper.wp execOp
    simp only [ho, resolve, invoke, builtin, Sem.run_bind, Sem.run_pure, Result.andThen_ok, List.map_toArray, List.map_cons, List.map_nil, hs, hx, hrun]
    exact hK _ _ (h v w (by rw [List.append_nil]; exact hX) (Below.refl _ _))
  | some ad =>
    obtain ⟨v', w', hrun, r1, r2, _⟩ := run_append_own (P := P) w B S o.type T i0 zv k bb hS hi0 hz0 hz1 hz2 hz hpos v X.length (kCs enc X) hX ad Y.length c (kCs enc Y) (kCs_len hk Y) (hY.cells hk hpos) (kCs_one h1 Y) (by simp only [maxLen]; omega) hb hB
    unfold Oper.wp execOp
    simp only [ho, resolve, invoke, builtin, Sem.run_bind, Sem.run_pure, Result.andThen_ok, List.map_toArray, List.map_cons, List.map_nil, hs, hx, hrun]
    refine hK _ _ (h v' w' ?_ ((Below.refl _ _).grown r2 hB fun k hk => (KRow.lt hX k hk).1))
    unfold KRow
    rw [kCs_append, List.length_append]
    exact r1

/-- The first n elements of a row: the same block, cut. -/
theorem KRow.first (hk : ∀ x, (enc x).size = k) {w : World} {B g N cap n : Nat} {X : List α} (h : KRow enc k T w B (.slice (some ⟨g, 0, none⟩) N cap) X) (hn : n ≤ X.length) : KRow enc k T w B (.slice (some ⟨g, 0, none⟩) n cap) (X.take n) := by
  rcases h.2 with ⟨h', _⟩ | ⟨g', cap', cur, h', hB, hg, hnc, hcm, hcs, htake⟩
  · simp at h'
  simp only [Value.slice.injEq, Option.some.injEq, Addr.mk.injEq, and_true] at h'
  obtain ⟨rfl, hN, rfl⟩ := h'
  have hl : (X.take n).length = n := by rw [List.length_take]; omega
  refine ⟨kCs_len hk _, .inr ⟨g, cap, cur, by rw [hl], hB, hg, by omega, hcm, hcs, ?_⟩⟩
  rw [hl, kCs_take hk, ← htake, List.take_take, Nat.min_eq_left (Nat.mul_le_mul_right k hn)]
/-- The length of a row, and its room, off its value. -/
theorem KRow.len {w : World} {B g N cap : Nat} {X : List α} (h : KRow enc k T w B (.slice (some ⟨g, 0, none⟩) N cap) X) : N = X.length ∧ N ≤ cap ∧ B ≤ g ∧ g < w.heap.size := by
  rcases h.2 with ⟨h', _⟩ | ⟨g', cap', cur, h', hB, hg, hnc, hcm, hcs, htake⟩
  · simp at h'
  simp only [Value.slice.injEq, Option.some.injEq, Addr.mk.injEq, and_true] at h'
  obtain ⟨rfl, hN, rfl⟩ := h'
  exact ⟨hN, by omega, hB, (Array.getElem?_eq_some_iff.1 hg).1⟩
/-- One cell of an element stored. -/
theorem KRow.cellSet (hk : ∀ x, (enc x).size = k) {w : World} {B g N cap : Nat} {X : List α} (h : KRow enc k T w B (.slice (some ⟨g, 0, none⟩) N cap) X) (j i : Nat) (hj : j < X.length) (hi : i < k) (u : Value) (y : α) (hy : enc y = (enc X[j]).setIfInBounds i u) :
    KRow enc k T (w.setCell ⟨g, j * k + i, none⟩ u) B (.slice (some ⟨g, 0, none⟩) N cap) (X.set j y) := by
  obtain ⟨rfl, _⟩ := h.len
  have h1 := (World.ownsRow.stored h (j * k + i) u).1
  unfold KRow
  rw [List.length_set]
  have e : (kCs enc X).set (j * k + i) u = kCs enc (X.set j y) := by
    rw [kCs_set1 hk X j hj y, hy]
    apply List.ext_getElem?
    intro q
    have hc : j * k + k ≤ X.length * k := by have := Nat.mul_le_mul_right k (show j + 1 ≤ X.length from hj); rw [Nat.add_mul, Nat.one_mul] at this; exact this
    have hL := kCs_len hk X
    have hA : ((kCs enc X).take (j * k)).length = j * k := by rw [List.length_take]; omega
    have hE : ((enc X[j]).setIfInBounds i u).toList.length = k := by simp [hk]
    rw [List.getElem?_set]
    by_cases c1 : q < j * k
    · rw [if_neg (by omega), List.append_assoc, List.getElem?_append_left (by omega), List.getElem?_take, if_pos c1]
    · by_cases c2 : q < j * k + k
      · rw [List.getElem?_append_left (by rw [List.length_append]; omega), List.getElem?_append_right (by omega), hA]
        have hq : q = j * k + (q - j * k) := by omega
        have hat := kCs_at hk X j hj (q - j * k) (by omega)
        rw [← hq] at hat
        rw [hat, Array.getElem?_toList, Array.getElem?_setIfInBounds]
        by_cases c3 : j * k + i = q
        · rw [if_pos c3, if_pos (by rw [hL]; omega), if_pos (by omega), if_pos (by rw [hk]; omega)]
        · rw [if_neg c3, if_neg (by omega)]
      · rw [if_neg (by omega), List.getElem?_append_right (by rw [List.length_append]; omega), List.length_append, hA, hE, List.getElem?_drop]
        congr 1
        omega
  rw [← e]
  exact h1
end

end Go.Proofs.Yteccafndplaklaa

namespace Go.Proofs.Yteccafndplaklaa
open Go Go.RowKit Go.Joins
set_option linter.unusedVariables false

section
variable {α : Type} {enc : α → Array Value} {k : Nat} {T : TypeId}
theorem append_arg_run {P : Program} {S ty : TypeId} {zv : Value} {bb : Nat} (hS : P.underlying S = some (.slice T)) (hinfo : (P.info? T).map (fun i => (i.zero, i.size, i.bytes)) = some (some zv, k, bb)) (hz : zv.cells.size = k) (hpos : 0 < k) (hk : ∀ x, (enc x).size = k) (h1 : ∀ x, (enc x).toList.all (·.oneCell') = true)
    {w : World} {B : Nat} {v sv : Value} {X Y : List α} (hX : KRow enc k T w B v X) (hY : KArg enc k w sv Y) (hB : B ≤ w.heap.size) (hn : X.length + Y.length ≤ 140737488355328) (hb : (X.length + Y.length) * bb ≤ 140737488355328) :
    ∃ v' w', (Builtin.append_ #[S, S] ty #[v, sv]).run P w = .ok v' w' ∧ KRow enc k T w' B v' (X ++ Y) ∧ Below B w w' ∧ (∀ k, k < w.heap.size → some k ≠ v.ownBlock → w'.heap[k]? = w.heap[k]?) := by
  obtain ⟨i0, hi0, hz0, hz1, hz2⟩ := info_parts hinfo
  obtain ⟨A, c, rfl⟩ := hY.form
  cases A with
  | none =>
    have h0 : Y = [] := by
      obtain ⟨A', c', e, hA⟩ := hY
      simp only [Value.slice.injEq] at e
      obtain ⟨rfl, _, _⟩ := e
      rcases Nat.eq_zero_or_pos Y.length with h0 | h0
      · exact List.eq_nil_of_length_eq_zero h0
      · obtain ⟨g', o', e, _⟩ := hA h0
        cases e
    subst h0
    have hrun : (Builtin.append_ #[S, S] ty #[v, .slice none ([] : List α).length c]).run P w = .ok v w := by
      rcases hX.2 with ⟨rfl, h0⟩ | ⟨g, cap, cur, rfl, _, _, hnc, _⟩
      · simp [Builtin.append_, run_underlying hS, sizeOf, typeInfo, hi0, Builtin.lenOf, Builtin.firstCells]
      · simp [Builtin.append_, run_underlying hS, sizeOf, typeInfo, hi0, Builtin.lenOf, Builtin.firstCells, hnc, storeCells]
    exact ⟨v, w, hrun, by rw [List.append_nil]; exact hX, Below.refl _ _, fun _ _ _ => rfl⟩
  | some ad =>
    obtain ⟨v', w', hrun, r1, r2, _⟩ := run_append_own (P := P) w B S ty T i0 zv k bb hS hi0 hz0 hz1 hz2 hz hpos v X.length (kCs enc X) hX ad Y.length c (kCs enc Y) (kCs_len hk Y) (hY.cells hk hpos) (kCs_one h1 Y) (by simp only [maxLen]; omega) hb hB
    refine ⟨v', w', hrun, ?_, ((Below.refl _ _).grown r2 hB fun k hk => (KRow.lt hX k hk).1), fun k hk hne => r2.block k hk hne⟩
    unfold KRow
    rw [kCs_append, List.length_append]
    exact r1
theorem step_append_arg {P : Program} {S : TypeId} {zv : Value} {bb : Nat} (hS : P.underlying S = some (.slice T)) (hinfo : (P.info? T).map (fun i => (i.zero, i.size, i.bytes)) = some (some zv, k, bb)) (hz : zv.cells.size = k) (hpos : 0 < k) (hk : ∀ x, (enc x).size = k) (h1 : ∀ x, (enc x).toList.all (·.oneCell') = true)
    {w : World} {ops : Array Oper} {o : Oper} {a : Act} {K : Act → World → Prop} {Q : Exit → Act → World → Prop} {E : Prop} (hgd : o.guard = none) (s x : Operand)
    (ho : o.op = .call { callee := .builtin .append, args := #[s, x], argTypes := #[S, S] })
    {B : Nat} {v sv : Value} {X Y : List α} (hs : a.eval s = v) (hx : a.eval x = sv) (hX : KRow enc k T w B v X) (hY : KArg enc k w sv Y) (hB : B ≤ w.heap.size) (hn : X.length + Y.length ≤ 140737488355328) (hb : (X.length + Y.length) * bb ≤ 140737488355328)
    (h : ∀ v' w', KRow enc k T w' B v' (X ++ Y) → Below B w w' → (∀ k, k < w.heap.size → some k ≠ v.ownBlock → w'.heap[k]? = w.heap[k]?) → K (a.put o.dst v') w') : if Region.wanted o (yielded ops a.tmps) = true then Oper.wp P o a w K Q else E := by
  have hw : Region.wanted o (yielded ops a.tmps) = true := by simp [Region.wanted, hgd]
  rw [if_pos hw]
  obtain ⟨v', w', hrun, r1, r2, r3⟩ := append_arg_run (P := P) (ty := o.type) hS hinfo hz hpos hk h1 hX hY hB hn hb
  unfold Oper.wp execOp
  simp only [ho, resolve, invoke, builtin, Sem.run_bind, Sem.run_pure, Result.andThen_ok, List.map_toArray, List.map_cons, List.map_nil, hs, hx, hrun]
  exact h v' w' r1 r2 r3
end

end Go.Proofs.Yteccafndplaklaa

namespace Go.Proofs.Yteccafndplaklaa
open Go Go.RowKit Go.Joins
set_option linter.unusedVariables false
set_option linter.unusedSimpArgs false

abbrev Ps := Int × Int
/-- The ticks left of the run that a position is in. -/
def rm (W : List Rn) (p : Ps) : Int := (W.getD p.1.toNat (0, 0)).2 - p.2
def mnF : Int → List (List Rn) → List Ps → Int
  | a, W :: ws, p :: G => mnF (min a (rm W p)) ws G
  | a, _, _ => a
theorem mnF_cons (a : Int) (W : List Rn) (ws : List (List Rn)) (p : Ps) (G : List Ps) : mnF a (W :: ws) (p :: G) = mnF (min a (rm W p)) ws G := rfl
theorem mnF_drop (a : Int) (ws : List (List Rn)) (G : List Ps) (i : Nat) (hi : i < ws.length) (hG : i < G.length) : mnF a (ws.drop i) (G.drop i) = mnF (min a (rm ws[i] G[i])) (ws.drop (i + 1)) (G.drop (i + 1)) := by
  rw [List.drop_eq_getElem_cons hi, List.drop_eq_getElem_cons hG, mnF_cons]
theorem mnF_le (a : Int) (ws : List (List Rn)) (G : List Ps) : mnF a ws G ≤ a := by
  induction ws generalizing a G with
  | nil => simp [mnF]
  | cons W ws ih =>
    cases G with
    | nil => simp [mnF]
    | cons p G => have := ih (min a (rm W p)) G; rw [mnF_cons]; omega
theorem mnF_each (a : Int) (ws : List (List Rn)) (G : List Ps) (i : Nat) (hi : i < ws.length) (hG : i < G.length) : mnF a ws G ≤ rm ws[i] G[i] := by
  induction ws generalizing a G i with
  | nil => simp at hi
  | cons W ws ih =>
    cases G with
    | nil => simp at hG
    | cons p G =>
      rw [mnF_cons]
      cases i with
      | zero => have := mnF_le (min a (rm W p)) ws G; simp only [List.getElem_cons_zero]; omega
      | succ i => simpa using ih (min a (rm W p)) G i (by simpa using hi) (by simpa using hG)
theorem mnF_some (a : Int) (ws : List (List Rn)) (G : List Ps) : mnF a ws G = a ∨ ∃ (i : Nat) (hi : i < ws.length) (hG : i < G.length), mnF a ws G = rm ws[i] G[i] := by
  induction ws generalizing a G with
  | nil => exact .inl (by simp [mnF])
  | cons W ws ih =>
    cases G with
    | nil => exact .inl (by simp [mnF])
    | cons p G =>
      rw [mnF_cons]
      rcases ih (min a (rm W p)) G with h | ⟨i, hi, hG, h⟩
      · rw [h]
        by_cases c : a ≤ rm W p
        · exact .inl (by omega)
        · exact .inr ⟨0, by simp, by simp, by simp only [List.getElem_cons_zero]; omega⟩
      · exact .inr ⟨i + 1, by simpa using hi, by simpa using hG, by simpa using h⟩
theorem mnF_pos {a : Int} {ws : List (List Rn)} {G : List Ps} (ha : 1 ≤ a) (h : ∀ i (hi : i < ws.length) (hG : i < G.length), 1 ≤ rm ws[i] G[i]) : 1 ≤ mnF a ws G := by
  rcases mnF_some a ws G with e | ⟨i, hi, hG, e⟩
  · omega
  · have := h i hi hG; omega

/-- All positions d ticks on. -/
def zw (d : Int) : List (List Rn) → List Ps → List Ps
  | W :: ws, p :: G => av W d p :: zw d ws G
  | _, _ => []
theorem zw_len (d : Int) (ws : List (List Rn)) (G : List Ps) (h : ws.length = G.length) : (zw d ws G).length = G.length := by
  induction ws generalizing G with
  | nil => cases G with
    | nil => rfl
    | cons p G => simp at h
  | cons W ws ih =>
    cases G with
    | nil => simp at h
    | cons p G => simp only [zw, List.length_cons]; rw [ih G (by simpa using h)]
theorem zw_at (d : Int) (ws : List (List Rn)) (G : List Ps) (h : ws.length = G.length) (i : Nat) (hi : i < ws.length) (hz : i < (zw d ws G).length) : (zw d ws G)[i] = av ws[i] d (G[i]'(by omega)) := by
  induction ws generalizing G i with
  | nil => simp at hi
  | cons W ws ih =>
    cases G with
    | nil => simp at h
    | cons p G =>
      cases i with
      | zero => rfl
      | succ i => simpa [zw] using ih G (by simpa using h) i (by simpa using hi) (by simpa [zw] using hz)
/-- The first i of them. -/
def mx (d : Int) (ws : List (List Rn)) (G : List Ps) (i : Nat) : List Ps := (zw d ws G).take i ++ G.drop i
theorem mx_zero (d : Int) (ws : List (List Rn)) (G : List Ps) : mx d ws G 0 = G := by simp [mx]
theorem mx_len (d : Int) (ws : List (List Rn)) (G : List Ps) (h : ws.length = G.length) (i : Nat) (hi : i ≤ ws.length) : (mx d ws G i).length = G.length := by
  unfold mx; rw [List.length_append, List.length_take, List.length_drop, zw_len d ws G h]; omega
theorem mx_all (d : Int) (ws : List (List Rn)) (G : List Ps) (h : ws.length = G.length) : mx d ws G ws.length = zw d ws G := by
  unfold mx
  rw [List.take_of_length_le (by rw [zw_len d ws G h]; omega), List.drop_eq_nil_of_le (by omega), List.append_nil]
theorem mx_at (d : Int) (ws : List (List Rn)) (G : List Ps) (h : ws.length = G.length) (i : Nat) (hi : i < ws.length) (hm : i < (mx d ws G i).length) : (mx d ws G i)[i] = G[i]'(by omega) := by
  have hl : ((zw d ws G).take i).length = i := by rw [List.length_take, zw_len d ws G h]; omega
  have h2 : (mx d ws G i)[i]? = some (G[i]'(by omega)) := by
    unfold mx
    rw [List.getElem?_append_right (by omega), hl, Nat.sub_self, List.getElem?_drop, Nat.add_zero, List.getElem?_eq_getElem (by omega)]
  exact (List.getElem?_eq_some_iff.1 h2).2
theorem mx_set (d : Int) (ws : List (List Rn)) (G : List Ps) (h : ws.length = G.length) (i : Nat) (hi : i < ws.length) : (mx d ws G i).set i (av ws[i] d (G[i]'(by omega))) = mx d ws G (i + 1) := by
  have hz := zw_len d ws G h
  have hl : ((zw d ws G).take i).length = i := by rw [List.length_take, hz]; omega
  unfold mx
  rw [List.set_append_right _ _ (by omega), hl, Nat.sub_self, List.drop_eq_getElem_cons (show i < G.length by omega), List.set_cons_zero, List.take_succ_eq_append_getElem (by omega), List.append_assoc, zw_at d ws G h i hi (by omega)]
  rfl
theorem zw_sum (d : Int) (ws : List (List Rn)) (G : List Ps) (h : ws.length = G.length) : sj G ≤ sj (zw d ws G) ∧ ((∃ (i : Nat) (hi : i < ws.length) (hG : i < G.length), G[i].2 + d = (ws[i].getD G[i].1.toNat (0, 0)).2) → sj G + 1 ≤ sj (zw d ws G)) := by
  induction ws generalizing G with
  | nil =>
    cases G with
    | nil => exact ⟨Int.le_refl _, fun ⟨i, hi, _⟩ => by simp at hi⟩
    | cons p G => simp at h
  | cons W ws ih =>
    cases G with
    | nil => simp at h
    | cons p G =>
      obtain ⟨i1, i2⟩ := ih G (by simpa using h)
      have ha : p.1 ≤ (av W d p).1 := by unfold av; split <;> simp <;> omega
      simp only [zw, sj]
      refine ⟨by omega, fun ⟨i, hi, hG, he⟩ => ?_⟩
      cases i with
      | zero =>
        have he' : p.2 + d = (W.getD p.1.toNat (0, 0)).2 := he
        have : (av W d p).1 = p.1 + 1 := by unfold av; rw [if_pos he']
        omega
      | succ i =>
        have := i2 ⟨i, by simpa using hi, by simpa using hG, by simpa using he⟩
        omega
/-- All waves stand at the tick t. -/
def Pa (ws : List (List Rn)) (t : Int) (G : List Ps) : Prop := G.length = ws.length ∧ ∀ i (h : i < ws.length) (h' : i < G.length), Pz ws[i] t G[i]
/-- The waves: each valid, all T long. -/
def Wv (ws : List (List Rn)) (T : Int) : Prop := ∀ i (h : i < ws.length), ws[i].length ≤ 262144 ∧ vr 1 0 ws[i] = true ∧ lg ws[i] = T
theorem Wv.ps {ws : List (List Rn)} {T : Int} (h : Wv ws T) (i : Nat) (hi : i < ws.length) : ps ws[i] := ((vr_iff 1 _ 0 (by omega)).1 (h i hi).2.1).2.1
theorem Pa_start {ws : List (List Rn)} {T : Int} (h : Wv ws T) : Pa ws 0 (List.replicate ws.length (0, 0)) := by
  refine ⟨by simp, fun i hi h' => ?_⟩
  rw [List.getElem_replicate]
  exact Pz_start (h.ps i hi)
theorem Pa_rm {ws : List (List Rn)} {T t : Int} {G : List Ps} (hw : Wv ws T) (h : Pa ws t G) (ht : t < T) (i : Nat) (hi : i < ws.length) (hG : i < G.length) : 1 ≤ rm ws[i] G[i] ∧ rm ws[i] G[i] ≤ 1099511627776 ∧ t + rm ws[i] G[i] ≤ T := by
  obtain ⟨j, hj, h1, h3, h4, h5⟩ := Pz_in (h.2 i hi hG) (by rw [(hw i hi).2.2]; exact ht)
  have e : ws[i].getD G[i].1.toNat (0, 0) = ws[i][j] := by rw [h1]; simp [hj]
  have hl := lg_take ws[i] j hj
  have hr := lg_take_range (hw i hi).2.1 (j + 1)
  have hx := el_range (hw i hi).2.1 j hj
  have hT := (hw i hi).2.2
  unfold rm
  rw [e]
  omega
theorem Pa_step {ws : List (List Rn)} {T t d : Int} {G : List Ps} (hw : Wv ws T) (h : Pa ws t G) (ht : t < T) (hd : 0 ≤ d) (hr : ∀ i (hi : i < ws.length) (hG : i < G.length), d ≤ rm ws[i] G[i]) : Pa ws (t + d) (zw d ws G) := by
  refine ⟨by rw [zw_len d ws G h.1.symm]; exact h.1, fun i hi h' => ?_⟩
  rw [zw_at d ws G h.1.symm i hi h']
  exact Pz_step (hw.ps i hi) (h.2 i hi (by have := h.1; omega)) (by rw [(hw i hi).2.2]; exact ht) hd (hr i hi (by have := h.1; omega))
theorem Pa_01 {ws : List (List Rn)} {T : Int} (hw : Wv ws T) {k : Int} (h0 : 0 ≤ k) (h1 : k < T) : w01 ws k := by
  intro w hwm
  obtain ⟨i, hi, rfl⟩ := List.mem_iff_getElem.1 hwm
  obtain ⟨l1, l2, l3⟩ := (vr_iff 1 ws[i] 0 (by omega)).1 (hw i hi).2.1
  obtain ⟨_, r, hr, e⟩ := atv_in h0 l2 (by rw [(hw i hi).2.2]; exact h1)
  have := l1 r hr
  rw [e]; omega
theorem Pa_lvl {ws : List (List Rn)} {T t d : Int} {G : List Ps} (hw : Wv ws T) (h : Pa ws t G) (ht : t < T) (hd : 1 ≤ d) (hr : ∀ i (hi : i < ws.length) (hG : i < G.length), d ≤ rm ws[i] G[i]) {k : Int} (h0 : t ≤ k) (h1 : k < t + d) : lvl ws k = lvl ws t := by
  have key : ∀ n, n ≤ ws.length → lvl (ws.take n) k = lvl (ws.take n) t := by
    intro n
    induction n with
    | zero => intro _; rfl
    | succ n ih =>
      intro hn
      have hG : n < G.length := by have := h.1; omega
      have hz := h.2 n (by omega) hG
      have hT : t < lg ws[n] := by rw [(hw n (by omega)).2.2]; exact ht
      rw [lvl_take _ _ (by omega), lvl_take _ _ (by omega), ih (by omega), Pz_level (hw.ps n (by omega)) hz hT (hr n (by omega) hG) h0 h1, Pz_level (hw.ps n (by omega)) hz hT (hr n (by omega) hG) (Int.le_refl _) (by omega)]
  have := key ws.length (Nat.le_refl _)
  rwa [List.take_length] at this
theorem Pa_sum {ws : List (List Rn)} {t : Int} {G : List Ps} (h : Pa ws t G) : sj G ≤ sl2 ws := by
  obtain ⟨h1, h2⟩ := h
  induction ws generalizing G with
  | nil =>
    cases G with
    | nil => exact Int.le_refl _
    | cons p G => simp at h1
  | cons W ws ih =>
    cases G with
    | nil => simp at h1
    | cons p G =>
      have := ih (G := G) (by simpa using h1) (fun i hi h' => by have := h2 (i + 1) (by simpa using hi) (by simpa using h'); simpa using this)
      obtain ⟨j, e1, e2, _⟩ := h2 0 (by simp) (by simp)
      simp only [List.getElem_cons_zero] at e1 e2
      simp only [sj, sl2]
      omega

/-! Cells of rows. -/
section
variable {α : Type} {enc : α → Array Value} {k : Nat}
theorem kCs_cellSet (hk : ∀ x, (enc x).size = k) (X : List α) (j i : Nat) (hj : j < X.length) (hi : i < k) (u : Value) (y : α) (hy : enc y = (enc X[j]).setIfInBounds i u) : (kCs enc X).set (j * k + i) u = kCs enc (X.set j y) := by
  rw [kCs_set1 hk X j hj y, hy]
  apply List.ext_getElem?
  intro q
  have hc : j * k + k ≤ X.length * k := by have := Nat.mul_le_mul_right k (show j + 1 ≤ X.length from hj); rw [Nat.add_mul, Nat.one_mul] at this; exact this
  have hL := kCs_len hk X
  have hA : ((kCs enc X).take (j * k)).length = j * k := by rw [List.length_take]; omega
  have hE : ((enc X[j]).setIfInBounds i u).toList.length = k := by simp [hk]
  rw [List.getElem?_set]
  by_cases c1 : q < j * k
  · rw [if_neg (by omega), List.append_assoc, List.getElem?_append_left (by omega), List.getElem?_take, if_pos c1]
  · by_cases c2 : q < j * k + k
    · rw [List.getElem?_append_left (by rw [List.length_append]; omega), List.getElem?_append_right (by omega), hA]
      have hq : q = j * k + (q - j * k) := by omega
      have hat := kCs_at hk X j hj (q - j * k) (by omega)
      rw [← hq] at hat
      rw [hat, Array.getElem?_toList, Array.getElem?_setIfInBounds]
      by_cases c3 : j * k + i = q
      · rw [if_pos c3, if_pos (by rw [hL]; omega), if_pos (by omega), if_pos (by rw [hk]; omega)]
      · rw [if_neg c3, if_neg (by omega)]
    · rw [if_neg (by omega), List.getElem?_append_right (by rw [List.length_append]; omega), List.length_append, hA, hE, List.getElem?_drop]
      congr 1
      omega
/-- A block of elements of the call's own. -/
def kArr (enc : α → Array Value) (L : List α) : Array Value := (kCs enc L).toArray
theorem kArr_size (hk : ∀ x, (enc x).size = k) (L : List α) : (kArr enc L).size = L.length * k := by unfold kArr; rw [List.size_toArray, kCs_len hk]
theorem kArr_one (h1 : ∀ x, (enc x).toList.all (·.oneCell') = true) (L : List α) : (kArr enc L).toList.all (·.oneCell') = true := by
  rw [List.all_eq_true]
  intro u hu
  unfold kArr at hu
  exact kCs_one h1 L u (by simpa using hu)
theorem kArr_cell (hk : ∀ x, (enc x).size = k) {w : World} {b : Nat} {T : TypeId} {L : List α} (h : RowAt w b T (kArr enc L)) (j : Nat) (hj : j < L.length) (i : Nat) (hi : i < k) : w.cell? ⟨b, j * k + i, none⟩ = (enc L[j])[i]? := by
  rw [h.cell (j * k + i)]
  unfold kArr
  rw [List.getElem?_toArray]
  exact kCs_at hk L j hj i hi
theorem kArr_set (hk : ∀ x, (enc x).size = k) {w : World} {b : Nat} {T : TypeId} {L : List α} (h : RowAt w b T (kArr enc L)) (j i : Nat) (hj : j < L.length) (hi : i < k) (u : Value) (y : α) (hy : enc y = (enc L[j]).setIfInBounds i u) : RowAt (w.setCell ⟨b, j * k + i, none⟩ u) b T (kArr enc (L.set j y)) := by
  have := h.set (j * k + i) u
  have e : (kArr enc L).setIfInBounds (j * k + i) u = kArr enc (L.set j y) := by
    unfold kArr
    rw [List.setIfInBounds_toArray, kCs_cellSet hk L j i hj hi u y hy]
  rwa [e] at this
end

end Go.Proofs.Yteccafndplaklaa

namespace Go.Proofs.Yteccafndplaklaa
open Go
set_option linter.unusedVariables false
set_option linter.unusedSimpArgs false

theorem Wv.T_range {ws : List (List Rn)} {T : Int} (h : Wv ws T) (h0 : 0 < ws.length) : 0 ≤ T ∧ T ≤ 1099511627776 := by
  have h1 := h 0 h0
  have h2 := vr_range h1.2.1
  rw [h1.2.2] at h2
  exact h2
/-- At the end the first wave's position is its end; before, it is not. -/
theorem Pa_zero {ws : List (List Rn)} {T t : Int} {G : List Ps} (hw : Wv ws T) (h : Pa ws t G) (h0 : 0 < ws.length) (hG : 0 < G.length) (ht : t ≤ T) : ∃ j : Nat, G[0].1 = j ∧ (t < T → j < ws[0].length) ∧ (¬ t < T → j = ws[0].length) := by
  obtain ⟨j, h1, h2, h3, h4, h5, h6⟩ := h.2 0 h0 hG
  refine ⟨j, h1, fun hlt => ?_, fun hlt => ?_⟩
  · obtain ⟨j', hj', e1, _⟩ := Pz_in (h.2 0 h0 hG) (by rw [(hw 0 h0).2.2]; exact hlt)
    omega
  · rcases Nat.lt_or_ge j ws[0].length with c | c
    · have h7 := h5 c
      have h8 := lg_take ws[0] j c
      have h9 := lg_take_range (hw 0 h0).2.1 (j + 1)
      rw [(hw 0 h0).2.2] at h9
      omega
    · omega
/-- What one round does. -/
theorem round_facts {ws : List (List Rn)} {T t : Int} {G : List Ps} {out : List Rn} (hw : Wv ws T) (h : Pa ws t G) (h0 : 0 < ws.length) (ht0 : 0 ≤ t) (ht : t < T) (hc : Cb ws t out) (hs : (out.length : Int) ≤ sj G) (M : Int) (hM : M = 1099511627776 ∨ (∃ hG : 0 < G.length, M = rm ws[0] G[0])) :
    1 ≤ mnF M ws G ∧ t + mnF M ws G ≤ T ∧ (∀ i (hi : i < ws.length) (hG : i < G.length), mnF M ws G ≤ rm ws[i] G[i]) ∧ Pa ws (t + mnF M ws G) (zw (mnF M ws G) ws G) ∧ Cb ws (t + mnF M ws G) (pt out (lvl ws t, mnF M ws G)) ∧ ((pt out (lvl ws t, mnF M ws G)).length : Int) ≤ sj (zw (mnF M ws G) ws G) := by
  have hGl := h.1
  have hG0 : 0 < G.length := by omega
  have r0 := Pa_rm hw h ht 0 h0 hG0
  have hM1 : 1 ≤ M := by
    rcases hM with e | ⟨_, e⟩
    · omega
    · omega
  have hM2 : M ≤ 1099511627776 := by
    rcases hM with e | ⟨_, e⟩
    · omega
    · omega
  have hD1 := mnF_pos (a := M) (ws := ws) (G := G) hM1 (fun i hi hG => (Pa_rm hw h ht i hi hG).1)
  have hDe := fun i hi hG => mnF_each M ws G i hi hG
  have hD0 := hDe 0 h0 hG0
  have hsome : ∃ (i : Nat) (hi : i < ws.length) (hG : i < G.length), mnF M ws G = rm ws[i] G[i] := by
    rcases mnF_some M ws G with e | e
    · refine ⟨0, h0, hG0, ?_⟩
      rcases hM with e2 | ⟨_, e2⟩
      · omega
      · omega
    · exact e
  refine ⟨hD1, by omega, hDe, Pa_step hw h ht (by omega) hDe, Cb_step hc hD1 (fun k k0 k1 => Pa_lvl hw h ht hD1 hDe k0 k1), ?_⟩
  have hz := (zw_sum (mnF M ws G) ws G hGl.symm).2 (by
    obtain ⟨i, hi, hG, e⟩ := hsome
    refine ⟨i, hi, hG, ?_⟩
    rw [e]; unfold rm; omega)
  have hp := (pt_len out (lvl ws t, mnF M ws G)).1
  omega

end Go.Proofs.Yteccafndplaklaa
