/-
  Rows of elements of k cells (structs): those that the call itself has made ('KRow': of its own or nil), and those that are only read ('KArg': arguments, rows). The encoding is given as a function to arrays of cells.
-/
import Derived.Test.YtfbclbolkojjeaaR0
import Derived.Test.YtfbclbolkojjeaaB0
namespace Go.Proofs.Ytfbclbolkojjeaa
open Go Go.RowKit Go.Joins
set_option linter.unusedVariables false

section
variable {α : Type} {enc : α → Array Value} {k : Nat} {T : TypeId}

def kCs (enc : α → Array Value) (l : List α) : List Value := l.flatMap fun t => (enc t).toList
theorem kCs_nil : kCs enc [] = [] := rfl
theorem kCs_cons (t : α) (l : List α) : kCs enc (t :: l) = (enc t).toList ++ kCs enc l := by simp [kCs]
theorem kCs_len (hk : ∀ x, (enc x).size = k) (l : List α) : (kCs enc l).length = l.length * k := by
  induction l with
  | nil => simp [kCs]
  | cons t l ih => rw [kCs_cons, List.length_append, ih, List.length_cons, Nat.add_mul, Array.length_toList, hk]; omega
theorem kCs_snoc (l : List α) (t : α) : kCs enc (l ++ [t]) = kCs enc l ++ (enc t).toList := by simp [kCs]
theorem kCs_append (l r : List α) : kCs enc (l ++ r) = kCs enc l ++ kCs enc r := by simp [kCs]
theorem kCs_at (hk : ∀ x, (enc x).size = k) (l : List α) (j : Nat) (hj : j < l.length) (i : Nat) (hi : i < k) : (kCs enc l)[j * k + i]? = (enc l[j])[i]? := by
  induction l generalizing j with
  | nil => simp at hj
  | cons t l ih =>
    have e4 : (enc t).toList.length = k := by rw [Array.length_toList, hk]
    rw [kCs_cons]
    cases j with
    | zero => rw [List.getElem?_append_left (by omega)]; simp
    | succ j =>
      rw [List.getElem?_append_right (by rw [Nat.add_mul]; omega), e4, show (j + 1) * k + i - k = j * k + i by rw [Nat.add_mul]; omega, ih j (by simpa using hj)]
      rfl

/-- The slice v is of the call's own (at or above B), or nil, and holds these elements. -/
def KRow (enc : α → Array Value) (k : Nat) (T : TypeId) (w : World) (B : Nat) (v : Value) (l : List α) : Prop := w.ownsRow B T k v l.length (kCs enc l)
theorem KRow.nil (w : World) (B : Nat) : KRow enc k T w B (.slice none 0 0) [] := World.ownsRow_nil w B _ k
theorem KRow.form {w : World} {B : Nat} {v : Value} {l : List α} (h : KRow enc k T w B v l) : ∃ A N c, v = .slice A N c ∧ N = l.length := by
  rcases ownsRow_forms h with ⟨rfl, e⟩ | ⟨g, c, rfl⟩
  · exact ⟨none, 0, 0, rfl, e.symm⟩
  · exact ⟨_, _, _, rfl, rfl⟩
theorem KRow.lt {w : World} {B : Nat} {v : Value} {l : List α} (h : KRow enc k T w B v l) : ∀ k, v.ownBlock = some k → B ≤ k ∧ k < w.heap.size := World.ownsRow.lt h
theorem KRow.keep {w w' : World} {B : Nat} {v : Value} {l : List α} (h : KRow enc k T w B v l) (hb : Below w.heap.size w w') : KRow enc k T w' B v l := Below.ownsRow h hb fun k hk => (h.lt k hk).2
theorem KRow.alloc {w : World} {B : Nat} {v : Value} {l : List α} (h : KRow enc k T w B v l) (o : Obj) : KRow enc k T (w.alloc o) B v l := h.keep (ba w o)
theorem KRow.drewN {w : World} {B : Nat} {v : Value} {l : List α} (h : KRow enc k T w B v l) (n : Nat) : KRow enc k T (w.drewN n) B v l := h
theorem KRow.mono {w : World} {B B' : Nat} {v : Value} {l : List α} (h : KRow enc k T w B v l) (hB : B' ≤ B) : KRow enc k T w B' v l :=
  ⟨h.1, h.2.imp id fun ⟨g, cap, cur, h1, h2, h3⟩ => ⟨g, cap, cur, h1, Nat.le_trans hB h2, h3⟩⟩
theorem KRow.full {w : World} {B : Nat} {v : Value} {l : List α} (h : KRow enc k T w B v l) (hl : 0 < l.length) : ∃ g c, v = .slice (some ⟨g, 0, none⟩) l.length c := ownsRow_form h hl
theorem KRow.cell {w : World} {B g n c : Nat} {l : List α} (hk : ∀ x, (enc x).size = k) (h : KRow enc k T w B (.slice (some ⟨g, 0, none⟩) n c) l) (j : Nat) (hj : j < l.length) (i : Nat) (hi : i < k) : w.cell? ⟨g, j * k + i, none⟩ = (enc l[j])[i]? := by
  have hn : n = l.length := by
    obtain ⟨A, N, c', e, hN⟩ := KRow.form h
    simp only [Value.slice.injEq] at e
    omega
  subst hn
  have hm : j * k + i < l.length * k := by have := Nat.mul_le_mul_right k (show j + 1 ≤ l.length from hj); rw [Nat.add_mul, Nat.one_mul] at this; omega
  rw [World.ownsRow.cellAt h (j * k + i) hm]
  exact kCs_at hk l j hj i hi
theorem KRow.frozen {w : World} {B g n c : Nat} {l : List α} (h : KRow enc k T w B (.slice (some ⟨g, 0, none⟩) n c) l) (j : Nat) : w.frozen? ⟨g, j, none⟩ = false := by
  have hn : n = l.length := by
    obtain ⟨A, N, c', e, hN⟩ := KRow.form h
    simp only [Value.slice.injEq] at e
    omega
  subst hn
  exact World.ownsRow.frozenAt h j
/-- A literal of n elements. -/
theorem KRow.lit (hk : ∀ x, (enc x).size = k) (w : World) (B : Nat) (hB : B ≤ w.heap.size) (l : List α) (cs : Array Value) (hcs : cs.toList = kCs enc l) (n : Nat) (hn : n = l.length) (hl : l.length ≤ 140737488355328) :
    KRow enc k T (w.alloc (.cells cs T)) B (.slice (some ⟨w.heap.size, 0, none⟩) n n) l := by
  subst hn
  have := World.ownsRow_lit (size := k) (e := T) w cs l.length hB (by simp only [maxLen]; omega) (by rw [← Array.length_toList, hcs, kCs_len hk])
  rw [hcs] at this
  exact this
/-- One element appended, out of its literal. -/
theorem wpList_append_k {P : Program} {S : TypeId} {z : Value} {bb : Nat} (hS : P.underlying S = some (.slice T)) (hinfo : (P.info? T).map (fun i => (i.zero, i.size, i.bytes)) = some (some z, k, bb)) (hz : z.cells.size = k) (hpos : 0 < k) (hk : ∀ x, (enc x).size = k)
    {w : World} {ops : Array Oper} {rest : List Oper} {o : Oper} {a : Act} {Q : Exit → Act → World → Prop} (hgd : o.guard = none) (s x : Operand)
    (ho : o.op = .call { callee := .builtin .append, args := #[s, x], argTypes := #[S, S] })
    {B c : Nat} {v : Value} {l : List α} {g : Nat} (t : α) {ya : Array Value} (hya : ya = enc t) (hs : a.eval s = v) (hx : a.eval x = .slice (some ⟨g, 0, none⟩) 1 c) (hg : g = w.heap.size) (hf : KRow enc k T w B v l) (hB : B ≤ w.heap.size)
    (h1 : ya.toList.all (·.oneCell') = true) (hn : l.length + 1 ≤ 140737488355328) (hb : (l.length + 1) * bb ≤ 140737488355328)
    (h : ∀ v' w', KRow enc k T w' B v' (l ++ [t]) → Below B w w' → wpList P ops Q rest (a.put o.dst v') w') : wpList P ops Q (o :: rest) a (w.alloc (.cells ya T)) := by
  subst hya
  refine wpList_append_lit (P := P) hS hinfo hz hpos hgd s x ho hs hx hg hf hB (by rw [Array.length_toList, hk]) h1 hn hb fun v' w' r b => h v' w' ?_ b
  unfold KRow
  rw [List.length_append, kCs_snoc]
  exact r
/-- The same; of old blocks, the row's own alone may have changed. -/
theorem wpList_append_k2 {P : Program} {S : TypeId} {z : Value} {bb : Nat} (hS : P.underlying S = some (.slice T)) (hinfo : (P.info? T).map (fun i => (i.zero, i.size, i.bytes)) = some (some z, k, bb)) (hz : z.cells.size = k) (hpos : 0 < k) (hk : ∀ x, (enc x).size = k)
    {w : World} {ops : Array Oper} {rest : List Oper} {o : Oper} {a : Act} {Q : Exit → Act → World → Prop} (hgd : o.guard = none) (s x : Operand)
    (ho : o.op = .call { callee := .builtin .append, args := #[s, x], argTypes := #[S, S] })
    {B c : Nat} {v : Value} {l : List α} {g : Nat} (t : α) {ya : Array Value} (hya : ya = enc t) (hs : a.eval s = v) (hx : a.eval x = .slice (some ⟨g, 0, none⟩) 1 c) (hg : g = w.heap.size) (hf : KRow enc k T w B v l) (hB : B ≤ w.heap.size)
    (h1 : ya.toList.all (·.oneCell') = true) (hn : l.length + 1 ≤ 140737488355328) (hb : (l.length + 1) * bb ≤ 140737488355328)
    (h : ∀ v' w', KRow enc k T w' B v' (l ++ [t]) → Below B w w' → (∀ k, k < w.heap.size → some k ≠ v.ownBlock → w'.heap[k]? = w.heap[k]?) → wpList P ops Q rest (a.put o.dst v') w') : wpList P ops Q (o :: rest) a (w.alloc (.cells ya T)) := by
  subst hya
  refine wpList_append_lit2 (P := P) hS hinfo hz hpos hgd s x ho hs hx hg hf hB (by rw [Array.length_toList, hk]) h1 hn hb fun v' w' r b n => h v' w' ?_ b n
  unfold KRow
  rw [List.length_append, kCs_snoc]
  exact r
/-- A cell of an old block that is not the row's, behind an append. -/
theorem kept_at {w w' : World} {v : Value} (h : ∀ k, k < w.heap.size → some k ≠ v.ownBlock → w'.heap[k]? = w.heap[k]?) (a : Addr) (h1 : a.block < w.heap.size) (h2 : some a.block ≠ v.ownBlock) : w'.cell? a = w.cell? a := World.cell?_of_block (h a.block h1 h2)
/-- Elements that are only read. -/
def KArg (enc : α → Array Value) (k : Nat) (w : World) (v : Value) (l : List α) : Prop := ∃ A c, v = .slice A l.length c ∧
  (0 < l.length → ∃ g o, A = some ⟨g, o, none⟩ ∧ g < w.heap.size ∧ ∀ j (hj : j < l.length) i, i < k → w.cell? ⟨g, o + j * k + i, none⟩ = (enc l[j])[i]?)
theorem KArg.keep {w w' : World} {v : Value} {l : List α} (h : KArg enc k w v l) (hb : Below w.heap.size w w') : KArg enc k w' v l := by
  obtain ⟨A, c, rfl, h⟩ := h
  refine ⟨A, c, rfl, fun h0 => ?_⟩
  obtain ⟨g, o, e, hg, hc⟩ := h h0
  exact ⟨g, o, e, Nat.lt_of_lt_of_le hg hb.size, fun j hj i hi => (hb.cell (p := ⟨g, o + j * k + i, none⟩) hg).trans (hc j hj i hi)⟩
theorem KRow.arg {w : World} {B : Nat} {v : Value} {l : List α} (hk : ∀ x, (enc x).size = k) (h : KRow enc k T w B v l) : KArg enc k w v l := by
  by_cases h0 : 0 < l.length
  · obtain ⟨g, c, rfl⟩ := h.full h0
    exact ⟨_, c, rfl, fun _ => ⟨g, 0, rfl, (h.lt g rfl).2, fun j hj i hi => by rw [Nat.zero_add]; exact h.cell hk j hj i hi⟩⟩
  · obtain ⟨A, N, c, rfl, rfl⟩ := h.form
    exact ⟨A, c, rfl, fun h => absurd h h0⟩
end

end Go.Proofs.Ytfbclbolkojjeaa
