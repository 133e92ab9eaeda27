/-
  Rows of tokens that the call itself has made.
-/
import Derived.Test.YtpeiiomimfiebaaDoorB2
import Derived.Test.YtpeiiomimfiebaaDoorR0
import Derived.Test.YtpeiiomimfiebaaDoorM2
namespace Go.Proofs.YtpeiiomimfiebaaDoor
open Go Go.RowKit Go.Joins
set_option linter.unusedVariables false

def tkC (t : Tok) : Array Value := #[.int .i64 t.k, .string ⟨t.t.toArray⟩, .int .i64 t.v, .int .i64 t.n]
def tkV (t : Tok) : Value := .agg (tkC t)
def tkCs (l : List Tok) : List Value := l.flatMap fun t => (tkC t).toList
theorem tkCs_len (l : List Tok) : (tkCs l).length = 4 * l.length := by
  induction l with
  | nil => rfl
  | cons t l ih =>
    have e : tkCs (t :: l) = (tkC t).toList ++ tkCs l := by simp [tkCs]
    rw [e, List.length_append, ih]
    simp [tkC]; omega
theorem tkCs_snoc (l : List Tok) (t : Tok) : tkCs (l ++ [t]) = tkCs l ++ (tkC t).toList := by simp [tkCs]
theorem tkCs_at (l : List Tok) (j : Nat) (hj : j < l.length) (i : Nat) (hi : i < 4) : (tkCs l)[4 * j + i]? = (tkC l[j])[i]? := by
  induction l generalizing j with
  | nil => simp at hj
  | cons t l ih =>
    have e : tkCs (t :: l) = (tkC t).toList ++ tkCs l := by simp [tkCs]
    have e4 : (tkC t).toList.length = 4 := rfl
    rw [e]
    cases j with
    | zero => rw [List.getElem?_append_left (by omega)]; simp
    | succ j =>
      rw [List.getElem?_append_right (by omega), e4, show 4 * (j + 1) + i - 4 = 4 * j + i by omega, ih j (by simpa using hj)]
      rfl

/-- The slice v is of the call's own (at or above B), or nil, and holds these tokens. -/
def TRow (w : World) (B : Nat) (v : Value) (l : List Tok) : Prop := w.ownsRow B 30 4 v l.length (tkCs l)
theorem TRow.nil (w : World) (B : Nat) : TRow w B (.slice none 0 0) [] := World.ownsRow_nil w B _ 4
theorem TRow.form {w : World} {B : Nat} {v : Value} {l : List Tok} (h : TRow w B v l) : ∃ A N c, v = .slice A N c ∧ N = l.length := by
  rcases ownsRow_forms h with ⟨rfl, e⟩ | ⟨g, c, rfl⟩
  · exact ⟨none, 0, 0, rfl, e.symm⟩
  · exact ⟨_, _, _, rfl, rfl⟩
theorem TRow.lt {w : World} {B : Nat} {v : Value} {l : List Tok} (h : TRow w B v l) : ∀ k, v.ownBlock = some k → B ≤ k ∧ k < w.heap.size := World.ownsRow.lt h
theorem TRow.keep {w w' : World} {B : Nat} {v : Value} {l : List Tok} (h : TRow w B v l) (hb : Below w.heap.size w w') : TRow w' B v l := Below.ownsRow h hb fun k hk => (h.lt k hk).2
theorem TRow.alloc {w : World} {B : Nat} {v : Value} {l : List Tok} (h : TRow w B v l) (o : Obj) : TRow (w.alloc o) B v l := h.keep (ba w o)
theorem TRow.mono {w : World} {B B' : Nat} {v : Value} {l : List Tok} (h : TRow w B v l) (hB : B' ≤ B) : TRow w B' v l :=
  ⟨h.1, h.2.imp id fun ⟨g, cap, cur, h1, h2, h3⟩ => ⟨g, cap, cur, h1, Nat.le_trans hB h2, h3⟩⟩
theorem TRow.empty (w : World) (B : Nat) (hB : B ≤ w.heap.size) : TRow (w.alloc (.cells #[] 30)) B (.slice (some ⟨w.heap.size, 0, none⟩) 0 0) [] :=
  World.ownsRow_lit (size := 4) (e := 30) w #[] 0 hB (by decide) rfl
theorem TRow.full {w : World} {B : Nat} {v : Value} {l : List Tok} (h : TRow w B v l) (hl : 0 < l.length) : ∃ g c, v = .slice (some ⟨g, 0, none⟩) l.length c := ownsRow_form h hl
theorem TRow.cell {w : World} {B g n c : Nat} {l : List Tok} (h : TRow w B (.slice (some ⟨g, 0, none⟩) n c) l) (j : Nat) (hj : j < l.length) (i : Nat) (hi : i < 4) : w.cell? ⟨g, 4 * j + i, none⟩ = (tkC l[j])[i]? := by
  have hn : n = l.length := by
    obtain ⟨A, N, c', e, hN⟩ := TRow.form h
    simp only [Value.slice.injEq] at e
    omega
  subst hn
  rw [World.ownsRow.cellAt h (4 * j + i) (by omega)]
  exact tkCs_at l j hj i hi
theorem token_info : (Tryd.prog.info? 30).map (fun i => (i.zero, i.size, i.bytes)) = some (some (.agg #[.int .i64 0, .string ⟨#[]⟩, .int .i64 0, .int .i64 0]), 4, 40) := by kernel_rfl
/-- A token appended, out of its literal. -/
theorem wpList_append_tok {w : World} {ops : Array Oper} {rest : List Oper} {o : Oper} {a : Act} {Q : Exit → Act → World → Prop} (hgd : o.guard = none) (s x : Operand)
    (ho : o.op = .call { callee := .builtin .append, args := #[s, x], argTypes := #[22, 22] })
    {B c : Nat} {v : Value} {l : List Tok} {g : Nat} (t : Tok) {ya : Array Value} (hya : ya = tkC t) (hs : a.eval s = v) (hx : a.eval x = .slice (some ⟨g, 0, none⟩) 1 c) (hg : g = w.heap.size) (hf : TRow w B v l) (hB : B ≤ w.heap.size) (hn : l.length + 1 ≤ 1099511627776)
    (h : ∀ v' w', TRow w' B v' (l ++ [t]) → Below B w w' → wpList Tryd.prog ops Q rest (a.put o.dst v') w') : wpList Tryd.prog ops Q (o :: rest) a (w.alloc (.cells ya 30)) := by
  subst hya
  refine wpList_append_lit (P := Tryd.prog) Tryd.underlying22 token_info rfl (by omega) hgd s x ho hs hx hg hf hB rfl rfl (by omega) (by omega) fun v' w' r b => h v' w' ?_ b
  unfold TRow
  rw [List.length_append, tkCs_snoc]
  exact r

theorem RowAt.set {w : World} {b : Nat} {T : TypeId} {cs : Array Value} (h : RowAt w b T cs) (j : Nat) (v : Value) : RowAt (w.setCell ⟨b, j, none⟩ v) b T (cs.setIfInBounds j v) := by
  unfold RowAt at *
  have hlt := (Array.getElem?_eq_some_iff.1 h).1
  simp only [World.setCell]
  rw [Array.getElem?_modify, if_pos rfl, h]
  rfl

end Go.Proofs.YtpeiiomimfiebaaDoor
