/-
  Rows of whatever elements that the call itself has made: one element appended out of its literal; rows of strings.
-/
import Derived.Test.YtiimdkamgehioaaDoorB0
import Derived.Test.YtiimdkamgehioaaDoorB1
namespace Go.Proofs.YtiimdkamgehioaaDoor
open Go Go.RowKit Go.Joins
set_option linter.unusedVariables false

/-- The slice v is of the call's own (at or above B), or nil, and holds these strings. -/
def SRow (w : World) (B : Nat) (v : Value) (l : List ByteArray) : Prop := w.ownsRow B 9 1 v l.length (l.map Value.string)
theorem SRow.nil (w : World) (B : Nat) : SRow w B (.slice none 0 0) [] := World.ownsRow_nil w B _ 1
theorem SRow.form {w : World} {B : Nat} {v : Value} {l : List ByteArray} (h : SRow w B v l) : ∃ A N c, v = .slice A N c ∧ N = l.length := by
  rcases ownsRow_forms h with ⟨rfl, e⟩ | ⟨g, c, rfl⟩
  · exact ⟨none, 0, 0, rfl, e.symm⟩
  · exact ⟨_, _, _, rfl, rfl⟩
theorem SRow.lt {w : World} {B : Nat} {v : Value} {l : List ByteArray} (h : SRow w B v l) : ∀ k, v.ownBlock = some k → B ≤ k ∧ k < w.heap.size := World.ownsRow.lt h
theorem SRow.keep {w w' : World} {B : Nat} {v : Value} {l : List ByteArray} (h : SRow w B v l) (hb : Below w.heap.size w w') : SRow w' B v l := Below.ownsRow h hb fun k hk => (h.lt k hk).2
theorem SRow.alloc {w : World} {B : Nat} {v : Value} {l : List ByteArray} (h : SRow w B v l) (o : Obj) : SRow (w.alloc o) B v l := h.keep (ba w o)
theorem SRow.mono {w : World} {B B' : Nat} {v : Value} {l : List ByteArray} (h : SRow w B v l) (hB : B' ≤ B) : SRow w B' v l :=
  ⟨h.1, h.2.imp id fun ⟨g, cap, cur, h1, h2, h3⟩ => ⟨g, cap, cur, h1, Nat.le_trans hB h2, h3⟩⟩
/-- A literal of strings. -/
theorem SRow.lit (w : World) (B : Nat) (hB : B ≤ w.heap.size) (l : List ByteArray) (hl : l.length ≤ 140737488355328) (n : Nat) (hn : n = l.length) : SRow (w.alloc (.cells (l.map Value.string).toArray 9)) B (.slice (some ⟨w.heap.size, 0, none⟩) n n) l := by
  subst hn
  have := World.ownsRow_lit (size := 1) (e := 9) w (l.map Value.string).toArray l.length hB (by simp only [maxLen]; omega) (by simp)
  exact this
theorem SRow.cell {w : World} {B g n c : Nat} {l : List ByteArray} (h : SRow w B (.slice (some ⟨g, 0, none⟩) n c) l) (j : Nat) (hj : j < l.length) : w.cell? ⟨g, j, none⟩ = some (.string l[j]) := by
  have hn : n = l.length := by
    obtain ⟨A, N, c', e, hN⟩ := SRow.form h
    simp only [Value.slice.injEq] at e
    omega
  subst hn
  rw [World.ownsRow.cellAt h j (by omega)]
  simp [hj]
theorem SRow.some {w : World} {B : Nat} {v : Value} {l : List ByteArray} (h : SRow w B v l) (hl : 0 < l.length) : ∃ g c, v = .slice (some ⟨g, 0, none⟩) l.length c := ownsRow_form h hl

theorem string_info : (Tryd.prog.info? 9).map (fun i => (i.zero, i.size, i.bytes)) = some (some (.string ⟨#[]⟩), 1, 16) := by kernel_rfl
/-- A string appended, out of its literal. -/
theorem wpList_append_string {w : World} {ops : Array Oper} {rest : List Oper} {o : Oper} {a : Act} {Q : Exit → Act → World → Prop} (hgd : o.guard = none) (s x : Operand)
    (ho : o.op = .call { callee := .builtin .append, args := #[s, x], argTypes := #[50, 50] })
    {B c : Nat} {v : Value} {l : List ByteArray} {g : Nat} (t : ByteArray) (hs : a.eval s = v) (hx : a.eval x = .slice (some ⟨g, 0, none⟩) 1 c) (hg : g = w.heap.size) (hf : SRow w B v l) (hB : B ≤ w.heap.size) (hn : l.length + 1 ≤ 8796093022208)
    (h : ∀ v' w', SRow w' B v' (l ++ [t]) → Below B w w' → wpList Tryd.prog ops Q rest (a.put o.dst v') w') : wpList Tryd.prog ops Q (o :: rest) a (w.alloc (.cells #[.string t] 9)) := by
  refine wpList_append_lit (P := Tryd.prog) Tryd.underlying50 string_info rfl (by omega) hgd s x ho hs hx hg hf hB rfl rfl (by omega) (by omega) fun v' w' r b => h v' w' ?_ b
  unfold SRow
  rw [List.length_append, List.map_append]
  exact r

end Go.Proofs.YtiimdkamgehioaaDoor
