/-
  Rows of bytes that the call itself has made (also the nil slice): they hold a list; a byte and a string appended, a byte stored, the row's string.
-/
import Derived.Test.YtfbclbolkojjeaaG0
import Derived.Below
import Derived.Laws.OwnMore
import Derived.Deep.AppendLies
import Derived.Deep.Draws
import Derived.Maps.AppendAt
import Derived.OwnWalk
import Derived.Lib.AppendStr
import Derived.Laws.IdiomStrings
namespace Go.Proofs.Ytfbclbolkojjeaa
namespace Sb
open Go.RowKit Go.Joins
set_option linter.unusedVariables false

def cells (l : List UInt8) : List Value := l.map fun b => Value.int .u8 (b.toNat : Int)
theorem cells_length (l : List UInt8) : (cells l).length = l.length := by simp [cells]
theorem cells_append (l r : List UInt8) : cells (l ++ r) = cells l ++ cells r := by simp [cells]
theorem cells_at (l : List UInt8) (j : Nat) (h : j < l.length) : (cells l)[j]? = some (.int .u8 (l[j].toNat : Int)) := by
  simp [cells, List.getElem?_map, List.getElem?_eq_getElem h]
theorem cells_one (l : List UInt8) : ∀ u ∈ cells l, u.oneCell' = true := by
  intro u hu
  simp only [cells, List.mem_map] at hu
  obtain ⟨b, _, rfl⟩ := hu
  rfl
theorem cells_set (l : List UInt8) (j : Nat) (b : UInt8) : (cells l).set j (.int .u8 (b.toNat : Int)) = cells (l.set j b) := by
  simp only [cells, List.map_set]
theorem cells_zeros (n : Nat) : List.replicate n (Value.int .u8 0) = cells (List.replicate n 0) := by
  simp [cells]

/-- The slice v is of the call's own (at or above B), or nil, and holds the bytes l. -/
def Row (w : World) (B : Nat) (v : Value) (l : List UInt8) : Prop := w.ownsRow B 5 1 v l.length (cells l)

theorem Row.nil (w : World) (B : Nat) : Row w B (.slice none 0 0) [] := World.ownsRow_nil w B _ 1
theorem Row.form {w : World} {B : Nat} {v : Value} {l : List UInt8} (h : Row w B v l) : ∃ A N c, v = .slice A N c ∧ N = l.length := by
  rcases ownsRow_forms h with ⟨rfl, e⟩ | ⟨g, c, rfl⟩
  · exact ⟨none, 0, 0, rfl, e.symm⟩
  · exact ⟨_, _, _, rfl, rfl⟩
theorem Row.lt {w : World} {B : Nat} {v : Value} {l : List UInt8} (h : Row w B v l) : ∀ k, v.ownBlock = some k → B ≤ k ∧ k < w.heap.size := World.ownsRow.lt h
theorem Row.below {w w' : World} {B B' : Nat} {v : Value} {l : List UInt8} (h : Row w B v l) (hb : Below B' w w') (hB : ∀ k, v.ownBlock = some k → k < B') : Row w' B v l := by
  refine ⟨h.1, h.2.imp id fun ⟨g, cap, cur, e, h1, h2, h3⟩ => ⟨g, cap, cur, e, h1, ?_, h3⟩⟩
  rw [hb.block g (hB g (by rw [e]; rfl))]; exact h2
theorem Row.keep {w w' : World} {B : Nat} {v : Value} {l : List UInt8} (h : Row w B v l) (hb : Below w.heap.size w w') : Row w' B v l := h.below hb fun k hk => (h.lt k hk).2
theorem Row.alloc {w : World} {B : Nat} {v : Value} {l : List UInt8} (h : Row w B v l) (o : Obj) : Row (w.alloc o) B v l := h.keep (ba w o)
theorem Row.mono {w : World} {B B' : Nat} {v : Value} {l : List UInt8} (h : Row w B v l) (hB : B' ≤ B) : Row w B' v l :=
  ⟨h.1, h.2.imp id fun ⟨g, cap, cur, h1, h2, h3⟩ => ⟨g, cap, cur, h1, Nat.le_trans hB h2, h3⟩⟩
/-- A literal with no element. -/
theorem Row.empty (w : World) (B : Nat) (hB : B ≤ w.heap.size) : Row (w.alloc (.cells #[] 5)) B (.slice (some ⟨w.heap.size, 0, none⟩) 0 0) [] :=
  World.ownsRow_lit (size := 1) (e := 5) w #[] 0 hB (by decide) rfl

theorem byte_info : (Try.prog.info? 5).map (fun i => (i.zero, i.size, i.bytes)) = some (some (.int .u8 0), 1, 1) := by kernel_rfl

/-- The string of a row. -/
theorem Row.conv {w : World} {B : Nat} {v : Value} {l : List UInt8} (h : Row w B v l) : (convert 76 9 v).run Try.prog w = .ok (.string ⟨l.toArray⟩) w := by
  rcases Nat.eq_zero_or_pos l.length with h0 | h0
  · obtain ⟨A, N, c, rfl, hN⟩ := h.form
    obtain rfl : l = [] := List.eq_nil_of_length_eq_zero h0
    obtain rfl : N = 0 := hN
    have e := run_convert_bytes_string (P := Try.prog) w 76 9 5 A 0 c Try.underlying76 Try.underlying5 Try.underlying9
    show (convert 76 9 (.slice A 0 c)).run Try.prog w = _
    rw [e]
    cases A <;> simp [Conv.bytesToString, loadCells] <;> rfl
  · obtain ⟨g, c, rfl⟩ := ownsRow_form h h0
    exact run_convert_bytes_back (P := Try.prog) w 76 9 5 ⟨g, 0, none⟩ c l Try.underlying76 Try.underlying5 Try.underlying9 (fun j hj => by
      rw [Addr.add_lit, Nat.zero_add, World.ownsRow.cellAt h j (by omega)]
      exact cells_at l j hj)

theorem new1 (w : World) (x : Value) (T : TypeId) : (w.alloc (.cells #[x] T)).cell? ⟨w.heap.size, 0, none⟩ = some x := by go_simp

/-- One byte, out of the block that the literal has just laid. -/
theorem wpList_append_new {w : World} {y : Int} {ops : Array Oper} {rest : List Oper} {o : Oper} {a : Act} {Q : Exit → Act → World → Prop} (hgd : o.guard = none) (s x : Operand)
    (ho : o.op = .call { callee := .builtin .append, args := #[s, x], argTypes := #[76, 76] })
    {B c : Nat} {v : Value} {l : List UInt8} (hs : a.eval s = v) (hx : a.eval x = .slice (some ⟨w.heap.size, 0, none⟩) 1 c) (hf : Row w B v l) (hB : B ≤ w.heap.size) (b : UInt8) (hy : y = (b.toNat : Int)) (hl : l.length + 1 ≤ 140737488355328)
    (h : ∀ v' w', Row w' B v' (l ++ [b]) → Below B w w' → wpList Try.prog ops Q rest (a.put o.dst v') w') : wpList Try.prog ops Q (o :: rest) a (w.alloc (.cells #[.int .u8 y] 5)) := by
  subst hy
  refine wpList_plain hgd fun K hK => ?_
  obtain ⟨i0, hi0, hz0, hz1, hz2⟩ := info_parts byte_info
  have hnews : ∀ j u, [Value.int .u8 (b.toNat : Int)][j]? = some u → (w.alloc (.cells #[.int .u8 (b.toNat : Int)] 5)).cell? ((⟨w.heap.size, 0, none⟩ : Addr).add j) = some u := by
    intro j u hj
    match j, hj with
    | 0, hj => rw [show (⟨w.heap.size, 0, none⟩ : Addr).add 0 = ⟨w.heap.size, 0, none⟩ by simp [Addr.add], new1]; simpa using hj
    | k + 1, hj => simp at hj
  obtain ⟨v', w', hrun, r1, r2, _⟩ := run_append_own (P := Try.prog) (w.alloc (.cells #[.int .u8 (b.toNat : Int)] 5)) B 76 o.type 5 i0 _ 1 1 Try.underlying76 hi0 hz0 hz1 hz2 rfl (by omega) v l.length (cells l) (hf.alloc _) ⟨w.heap.size, 0, none⟩ 1 c _ rfl hnews (by simp [Value.oneCell']) (by simp only [maxLen]; omega) (by omega) (le_alloc hB _)
  unfold Oper.wp execOp
  simp only [ho, resolve, invoke, builtin, Sem.run_bind, Sem.run_pure, Result.andThen_ok, List.map_toArray, List.map_cons, List.map_nil, hs, hx, hrun]
  refine hK _ _ (h v' w' ?_ (((ba w _).mono hB).trans ((Below.refl _ _).grown r2 (le_alloc hB _) fun k hk => (hf.lt k hk).1)))
  unfold Row
  rw [cells_append, List.length_append]
  exact r1

/-- A string appended. -/
theorem wpList_append_text {w : World} {ops : Array Oper} {rest : List Oper} {o : Oper} {a : Act} {Q : Exit → Act → World → Prop} (hgd : o.guard = none) (s x : Operand)
    (ho : o.op = .call { callee := .builtin .append, args := #[s, x], argTypes := #[76, 9] })
    {B : Nat} {v : Value} {l : List UInt8} (hs : a.eval s = v) (t : ByteArray) (hx : a.eval x = .string t) (hf : Row w B v l) (hB : B ≤ w.heap.size) (hl : l.length + t.size ≤ 140737488355328)
    (h : ∀ v' w', Row w' B v' (l ++ t.data.toList) → Below B w w' → wpList Try.prog ops Q rest (a.put o.dst v') w') : wpList Try.prog ops Q (o :: rest) a w := by
  refine wpList_plain hgd fun K hK => ?_
  obtain ⟨i0, hi0, hz0, hz1, hz2⟩ := info_parts byte_info
  obtain ⟨v', w', hrun, r1, r2, _⟩ := Lib.run_append_own_string (P := Try.prog) w B 76 9 o.type 5 i0 Try.underlying76 Try.underlying9 hi0 hz0 hz1 hz2 v l.length (cells l) hf t (by simp only [maxLen]; omega) hl hB
  unfold Oper.wp execOp
  simp only [ho, resolve, invoke, builtin, Sem.run_bind, Sem.run_pure, Result.andThen_ok, List.map_toArray, List.map_cons, List.map_nil, hs, hx, hrun]
  refine hK _ _ (h v' w' ?_ ((Below.refl _ _).grown r2 hB fun k hk => (hf.lt k hk).1))
  unfold Row
  rw [cells_append, List.length_append, ← size_len]
  exact r1

/-- 'make([]byte, 0, n)'. -/
theorem wpList_make_empty {w : World} {ops : Array Oper} {rest : List Oper} {o : Oper} {a : Act} {Q : Exit → Act → World → Prop} (hgd : o.guard = none) (l c : Operand) (ho : o.op = Op.makeSlice 76 l c)
    (kl kc : IntKind) (C : Int) (n : Nat) (hl : a.eval l = .int kl 0) (hc : a.eval c = .int kc C) (hC : C = (n : Int)) (hn : n ≤ 140737488355328)
    (h : ∀ v w', Row w' w.heap.size v [] → Below w.heap.size w w' → wpList Try.prog ops Q rest (a.put o.dst v) w') : wpList Try.prog ops Q (o :: rest) a w := by
  obtain ⟨i0, hi0, hz0, hz1, hz2⟩ := info_parts byte_info
  refine wpList_make_own (P := Try.prog) w hgd l c 76 ho w.heap.size 5 i0 _ 1 Try.underlying76 hi0 hz0 hz1 kl kc C n hl hc hC (by rw [hz2]; omega) (by simp only [maxLen]; omega) (Nat.le_refl _) fun w' h1 h2 => h _ w' h1 ((Below.refl _ _).grown h2 (Nat.le_refl _) (by simp))

/-- 'make([]byte, n)': n zeros; what is stored there leaves the rest. -/
theorem wpList_make_zeros {w : World} {ops : Array Oper} {rest : List Oper} {o : Oper} {a : Act} {Q : Exit → Act → World → Prop} (hgd : o.guard = none) (l c : Operand) (ho : o.op = Op.makeSlice 76 l c)
    (kl kc : IntKind) (L C : Int) (n : Nat) (hl : a.eval l = .int kl L) (hc : a.eval c = .int kc C) (hL : L = (n : Int)) (hC : C = (n : Int)) (hn : n ≤ 140737488355328)
    (h : ∀ w', Row w' w.heap.size (.slice (some ⟨w.heap.size, 0, none⟩) n n) (List.replicate n 0) → Below w.heap.size w w' → wpList Try.prog ops Q rest (a.put o.dst (.slice (some ⟨w.heap.size, 0, none⟩) n n)) w') : wpList Try.prog ops Q (o :: rest) a w := by
  obtain ⟨i0, hi0, hz0, hz1, hz2⟩ := info_parts byte_info
  refine wpList_make_full (P := Try.prog) w hgd l c 76 ho w.heap.size 5 i0 _ 1 Try.underlying76 hi0 hz0 hz1 kl kc L C n hl hc hL hC (by rw [hz2]; omega) (by simp only [maxLen]; omega) (Nat.le_refl _) fun w' h1 h2 => h w' ?_ ((Below.refl _ _).grown h2 (Nat.le_refl _) (by simp))
  unfold Row
  rw [List.length_replicate, ← cells_zeros, ← toList_madeCells_one]
  have e : (Value.int .u8 0).cells = #[Value.int .u8 0] := rfl
  rw [e, Nat.mul_one] at h1
  exact h1

/-- A byte stored in a row. -/
theorem Row.set {w : World} {B g n c : Nat} {l : List UInt8} (h : Row w B (.slice (some ⟨g, 0, none⟩) n c) l) (j : Nat) (b : UInt8) (y : Int) (hy : y = (b.toNat : Int)) (hn : n = l.length) :
    Row (w.setCell ⟨g, j, none⟩ (.int .u8 y)) B (.slice (some ⟨g, 0, none⟩) n c) (l.set j b) := by
  subst hy hn
  have := (World.ownsRow.stored h j (.int .u8 (b.toNat : Int))).1
  unfold Row
  rw [List.length_set, ← cells_set]
  exact this
theorem Row.cell {w : World} {B g n c : Nat} {l : List UInt8} (h : Row w B (.slice (some ⟨g, 0, none⟩) n c) l) (hn : n = l.length) (j : Nat) (hj : j < l.length) : w.cell? ⟨g, j, none⟩ = some (.int .u8 (l[j].toNat : Int)) := by
  subst hn
  rw [World.ownsRow.cellAt h j (by omega)]
  exact cells_at l j hj
theorem Row.frozen {w : World} {B g n c : Nat} {l : List UInt8} (h : Row w B (.slice (some ⟨g, 0, none⟩) n c) l) (hn : n = l.length) (j : Nat) : w.frozen? ⟨g, j, none⟩ = false := by
  subst hn
  exact World.ownsRow.frozenAt h j

end Sb
end Go.Proofs.Ytfbclbolkojjeaa
