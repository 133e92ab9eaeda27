/-
  One element appended to a row of the call's own, out of its literal; a row of the call's own below what only makes memory.
  Rows of bytes that the call itself has made (also the nil slice): they hold a list; a byte and a string appended, a byte stored, the row's string.
  The walks of Valid, place and appendBits, and of the specification's Valid and turn.
  The walks of the specification's turn, of appendBits, and of FromInt, the program's and the specification's.
  The walks of number, and of FromInt, the program's and the specification's.
  The walks of Int and FromBytes, the program's and the specification's.
  The walks of fits and Right, the program's and the specification's; a description among a function's arguments.
  The walks of onlyBits and register.
-/
import Derived.Test.YtillcmddbjhepaaGreatDoorZ03
import Derived.Below
import Derived.Laws.OwnMore
import Derived.Deep.AppendLies
import Derived.Deep.Draws
import Derived.Maps.AppendAt
import Derived.OwnWalk
import Derived.Lib.AppendStr
import Derived.Laws.IdiomStrings
import Derived.Test.YtillcmddbjhepaaGreatDoorZ02
import Derived.Deep.DeepMust
import Derived.BigQuiet
namespace Go.Proofs.YtillcmddbjhepaaGreatDoor
open Go Go.RowKit Go.Joins
set_option linter.unusedVariables false

/-- One element, out of the block that the literal has just laid. -/
theorem wpList_append_lit {P : Program} {S T : TypeId} {z : Value} {sz bb : Nat} (hS : P.underlying S = some (.slice T)) (hinfo : (P.info? T).map (fun i => (i.zero, i.size, i.bytes)) = some (some z, sz, bb)) (hz : z.cells.size = sz) (hpos : 0 < sz)
    {w : World} {ops : Array Oper} {rest : List Oper} {o : Oper} {a : Act} {Q : Exit → Act → World → Prop} (hgd : o.guard = none) (s x : Operand)
    (ho : o.op = .call { callee := .builtin .append, args := #[s, x], argTypes := #[S, S] })
    {B n c : Nat} {v : Value} {cs : List Value} {ya : Array Value} {g : Nat} (hs : a.eval s = v) (hx : a.eval x = .slice (some ⟨g, 0, none⟩) 1 c) (hg : g = w.heap.size) (hf : w.ownsRow B T sz v n cs) (hB : B ≤ w.heap.size)
    (hl : ya.toList.length = sz) (h1 : ya.toList.all (·.oneCell') = true) (hn : n + 1 ≤ 140737488355328) (hb : (n + 1) * bb ≤ 140737488355328)
    (h : ∀ v' w', w'.ownsRow B T sz v' (n + 1) (cs ++ ya.toList) → Below B w w' → wpList P ops Q rest (a.put o.dst v') w') : wpList P ops Q (o :: rest) a (w.alloc (.cells ya T)) := by
  subst hg
  refine wpList_plain hgd fun K hK => ?_
  obtain ⟨i0, hi0, hz0, hz1, hz2⟩ := info_parts hinfo
  have hnews : ∀ j u, ya.toList[j]? = some u → (w.alloc (.cells ya T)).cell? ((⟨w.heap.size, 0, none⟩ : Addr).add j) = some u := by
    intro j u hj
    rw [Addr.add_lit, Nat.zero_add]
    have : (w.alloc (.cells ya T)).heap[w.heap.size]? = some (.cells ya T (0, 0)) := by
      show (w.heap.push _)[w.heap.size]? = _
      simp
    rw [cell_of_row _ _ _ _ _ _ this]
    simpa using hj
  obtain ⟨v', w', hrun, r1, r2, _⟩ := run_append_own (P := P) (w.alloc (.cells ya T)) B S o.type T i0 z sz bb hS hi0 hz0 hz1 hz2 hz hpos v n cs (hf.alloc _) ⟨w.heap.size, 0, none⟩ 1 c ya.toList (by omega) hnews (fun u hu => List.all_eq_true.1 h1 u hu) (by simp only [maxLen]; omega) hb (le_alloc hB _)
  unfold Oper.wp execOp
  simp only [ho, resolve, invoke, builtin, Sem.run_bind, Sem.run_pure, Result.andThen_ok, List.map_toArray, List.map_cons, List.map_nil, hs, hx, hrun]
  refine hK _ _ (h v' w' r1 (((ba w _).mono hB).trans ((Below.refl _ _).grown r2 (le_alloc hB _) fun k hk => (World.ownsRow.lt hf k hk).1)))

/-- The same; of old blocks, the row's own alone may have changed. -/
theorem wpList_append_lit2 {P : Program} {S T : TypeId} {z : Value} {sz bb : Nat} (hS : P.underlying S = some (.slice T)) (hinfo : (P.info? T).map (fun i => (i.zero, i.size, i.bytes)) = some (some z, sz, bb)) (hz : z.cells.size = sz) (hpos : 0 < sz)
    {w : World} {ops : Array Oper} {rest : List Oper} {o : Oper} {a : Act} {Q : Exit → Act → World → Prop} (hgd : o.guard = none) (s x : Operand)
    (ho : o.op = .call { callee := .builtin .append, args := #[s, x], argTypes := #[S, S] })
    {B n c : Nat} {v : Value} {cs : List Value} {ya : Array Value} {g : Nat} (hs : a.eval s = v) (hx : a.eval x = .slice (some ⟨g, 0, none⟩) 1 c) (hg : g = w.heap.size) (hf : w.ownsRow B T sz v n cs) (hB : B ≤ w.heap.size)
    (hl : ya.toList.length = sz) (h1 : ya.toList.all (·.oneCell') = true) (hn : n + 1 ≤ 140737488355328) (hb : (n + 1) * bb ≤ 140737488355328)
    (h : ∀ v' w', w'.ownsRow B T sz v' (n + 1) (cs ++ ya.toList) → Below B w w' → (∀ k, k < w.heap.size → some k ≠ v.ownBlock → w'.heap[k]? = w.heap[k]?) → wpList P ops Q rest (a.put o.dst v') w') : wpList P ops Q (o :: rest) a (w.alloc (.cells ya T)) := by
  subst hg
  refine wpList_plain hgd fun K hK => ?_
  obtain ⟨i0, hi0, hz0, hz1, hz2⟩ := info_parts hinfo
  have hnews : ∀ j u, ya.toList[j]? = some u → (w.alloc (.cells ya T)).cell? ((⟨w.heap.size, 0, none⟩ : Addr).add j) = some u := by
    intro j u hj
    rw [Addr.add_lit, Nat.zero_add]
    have : (w.alloc (.cells ya T)).heap[w.heap.size]? = some (.cells ya T (0, 0)) := by
      show (w.heap.push _)[w.heap.size]? = _
      simp
    rw [cell_of_row _ _ _ _ _ _ this]
    simpa using hj
  obtain ⟨v', w', hrun, r1, r2, _⟩ := run_append_own (P := P) (w.alloc (.cells ya T)) B S o.type T i0 z sz bb hS hi0 hz0 hz1 hz2 hz hpos v n cs (hf.alloc _) ⟨w.heap.size, 0, none⟩ 1 c ya.toList (by omega) hnews (fun u hu => List.all_eq_true.1 h1 u hu) (by simp only [maxLen]; omega) hb (le_alloc hB _)
  unfold Oper.wp execOp
  simp only [ho, resolve, invoke, builtin, Sem.run_bind, Sem.run_pure, Result.andThen_ok, List.map_toArray, List.map_cons, List.map_nil, hs, hx, hrun]
  refine hK _ _ (h v' w' r1 (((ba w _).mono hB).trans ((Below.refl _ _).grown r2 (le_alloc hB _) fun k hk => (World.ownsRow.lt hf k hk).1)) fun k hk hne => (r2.block k (by rw [World.size_alloc]; omega) hne).trans (Below.heap_alloc w _ k hk))

theorem Below.ownsRow {w w' : World} {B B' : Nat} {T : TypeId} {sz : Nat} {v : Value} {n : Nat} {cs : List Value} (h : w.ownsRow B T sz v n cs) (hb : Below B' w w') (hB : ∀ k, v.ownBlock = some k → k < B') : w'.ownsRow B T sz v n cs := by
  refine ⟨h.1, h.2.imp id fun ⟨g, cap, cur, e, h1, h2, h3⟩ => ⟨g, cap, cur, e, h1, ?_, h3⟩⟩
  rw [hb.block g (hB g (by rw [e]; rfl))]; exact h2

end Go.Proofs.YtillcmddbjhepaaGreatDoor

namespace Go.Proofs.YtillcmddbjhepaaGreatDoor
namespace Sd
open Go.RowKit Go.Joins
set_option linter.unusedVariables false

def cells (l : List UInt8) : List Value := l.map fun b => Value.int .u8 (b.toNat : Int)
theorem cells_length (l : List UInt8) : (cells l).length = l.length := by simp [cells]
theorem cells_append (l r : List UInt8) : cells (l ++ r) = cells l ++ cells r := by simp [cells]
theorem cells_at (l : List UInt8) (j : Nat) (h : j < l.length) : (cells l)[j]? = some (.int .u8 (l[j].toNat : Int)) := by
  simp [cells, List.getElem?_map, List.getElem?_eq_getElem h]
theorem cells_one (l : List UInt8) : ∀ u ∈ cells l, u.oneCell' = true := by
  intro u hu
  simp only [cells, List.mem_map] at hu
  obtain ⟨b, _, rfl⟩ := hu
  rfl
theorem cells_set (l : List UInt8) (j : Nat) (b : UInt8) : (cells l).set j (.int .u8 (b.toNat : Int)) = cells (l.set j b) := by
  simp only [cells, List.map_set]
theorem cells_zeros (n : Nat) : List.replicate n (Value.int .u8 0) = cells (List.replicate n 0) := by
  simp [cells]

/-- The slice v is of the call's own (at or above B), or nil, and holds the bytes l. -/
def Row (w : World) (B : Nat) (v : Value) (l : List UInt8) : Prop := w.ownsRow B 5 1 v l.length (cells l)

theorem Row.nil (w : World) (B : Nat) : Row w B (.slice none 0 0) [] := World.ownsRow_nil w B _ 1
theorem Row.form {w : World} {B : Nat} {v : Value} {l : List UInt8} (h : Row w B v l) : ∃ A N c, v = .slice A N c ∧ N = l.length := by
  rcases ownsRow_forms h with ⟨rfl, e⟩ | ⟨g, c, rfl⟩
  · exact ⟨none, 0, 0, rfl, e.symm⟩
  · exact ⟨_, _, _, rfl, rfl⟩
theorem Row.lt {w : World} {B : Nat} {v : Value} {l : List UInt8} (h : Row w B v l) : ∀ k, v.ownBlock = some k → B ≤ k ∧ k < w.heap.size := World.ownsRow.lt h
theorem Row.below {w w' : World} {B B' : Nat} {v : Value} {l : List UInt8} (h : Row w B v l) (hb : Below B' w w') (hB : ∀ k, v.ownBlock = some k → k < B') : Row w' B v l := by
  refine ⟨h.1, h.2.imp id fun ⟨g, cap, cur, e, h1, h2, h3⟩ => ⟨g, cap, cur, e, h1, ?_, h3⟩⟩
  rw [hb.block g (hB g (by rw [e]; rfl))]; exact h2
theorem Row.keep {w w' : World} {B : Nat} {v : Value} {l : List UInt8} (h : Row w B v l) (hb : Below w.heap.size w w') : Row w' B v l := h.below hb fun k hk => (h.lt k hk).2
theorem Row.alloc {w : World} {B : Nat} {v : Value} {l : List UInt8} (h : Row w B v l) (o : Obj) : Row (w.alloc o) B v l := h.keep (ba w o)
theorem Row.mono {w : World} {B B' : Nat} {v : Value} {l : List UInt8} (h : Row w B v l) (hB : B' ≤ B) : Row w B' v l :=
  ⟨h.1, h.2.imp id fun ⟨g, cap, cur, h1, h2, h3⟩ => ⟨g, cap, cur, h1, Nat.le_trans hB h2, h3⟩⟩
/-- A literal with no element. -/
theorem Row.empty (w : World) (B : Nat) (hB : B ≤ w.heap.size) : Row (w.alloc (.cells #[] 5)) B (.slice (some ⟨w.heap.size, 0, none⟩) 0 0) [] :=
  World.ownsRow_lit (size := 1) (e := 5) w #[] 0 hB (by decide) rfl

theorem byte_info : (Tryz.prog.info? 5).map (fun i => (i.zero, i.size, i.bytes)) = some (some (.int .u8 0), 1, 1) := by kernel_rfl

/-- The string of a row. -/
theorem Row.conv {w : World} {B : Nat} {v : Value} {l : List UInt8} (h : Row w B v l) : (convert 60 9 v).run Tryz.prog w = .ok (.string ⟨l.toArray⟩) w := by
  rcases Nat.eq_zero_or_pos l.length with h0 | h0
  · obtain ⟨A, N, c, rfl, hN⟩ := h.form
    obtain rfl : l = [] := List.eq_nil_of_length_eq_zero h0
    obtain rfl : N = 0 := hN
    have e := run_convert_bytes_string (P := Tryz.prog) w 60 9 5 A 0 c Tryz.underlying60 Tryz.underlying5 Tryz.underlying9
    show (convert 60 9 (.slice A 0 c)).run Tryz.prog w = _
    rw [e]
    cases A <;> simp [Conv.bytesToString, loadCells] <;> rfl
  · obtain ⟨g, c, rfl⟩ := ownsRow_form h h0
    exact run_convert_bytes_back (P := Tryz.prog) w 60 9 5 ⟨g, 0, none⟩ c l Tryz.underlying60 Tryz.underlying5 Tryz.underlying9 (fun j hj => by
      rw [Addr.add_lit, Nat.zero_add, World.ownsRow.cellAt h j (by omega)]
      exact cells_at l j hj)

theorem new1 (w : World) (x : Value) (T : TypeId) : (w.alloc (.cells #[x] T)).cell? ⟨w.heap.size, 0, none⟩ = some x := by go_simp

/-- One byte, out of the block that the literal has just laid. -/
theorem wpList_append_new {w : World} {y : Int} {ops : Array Oper} {rest : List Oper} {o : Oper} {a : Act} {Q : Exit → Act → World → Prop} (hgd : o.guard = none) (s x : Operand)
    (ho : o.op = .call { callee := .builtin .append, args := #[s, x], argTypes := #[60, 60] })
    {B c : Nat} {v : Value} {l : List UInt8} (hs : a.eval s = v) (hx : a.eval x = .slice (some ⟨w.heap.size, 0, none⟩) 1 c) (hf : Row w B v l) (hB : B ≤ w.heap.size) (b : UInt8) (hy : y = (b.toNat : Int)) (hl : l.length + 1 ≤ 140737488355328)
    (h : ∀ v' w', Row w' B v' (l ++ [b]) → Below B w w' → wpList Tryz.prog ops Q rest (a.put o.dst v') w') : wpList Tryz.prog ops Q (o :: rest) a (w.alloc (.cells #[.int .u8 y] 5)) := by
  subst hy
  refine wpList_plain hgd fun K hK => ?_
  obtain ⟨i0, hi0, hz0, hz1, hz2⟩ := info_parts byte_info
  have hnews : ∀ j u, [Value.int .u8 (b.toNat : Int)][j]? = some u → (w.alloc (.cells #[.int .u8 (b.toNat : Int)] 5)).cell? ((⟨w.heap.size, 0, none⟩ : Addr).add j) = some u := by
    intro j u hj
    match j, hj with
    | 0, hj => rw [show (⟨w.heap.size, 0, none⟩ : Addr).add 0 = ⟨w.heap.size, 0, none⟩ by simp [Addr.add], new1]; simpa using hj
    | k + 1, hj => simp at hj
  obtain ⟨v', w', hrun, r1, r2, _⟩ := run_append_own (P := Tryz.prog) (w.alloc (.cells #[.int .u8 (b.toNat : Int)] 5)) B 60 o.type 5 i0 _ 1 1 Tryz.underlying60 hi0 hz0 hz1 hz2 rfl (by omega) v l.length (cells l) (hf.alloc _) ⟨w.heap.size, 0, none⟩ 1 c _ rfl hnews (by simp [Value.oneCell']) (by simp only [maxLen]; omega) (by omega) (le_alloc hB _)
  unfold Oper.wp execOp
  simp only [ho, resolve, invoke, builtin, Sem.run_bind, Sem.run_pure, Result.andThen_ok, List.map_toArray, List.map_cons, List.map_nil, hs, hx, hrun]
  refine hK _ _ (h v' w' ?_ (((ba w _).mono hB).trans ((Below.refl _ _).grown r2 (le_alloc hB _) fun k hk => (hf.lt k hk).1)))
  unfold Row
  rw [cells_append, List.length_append]
  exact r1

/-- A string appended. -/
theorem wpList_append_text {w : World} {ops : Array Oper} {rest : List Oper} {o : Oper} {a : Act} {Q : Exit → Act → World → Prop} (hgd : o.guard = none) (s x : Operand)
    (ho : o.op = .call { callee := .builtin .append, args := #[s, x], argTypes := #[60, 9] })
    {B : Nat} {v : Value} {l : List UInt8} (hs : a.eval s = v) (t : ByteArray) (hx : a.eval x = .string t) (hf : Row w B v l) (hB : B ≤ w.heap.size) (hl : l.length + t.size ≤ 140737488355328)
    (h : ∀ v' w', Row w' B v' (l ++ t.data.toList) → Below B w w' → wpList Tryz.prog ops Q rest (a.put o.dst v') w') : wpList Tryz.prog ops Q (o :: rest) a w := by
  refine wpList_plain hgd fun K hK => ?_
  obtain ⟨i0, hi0, hz0, hz1, hz2⟩ := info_parts byte_info
  obtain ⟨v', w', hrun, r1, r2, _⟩ := Lib.run_append_own_string (P := Tryz.prog) w B 60 9 o.type 5 i0 Tryz.underlying60 Tryz.underlying9 hi0 hz0 hz1 hz2 v l.length (cells l) hf t (by simp only [maxLen]; omega) hl hB
  unfold Oper.wp execOp
  simp only [ho, resolve, invoke, builtin, Sem.run_bind, Sem.run_pure, Result.andThen_ok, List.map_toArray, List.map_cons, List.map_nil, hs, hx, hrun]
  refine hK _ _ (h v' w' ?_ ((Below.refl _ _).grown r2 hB fun k hk => (hf.lt k hk).1))
  unfold Row
  rw [cells_append, List.length_append, ← size_len]
  exact r1

/-- 'make([]byte, 0, n)'. -/
theorem wpList_make_empty {w : World} {ops : Array Oper} {rest : List Oper} {o : Oper} {a : Act} {Q : Exit → Act → World → Prop} (hgd : o.guard = none) (l c : Operand) (ho : o.op = Op.makeSlice 60 l c)
    (kl kc : IntKind) (C : Int) (n : Nat) (hl : a.eval l = .int kl 0) (hc : a.eval c = .int kc C) (hC : C = (n : Int)) (hn : n ≤ 140737488355328)
    (h : ∀ v w', Row w' w.heap.size v [] → Below w.heap.size w w' → wpList Tryz.prog ops Q rest (a.put o.dst v) w') : wpList Tryz.prog ops Q (o :: rest) a w := by
  obtain ⟨i0, hi0, hz0, hz1, hz2⟩ := info_parts byte_info
  refine wpList_make_own (P := Tryz.prog) w hgd l c 60 ho w.heap.size 5 i0 _ 1 Tryz.underlying60 hi0 hz0 hz1 kl kc C n hl hc hC (by rw [hz2]; omega) (by simp only [maxLen]; omega) (Nat.le_refl _) fun w' h1 h2 => h _ w' h1 ((Below.refl _ _).grown h2 (Nat.le_refl _) (by simp))

/-- 'make([]byte, n)': n zeros; what is stored there leaves the rest. -/
theorem wpList_make_zeros {w : World} {ops : Array Oper} {rest : List Oper} {o : Oper} {a : Act} {Q : Exit → Act → World → Prop} (hgd : o.guard = none) (l c : Operand) (ho : o.op = Op.makeSlice 60 l c)
    (kl kc : IntKind) (L C : Int) (n : Nat) (hl : a.eval l = .int kl L) (hc : a.eval c = .int kc C) (hL : L = (n : Int)) (hC : C = (n : Int)) (hn : n ≤ 140737488355328)
    (h : ∀ w', Row w' w.heap.size (.slice (some ⟨w.heap.size, 0, none⟩) n n) (List.replicate n 0) → Below w.heap.size w w' → wpList Tryz.prog ops Q rest (a.put o.dst (.slice (some ⟨w.heap.size, 0, none⟩) n n)) w') : wpList Tryz.prog ops Q (o :: rest) a w := by
  obtain ⟨i0, hi0, hz0, hz1, hz2⟩ := info_parts byte_info
  refine wpList_make_full (P := Tryz.prog) w hgd l c 60 ho w.heap.size 5 i0 _ 1 Tryz.underlying60 hi0 hz0 hz1 kl kc L C n hl hc hL hC (by rw [hz2]; omega) (by simp only [maxLen]; omega) (Nat.le_refl _) fun w' h1 h2 => h w' ?_ ((Below.refl _ _).grown h2 (Nat.le_refl _) (by simp))
  unfold Row
  rw [List.length_replicate, ← cells_zeros, ← toList_madeCells_one]
  have e : (Value.int .u8 0).cells = #[Value.int .u8 0] := rfl
  rw [e, Nat.mul_one] at h1
  exact h1

/-- A byte stored in a row. -/
theorem Row.set {w : World} {B g n c : Nat} {l : List UInt8} (h : Row w B (.slice (some ⟨g, 0, none⟩) n c) l) (j : Nat) (b : UInt8) (y : Int) (hy : y = (b.toNat : Int)) (hn : n = l.length) :
    Row (w.setCell ⟨g, j, none⟩ (.int .u8 y)) B (.slice (some ⟨g, 0, none⟩) n c) (l.set j b) := by
  subst hy hn
  have := (World.ownsRow.stored h j (.int .u8 (b.toNat : Int))).1
  unfold Row
  rw [List.length_set, ← cells_set]
  exact this
theorem Row.cell {w : World} {B g n c : Nat} {l : List UInt8} (h : Row w B (.slice (some ⟨g, 0, none⟩) n c) l) (hn : n = l.length) (j : Nat) (hj : j < l.length) : w.cell? ⟨g, j, none⟩ = some (.int .u8 (l[j].toNat : Int)) := by
  subst hn
  rw [World.ownsRow.cellAt h j (by omega)]
  exact cells_at l j hj
theorem Row.frozen {w : World} {B g n c : Nat} {l : List UInt8} (h : Row w B (.slice (some ⟨g, 0, none⟩) n c) l) (hn : n = l.length) (j : Nat) : w.frozen? ⟨g, j, none⟩ = false := by
  subst hn
  exact World.ownsRow.frozenAt h j

end Sd
end Go.Proofs.YtillcmddbjhepaaGreatDoor

namespace Go.Proofs.YtillcmddbjhepaaGreatDoor
namespace Sd
open Go.RowKit
set_option linter.unusedVariables false
set_option linter.unusedSimpArgs false

theorem okb_long {s : ByteArray} (h : 65536 < s.size) : okB s.data.toList = false := okB_long (by rw [← size_len]; exact h)
theorem okb_bad {s : ByteArray} (j : Nat) (hj : j < s.size) (h : s[j].toNat ≠ 48) (h' : s[j].toNat ≠ 49) : okB s.data.toList = false :=
  okB_bad j (by rw [← size_len]; exact hj) h h'
theorem okb_all {s : ByteArray} (h : s.size ≤ 65536) (h' : ∀ j (hj : j < s.size), s[j].toNat = 48 ∨ s[j].toNat = 49) : okB s.data.toList = true :=
  okB_all (by rw [← size_len]; exact h) fun j hj => h' j (by rw [size_len]; exact hj)

set_option maxHeartbeats 1000000 in
theorem valid_any (s : ByteArray) (w : World) (hs : s.size ≤ 140737488351232) :
    Calls Tryz.prog 129 #[.string s] w fun e w' => e = .returned (.bool (okB s.data.toList)) ∧ w = w' := by
  have hs' : (s.size : Int) ≤ 140737488351232 := by omega
  by_cases hbig : 65536 < s.size
  · have HB := Lib.hid (okb_long hbig)
    go_enter Tryz.func129, Tryz.ntmps129
    go_wp2
    go_returns
    exact ⟨ret_bool HB.out.symm, rfl⟩
  · have HBad := Lib.hid (@okb_bad s)
    have HAll := Lib.hid (okb_all (s := s) (by omega))
    go_enter Tryz.func129, Tryz.ntmps129
    go_wp2
    go_loop [9] (fun x => ∃ k : Nat, k ≤ s.size ∧ x = .int .i64 k ∧ Hid (∀ j (hj : j < s.size), j < k → s[j].toNat = 48 ∨ s[j].toNat = 49)) (fun x => s.size - (intOf x).toNat)
    case atStart => exact ⟨0, by omega, rfl, fun j hj h => by omega⟩
    case round =>
      obtain ⟨k, hk, rfl, HC⟩ := hrel
      by_cases he : k = s.size
      · have HT := Lib.hid (HAll.out fun j hj => HC.out j hj (by omega))
        go_wp2
        go_returns
        exact ⟨ret_bool HT.out.symm, rfl⟩
      · have hlt : k < s.size := by omega
        go_wp2
        all_goals first
          | (go_returns
             exact ⟨ret_bool (HBad.out k hlt (by (first | omega | (simp only [beq_iff_eq, beq_eq_false_iff_ne, bne_iff_ne, ne_eq, bne_eq_false_iff_eq] at *; omega))) (by (first | omega | (simp only [beq_iff_eq, beq_eq_false_iff_ne, bne_iff_ne, ne_eq, bne_eq_false_iff_eq] at *; omega)))).symm, rfl⟩)
          | (have hb : s[k].toNat = 48 ∨ s[k].toNat = 49 := by (first | omega | (simp only [beq_iff_eq, beq_eq_false_iff_ne, bne_iff_ne, ne_eq, bne_eq_false_iff_eq] at *; omega))
             go_round
             case rel => exact ⟨k + 1, by omega, by go_num, fun j hj hjk => by
               rcases Nat.lt_or_ge j k with h | h
               · exact HC.out j hj h
               · obtain rfl : j = k := by omega
                 exact hb⟩
             case measure => simp [intOf]; omega)

theorem place_any (i W : Nat) (msb : Bool) (w : World) (h : i < W) (hW : W ≤ 65536) :
    Calls Tryz.prog 128 #[.int .i64 i, .int .i64 W, .bool msb] w fun e w' => e = .returned (.int .i64 (pl W msb i : Nat)) ∧ w = w' := by
  cases msb
  · go_enter Tryz.func128, Tryz.ntmps128
    go_wp2
    go_returns
    exact ⟨rfl, rfl⟩
  · have HE := Lib.hid (show ((pl W true i : Nat) : Int) = W - 1 - i by unfold pl; rw [if_pos rfl]; omega)
    go_enter Tryz.func128, Tryz.ntmps128
    go_wp2
    go_returns
    exact ⟨ret_int (by have := HE.out; omega), rfl⟩

end Sd
end Go.Proofs.YtillcmddbjhepaaGreatDoor

namespace Go.Proofs.YtillcmddbjhepaaGreatDoor
namespace Sd
open Go.RowKit
set_option linter.unusedVariables false
set_option linter.unusedSimpArgs false

theorem drop_at (s : ByteArray) (j : Nat) (h : j < s.size) : s.data.toList.drop j = s[j] :: s.data.toList.drop (j + 1) := by
  rw [List.drop_eq_getElem_cons (by simpa using h)]; rfl
theorem turn_step (s : ByteArray) (k : Nat) (h : k < s.size) : (s.data.toList.drop (k + 1)).reverse ++ [s[k]] = (s.data.toList.drop k).reverse := by
  rw [drop_at s k h, List.reverse_cons]

/-- '& 1', and the character. -/
theorem and_1 (x : Int) : bits .and .i64 x 1 = x % 2 := by
  show IntKind.i64.wrap ((BitVec.ofInt 64 x &&& BitVec.ofInt 64 1).toNat : Int) = _
  have e1 : (BitVec.ofInt 64 1).toNat = 1 := by decide
  rw [BitVec.toNat_and, e1, nat_mask1, BitVec.toNat_ofInt, IntKind.wrap_i64]
  omega
theorem bit_y {n : Int} (h0 : -9223372036854775808 ≤ n) (h1 : n ≤ 9223372036854775807) (P : Nat) : (48 + bits .and .i64 (n / 2 ^ P) 1 % 256) % 256 = ((bc n P).toNat : Int) := by
  rw [and_1, bc_val]
  omega

set_option maxRecDepth 20000 in
set_option maxHeartbeats 1000000 in
theorem appendBits_any (v : Value) (l : List UInt8) (n : Int) (W : Nat) (msb : Bool) (w : World) (B : Nat) (hv : Row w B v l) (hB : B ≤ w.heap.size) (hW : W ≤ 62) (hl : l.length ≤ 1048576) (hn0 : -9223372036854775808 ≤ n) (hn1 : n ≤ 9223372036854775807) :
    Calls Tryz.prog 124 #[v, .int .i64 n, .int .i64 W, .bool msb] w fun e w' => ∃ v', e = .returned v' ∧ Row w' B v' (l ++ fi n W msb) ∧ Below B w w' := by
  obtain ⟨A0, N0, c0, rfl, -⟩ := hv.form
  have HV := Lib.hid hv
  go_enter Tryz.func124, Tryz.ntmps124
  go_wp2
  go_loopw [11, 0] (fun x v wr => ∃ k : Nat, k ≤ W ∧ x = .int .i64 k ∧ Hid (Row wr B v (l ++ ab n W msb k)) ∧ Below B w wr) (fun x _ _ => W - (intOf x).toNat)
  case atStart => exact ⟨0, by omega, rfl, by rw [ab_zero, List.append_nil]; exact HV.out, Below.refl _ _⟩
  case round =>
    obtain ⟨k, hk, rfl, HF, hb⟩ := hrel
    have hsz := Nat.le_trans hB hb.size
    obtain ⟨A', N', c', rfl, -⟩ := HF.out.form
    by_cases he : k = W
    · subst he
      go_wp2
      go_returns
      exact ⟨_, rfl, HF.out, hb⟩
    · have hlt : k < W := by omega
      have hp := pl_lt msb hlt
      have HY : Hid ((l ++ ab n W msb k).length + 1 ≤ 140737488355328) := by
        rw [List.length_append, ab_length]; show _ ≤ _; omega
      obtain ⟨P, hP⟩ : ∃ P, pl W msb k = P := ⟨_, rfl⟩
      have HC : ∀ w, Calls Tryz.prog 128 #[.int .i64 k, .int .i64 W, .bool msb] w fun e w' => e = .returned (.int .i64 P) ∧ w = w' := fun w => by
        rw [← hP]; exact place_any k W msb w hlt (by omega)
      rw [hP] at hp
      go_wp2_with (first
        | (go_at_call 128; go_must (refine (HC _).mono ?_; rintro e w1 ⟨rfl, rfl⟩))
        | (at_builtin; go_must (refine wpList_append_new rfl (.tmp 14) (.tmp 24) rfl rfl rfl HF.out hsz (bc n P) ?hy HY.out ?_; (case hy => (rw [and_1, bc_val]; omega)); intro v1 w1 ho1 hb1)))
      go_roundw
      case rel => exact ⟨k + 1, by omega, by go_num, by rw [ab_succ, hP, ← List.append_assoc]; exact ho1, hb.trans hb1⟩
      case measure => simp [intOf]; omega

end Sd
end Go.Proofs.YtillcmddbjhepaaGreatDoor

namespace Go.Proofs.YtillcmddbjhepaaGreatDoor
namespace Sd
open Go.RowKit
set_option linter.unusedVariables false
set_option linter.unusedSimpArgs false

/-- One step of number, as the walk has it. -/
theorem num_or (s : ByteArray) (msb : Bool) (k : Nat) (h : k < s.size) (hs : s.size ≤ 62) (hok : okB s.data.toList = true) (x : Int) (hx : x = ((s[k].toNat - 48 : Nat) : Int) * 2 ^ pl s.size msb k) :
    bits .or .i64 (numK s.data.toList msb k : Nat) x = (numK s.data.toList msb (k + 1) : Nat) := by
  have hl := size_len s
  have hk : k < s.data.toList.length := by omega
  have hb : ∀ b ∈ s.data.toList, b.toNat = 48 ∨ b.toNat = 49 := fun b hb => okB_mem hok hb
  have h1 := numK_lt s.data.toList msb k (by omega) hb
  have h2 := numK_lt s.data.toList msb (k + 1) (by omega) hb
  have h3 := numK_step s.data.toList msb k hk
  have h4 := numK_or s.data.toList msb k hk hb
  have h5 : 2 ^ s.data.toList.length ≤ 2 ^ 62 := Nat.pow_le_pow_right (by omega) (by omega)
  rw [show s.data.toList[k] = s[k] from rfl, ← hl] at h3 h4
  have hx' : x = (((s[k].toNat - 48) * 2 ^ pl s.size msb k : Nat) : Int) := by rw [hx]; simp
  subst hx'
  rw [or_i64 _ _ (by omega) (by omega), h4]

theorem shl_w {d P : Nat} (hd : d = 48 ∨ d = 49) (hP : P < 62) : wrap64 (((d : Int) - 48) * 2 ^ P) = ((d - 48 : Nat) : Int) * 2 ^ P := by
  have h1 : (2 : Int) ^ P = ((2 ^ P : Nat) : Int) := by simp
  have h2 : 2 ^ P ≤ 2 ^ 61 := Nat.pow_le_pow_right (by omega) (by omega)
  have h4 : (0 : Int) ≤ 2 ^ P := Int.le_of_lt (Int.pow_pos (by decide))
  have h5 : (2 : Int) ^ P ≤ 2 ^ 61 := by rw [h1]; exact_mod_cast h2
  have h3 : ∀ x : Int, 0 ≤ x → x ≤ 2 ^ 61 → wrap64 x = x := fun x h0 h1 => by unfold wrap64; omega
  rcases hd with rfl | rfl
  · rw [show ((48 : Nat) : Int) - 48 = 0 by omega, Int.zero_mul, h3 0 (by omega) (by omega)]; simp
  · rw [show ((49 : Nat) : Int) - 48 = 1 by omega, Int.one_mul, h3 _ h4 h5]; simp

set_option maxRecDepth 20000 in
set_option maxHeartbeats 1000000 in
theorem number_any (s : ByteArray) (msb : Bool) (w : World) (hs : s.size ≤ 62) (hok : okB s.data.toList = true) :
    Calls Tryz.prog 130 #[.string s, .bool msb] w fun e w' => e = .returned (.int .i64 (numV s.data.toList msb : Nat)) ∧ Below w.heap.size w w' := by
  have hs' : (s.size : Int) ≤ 62 := by omega
  have HAll := Lib.hid (numK_all s.data.toList msb)
  have HLen := Lib.hid (size_len s)
  have HOk := Lib.hid hok
  go_enter Tryz.func130, Tryz.ntmps130
  go_wp2
  go_loopw [9, 5] (fun x y wr => ∃ k N : Nat, k ≤ s.size ∧ x = .int .i64 k ∧ y = .int .i64 N ∧ Hid (N = numK s.data.toList msb k) ∧ Below w.heap.size w wr) (fun x _ _ => s.size - (intOf x).toNat)
  case atStart => exact ⟨0, 0, by omega, rfl, rfl, (numK_zero _ _).symm, Below.refl _ _⟩
  case round =>
    obtain ⟨k, N, hk, rfl, rfl, HN, hb⟩ := hrel
    by_cases he : k = s.size
    · subst he
      go_wp2
      go_returns
      exact ⟨ret_int (by rw [HN.out, ← HAll.out, ← HLen.out]), hb⟩
    · have hlt : k < s.size := by omega
      have hd : s[k].toNat = 48 ∨ s[k].toNat = 49 := okB_mem HOk.out (by rw [← getElem_toList s k hlt]; exact List.getElem_mem _)
      obtain ⟨P, hP⟩ : ∃ P, pl s.size msb k = P := ⟨_, rfl⟩
      have HC : ∀ w, Calls Tryz.prog 128 #[.int .i64 k, .int .i64 s.size, .bool msb] w fun e w' => e = .returned (.int .i64 P) ∧ w = w' := fun w => by
        rw [← hP]; exact place_any k s.size msb w hlt (by omega)
      have hp := pl_lt msb hlt
      rw [hP] at hp
      have HO := Lib.hid (fun x => num_or s msb k hlt hs HOk.out x)
      rw [hP] at HO
      go_wp2
      go_quiet ((go_at_call 128; go_must (exact Calls.quiet_of_same ((HC _).mono fun _ _ h => ⟨h.1, h.2.symm⟩))))
      go_wp2
      go_roundw
      case rel => 
        refine ⟨k + 1, numK s.data.toList msb (k + 1), by omega, by go_num, val_int ?_, rfl, below_drewN hb _⟩
        rw [← HO.out _ rfl, HN.out, shl_w hd (by omega)]
      case measure => simp [intOf]; omega

/-- What FromInt answers. -/
def fiT (n W : Int) (msb : Bool) : List UInt8 := if 0 ≤ W ∧ W ≤ 62 then fi n W.toNat msb else []
theorem fiT_out {n W : Int} {msb : Bool} (h : W < 0 ∨ 62 < W) : fiT n W msb = [] := by unfold fiT; rw [if_neg (by omega)]
theorem fiT_in (n : Int) {W : Nat} (msb : Bool) (h : W ≤ 62) : fiT n W msb = fi n W msb := by unfold fiT; rw [if_pos (by omega)]; rfl

set_option maxHeartbeats 1000000 in
theorem fromInt_any (n W : Int) (msb : Bool) (w : World) (hn0 : -9223372036854775808 ≤ n) (hn1 : n ≤ 9223372036854775807) :
    Calls Tryz.prog 127 #[.int .i64 n, .int .i64 W, .bool msb] w fun e w' => e = .returned (.string ⟨(fiT n W msb).toArray⟩) ∧ Below w.heap.size w w' := by
  by_cases h : W < 0 ∨ 62 < W
  · rw [fiT_out h]
    rcases h with h | h
    · go_enter Tryz.func127, Tryz.ntmps127
      go_wp2
      go_returns
      exact ⟨rfl, Below.refl _ _⟩
    · go_enter Tryz.func127, Tryz.ntmps127
      go_wp2
      go_returns
      exact ⟨rfl, Below.refl _ _⟩
  · obtain ⟨V, rfl⟩ : ∃ V : Nat, W = V := ⟨W.toNat, by omega⟩
    have hV : V ≤ 62 := by omega
    rw [fiT_in n msb hV]
    have HC := Lib.hid (fun w => appendBits_any (.slice none 0 0) [] n V msb w w.heap.size (Row.nil _ _) (Nat.le_refl _) hV (by simp) hn0 hn1)
    generalize fi n V msb = T at HC ⊢
    clear hn0 hn1 h
    go_enter Tryz.func127, Tryz.ntmps127
    go_wp2_with (go_at_call 124; go_must (refine (HC.out _).mono ?_; rintro e w1 ⟨v1, rfl, ho, hb⟩; obtain ⟨A1, N1, c1, rfl, -⟩ := ho.form; have kc := ho.conv; rw [List.nil_append] at kc))
    go_returns
    exact ⟨rfl, hb⟩

end Sd
end Go.Proofs.YtillcmddbjhepaaGreatDoor

namespace Go.Proofs.YtillcmddbjhepaaGreatDoor
namespace Sd
open Go.RowKit
set_option linter.unusedVariables false
set_option linter.unusedSimpArgs false

/-- What Int answers: the number, and the error. -/
def inV (l : List UInt8) (msb : Bool) : Nat := if okB l = true ∧ l.length ≤ 62 then numV l msb else 0
def inE (l : List UInt8) : Nat := if okB l = true then (if l.length ≤ 62 then 0 else 6) else 4
theorem in_bad {l : List UInt8} (msb : Bool) (h : okB l = false) : inV l msb = 0 ∧ inE l = 4 := by
  unfold inV inE; rw [h]; simp
theorem in_long {l : List UInt8} (msb : Bool) (h : okB l = true) (h' : 62 < l.length) : inV l msb = 0 ∧ inE l = 6 := by
  unfold inV inE; rw [h, if_neg (by omega), if_pos rfl, if_neg (by omega)]; exact ⟨rfl, rfl⟩
theorem in_ok {l : List UInt8} (msb : Bool) (h : okB l = true) (h' : l.length ≤ 62) : inV l msb = numV l msb ∧ inE l = 0 := by
  unfold inV inE; rw [h, if_pos ⟨rfl, h'⟩, if_pos rfl, if_pos h']; exact ⟨rfl, rfl⟩
theorem inV_lt (l : List UInt8) (msb : Bool) : inV l msb < 2 ^ 62 := by
  unfold inV
  split
  · rename_i h
    exact Nat.lt_of_lt_of_le (numV_lt l msb fun b hb => okB_mem h.1 hb) (Nat.pow_le_pow_right (by omega) h.2)
  · decide
def inVal (l : List UInt8) (msb : Bool) : Value := .tuple #[.int .i64 (inV l msb : Nat), .int .i64 (inE l : Nat)]
theorem inVal_of {l : List UInt8} {msb : Bool} {a b : Nat} (h : inV l msb = a ∧ inE l = b) (x y : Int) (hx : x = a) (hy : y = b) : Ending.returned (.tuple #[.int .i64 x, .int .i64 y]) = .returned (inVal l msb) := by
  subst hx hy; unfold inVal; rw [h.1, h.2]

set_option maxHeartbeats 1000000 in
theorem int_any (s : ByteArray) (msb : Bool) (w : World) (hs : s.size ≤ 140737488351232) :
    Calls Tryz.prog 126 #[.string s, .bool msb] w fun e w' => e = .returned (inVal s.data.toList msb) ∧ Below w.heap.size w w' := by
  have hlen := size_len s
  have hs' : (s.size : Int) ≤ 140737488351232 := by omega
  have HV := Lib.hid (fun w => valid_any s w hs)
  rcases hok : okB s.data.toList with _ | _
  · rw [hok] at HV
    have HA := Lib.hid (in_bad msb hok)
    clear hok hlen
    go_enter Tryz.func126, Tryz.ntmps126
    go_wp2_with (go_at_call 129; go_must (refine (HV.out _).mono ?_; rintro e w1 ⟨rfl, rfl⟩))
    go_returns
    exact ⟨inVal_of HA.out _ _ rfl rfl, Below.refl _ _⟩
  · rw [hok] at HV
    by_cases hb : 62 < s.size
    · have HA := Lib.hid (in_long msb hok (by omega))
      clear hok hlen
      go_enter Tryz.func126, Tryz.ntmps126
      go_wp2_with (go_at_call 129; go_must (refine (HV.out _).mono ?_; rintro e w1 ⟨rfl, rfl⟩))
      go_returns
      exact ⟨inVal_of HA.out _ _ rfl rfl, Below.refl _ _⟩
    · have HA := Lib.hid (in_ok msb hok (by omega))
      have HN := Lib.hid (fun w => number_any s msb w (by omega) hok)
      clear hok hlen
      go_enter Tryz.func126, Tryz.ntmps126
      go_wp2_with (first
        | (go_at_call 129; go_must (refine (HV.out _).mono ?_; rintro e w1 ⟨rfl, rfl⟩))
        | (go_at_call 130; go_must (refine (HN.out _).mono ?_; rintro e w1 ⟨rfl, hb1⟩)))
      go_returns
      exact ⟨inVal_of HA.out _ _ rfl rfl, hb1⟩

/-- What FromBytes answers. -/
def fbT (l : List UInt8) (msb : Bool) : List UInt8 := if l.length ≤ 8192 then fb l msb else []
theorem fb_take (s : ByteArray) (msb : Bool) (k : Nat) (h : k < s.size) : fb (s.data.toList.take (k + 1)) msb = fb (s.data.toList.take k) msb ++ fi s[k].toNat 8 msb := by
  rw [take_snoc s k h, fb_snoc]

set_option maxRecDepth 20000 in
set_option maxHeartbeats 1000000 in
theorem fromBytes_any (s : ByteArray) (msb : Bool) (w : World) (hs : s.size ≤ 140737488351232) :
    Calls Tryz.prog 113 #[.string s, .bool msb] w fun e w' => e = .returned (.string ⟨(fbT s.data.toList msb).toArray⟩) ∧ Below w.heap.size w w' := by
  have hlen := size_len s
  have hs' : (s.size : Int) ≤ 140737488351232 := by omega
  by_cases h : 8192 < s.size
  · rw [show fbT s.data.toList msb = [] by unfold fbT; rw [if_neg (by omega)]]
    clear hlen
    go_enter Tryz.func113, Tryz.ntmps113
    go_wp2
    go_returns
    exact ⟨rfl, Below.refl _ _⟩
  · rw [show fbT s.data.toList msb = fb s.data.toList msb by unfold fbT; rw [if_pos (by omega)]]
    have HL := Lib.hid hlen
    clear hlen
    go_enter Tryz.func113, Tryz.ntmps113
    go_wp2_with (at_make; go_must (refine wpList_make_empty rfl _ _ rfl _ _ _ (8 * s.size) rfl rfl (by omega) (by omega) ?_; intro v0 w0 ho0 hb0; obtain ⟨A0, N0, c0, rfl, -⟩ := ho0.form))
    have HF0 := Lib.hid ho0
    clear ho0
    go_loopw [16, 5] (fun x v wr => ∃ k : Nat, k ≤ s.size ∧ x = .int .i64 k ∧ Hid (Row wr w.heap.size v (fb (s.data.toList.take k) msb)) ∧ Below w.heap.size w wr) (fun x _ _ => s.size - (intOf x).toNat)
    case atStart => exact ⟨0, by omega, rfl, by rw [List.take_zero, fb_nil]; exact HF0.out, hb0⟩
    case round =>
      obtain ⟨k, hk, rfl, HF, hb⟩ := hrel
      have hsz := hb.size
      obtain ⟨A', N', c', rfl, -⟩ := HF.out.form
      by_cases he : k = s.size
      · subst he
        have kc := HF.out.conv
        rw [List.take_of_length_le (by rw [← HL.out]; exact Nat.le_refl _)] at kc
        go_wp2
        go_returns
        exact ⟨rfl, hb⟩
      · have hlt : k < s.size := by omega
        have hc0 : s[k].toNat < 256 := UInt8.toNat_lt _
        have HC := Lib.hid (fun v (h : Row wr w.heap.size v (fb (s.data.toList.take k) msb)) => appendBits_any v _ s[k].toNat 8 msb wr w.heap.size h hsz (by omega) (by rw [fb_length, List.length_take_of_le (by rw [← HL.out]; omega)]; omega) (by omega) (by have := UInt8.toNat_lt s[k]; omega))
        go_wp2_with (go_at_call 124; go_must (refine (HC.out _ HF.out).mono ?_; rintro e w1 ⟨v1, rfl, ho1, hb1⟩; obtain ⟨A1, N1, c1, rfl, -⟩ := ho1.form))
        go_roundw
        case rel => exact ⟨k + 1, by omega, by go_num, by rw [fb_take s msb k hlt]; exact ho1, hb.trans hb1⟩
        case measure => simp [intOf]; omega

end Sd
end Go.Proofs.YtillcmddbjhepaaGreatDoor

namespace Go.Proofs.YtillcmddbjhepaaGreatDoor
namespace Sd
open Go.RowKit
set_option linter.unusedVariables false
set_option linter.unusedSimpArgs false

/-- A description as the model holds it. -/
def crV (W P I X : Int) (R : Bool) : Value := .agg #[.int .i64 W, .int .i64 P, .int .i64 I, .int .i64 X, .bool R]
/-- Five cells of a block. -/
def At5 (w : World) (b : Nat) (W P I X : Int) (R : Bool) : Prop :=
  w.cell? ⟨b, 0, none⟩ = some (.int .i64 W) ∧ w.cell? ⟨b, 1, none⟩ = some (.int .i64 P) ∧ w.cell? ⟨b, 2, none⟩ = some (.int .i64 I) ∧ w.cell? ⟨b, 3, none⟩ = some (.int .i64 X) ∧ w.cell? ⟨b, 4, none⟩ = some (.bool R) ∧ b < w.heap.size
theorem At5.new (w : World) (W P I X : Int) (R : Bool) (T : TypeId) : At5 (w.alloc (.cells #[.int .i64 W, .int .i64 P, .int .i64 I, .int .i64 X, .bool R] T)) w.heap.size W P I X R :=
  ⟨by go_simp, by go_simp, by go_simp, by go_simp, by go_simp, by rw [World.size_alloc]; omega⟩
theorem At5.below {w w' : World} {b : Nat} {W P I X : Int} {R : Bool} (h : At5 w b W P I X R) (hb : Below w.heap.size w w') : At5 w' b W P I X R := by
  obtain ⟨h0, h1, h2, h3, h4, h5⟩ := h
  exact ⟨by rw [hb.cell h5]; exact h0, by rw [hb.cell h5]; exact h1, by rw [hb.cell h5]; exact h2, by rw [hb.cell h5]; exact h3, by rw [hb.cell h5]; exact h4, Nat.lt_of_lt_of_le h5 hb.size⟩

/-- A number of so many bits. -/
def ft (n W : Int) : Bool := decide (0 ≤ n ∧ n < 2 ^ W.toNat)
/-- A valid description. -/
def rt (W P I X : Int) : Bool := decide (1 ≤ W ∧ W ≤ 32) && ft P W && ft I W && ft X W && decide (P % 2 = 1)

theorem shl_1 {V : Nat} (h : V ≤ 62) : wrap64 (2 ^ V) = ((2 ^ V : Nat) : Int) ∧ 1 ≤ 2 ^ V ∧ 2 ^ V ≤ 4611686018427387904 := by
  have h2 : 2 ^ V ≤ 2 ^ 62 := Nat.pow_le_pow_right (by omega) h
  have h0 : 1 ≤ 2 ^ V := Nat.two_pow_pos V
  have h1 : (2 : Int) ^ V = ((2 ^ V : Nat) : Int) := by simp
  refine ⟨?_, h0, h2⟩
  rw [h1]
  generalize 2 ^ V = P at *
  unfold wrap64
  omega
theorem ft_nat (n : Int) (V : Nat) : ft n V = decide (0 ≤ n ∧ n < ((2 ^ V : Nat) : Int)) := by
  unfold ft; simp

set_option maxHeartbeats 1000000 in
theorem fits_any (n : Int) (V : Nat) (w : World) (hV : V ≤ 32) :
    Calls Tryz.prog 121 #[.int .i64 n, .int .i64 V] w fun e w' => e = .returned (.bool (ft n V)) ∧ w = w' := by
  obtain ⟨hw, hp0, hp1⟩ := shl_1 (V := V) (by omega)
  rw [ft_nat]
  generalize 2 ^ V = P at *
  go_enter Tryz.func121, Tryz.ntmps121
  go_wp2
  all_goals
    go_returns
    exact ⟨ret_bool (by first | rfl | (simp; omega) | (simp [*])), rfl⟩

theorem odd_tmod {P : Int} (h : 0 ≤ P) : Int.tmod P 2 = P % 2 := Int.tmod_eq_emod_of_nonneg h

set_option maxRecDepth 20000 in
set_option maxHeartbeats 1000000 in
theorem right_any (W P I X : Int) (R : Bool) (w : World) :
    Calls Tryz.prog 111 #[crV W P I X R] w fun e w' => e = .returned (.bool (rt W P I X)) ∧ Below w.heap.size w w' := by
  unfold crV
  by_cases h0 : W < 1
  · rw [show rt W P I X = false by unfold rt; rw [decide_eq_false (by omega)]; rfl]
    go_enter Tryz.func111, Tryz.ntmps111
    go_wp2
    go_returns
    exact ⟨rfl, ba w _⟩
  by_cases h1 : 32 < W
  · rw [show rt W P I X = false by unfold rt; rw [decide_eq_false (by omega)]; rfl]
    go_enter Tryz.func111, Tryz.ntmps111
    go_wp2
    go_returns
    exact ⟨rfl, ba w _⟩
  obtain ⟨V, rfl⟩ : ∃ V : Nat, W = V := ⟨W.toNat, by omega⟩
  have hV : V ≤ 32 := by omega
  have C1 := fun w => fits_any P V w hV
  have C2 := fun w => fits_any I V w hV
  have C3 := fun w => fits_any X V w hV
  have hodd : ft P V = true → Int.tmod P 2 = P % 2 := fun h => odd_tmod (by rw [ft_nat] at h; simp at h; omega)
  have hr : rt V P I X = (ft P V && ft I V && ft X V && decide (P % 2 = 1)) := by
    unfold rt; rw [decide_eq_true (by omega), Bool.true_and]
  rw [hr]
  clear hr
  generalize ft P V = a at *
  generalize ft I V = b at *
  generalize ft X V = c at *
  have H1 := Lib.hid C1; have H2 := Lib.hid C2; have H3 := Lib.hid C3
  clear C1 C2 C3
  cases a
  · clear hodd
    go_enter Tryz.func111, Tryz.ntmps111
    go_wp2_with (first
          | (go_at_call_of 121 (Value.int .i64 P); go_must (refine (H1.out _).mono ?_; rintro e w1 ⟨rfl, rfl⟩))
          | (go_at_call_of 121 (Value.int .i64 I); go_must (refine (H2.out _).mono ?_; rintro e w1 ⟨rfl, rfl⟩))
          | (go_at_call_of 121 (Value.int .i64 X); go_must (refine (H3.out _).mono ?_; rintro e w1 ⟨rfl, rfl⟩)))
    go_returns
    exact ⟨ret_bool (by simp), ba w _⟩
  have hodd := hodd rfl
  cases b
  · go_enter Tryz.func111, Tryz.ntmps111
    go_wp2_with (first
          | (go_at_call_of 121 (Value.int .i64 P); go_must (refine (H1.out _).mono ?_; rintro e w1 ⟨rfl, rfl⟩))
          | (go_at_call_of 121 (Value.int .i64 I); go_must (refine (H2.out _).mono ?_; rintro e w1 ⟨rfl, rfl⟩))
          | (go_at_call_of 121 (Value.int .i64 X); go_must (refine (H3.out _).mono ?_; rintro e w1 ⟨rfl, rfl⟩)))
    go_returns
    exact ⟨ret_bool (by simp), ba w _⟩
  cases c
  · go_enter Tryz.func111, Tryz.ntmps111
    go_wp2_with (first
          | (go_at_call_of 121 (Value.int .i64 P); go_must (refine (H1.out _).mono ?_; rintro e w1 ⟨rfl, rfl⟩))
          | (go_at_call_of 121 (Value.int .i64 I); go_must (refine (H2.out _).mono ?_; rintro e w1 ⟨rfl, rfl⟩))
          | (go_at_call_of 121 (Value.int .i64 X); go_must (refine (H3.out _).mono ?_; rintro e w1 ⟨rfl, rfl⟩)))
    go_returns
    exact ⟨ret_bool (by simp), ba w _⟩
  go_enter Tryz.func111, Tryz.ntmps111
  go_wp2_with (first
        | (go_at_call_of 121 (Value.int .i64 P); go_must (refine (H1.out _).mono ?_; rintro e w1 ⟨rfl, rfl⟩))
        | (go_at_call_of 121 (Value.int .i64 I); go_must (refine (H2.out _).mono ?_; rintro e w1 ⟨rfl, rfl⟩))
        | (go_at_call_of 121 (Value.int .i64 X); go_must (refine (H3.out _).mono ?_; rintro e w1 ⟨rfl, rfl⟩)))
  all_goals
    go_returns
    exact ⟨ret_bool (by simp only [hodd, Bool.true_and]; rfl), ba w _⟩

set_option maxRecDepth 20000 in
set_option maxHeartbeats 2000000 in
theorem rright_any (W P I X : Int) (R : Bool) (w : World) :
    Calls Tryz.prog 95 #[crV W P I X R] w fun e w' => e = .returned (.bool (rt W P I X)) ∧ Below w.heap.size w w' := by
  unfold crV
  by_cases h0 : W < 1
  · rw [show rt W P I X = false by unfold rt; rw [decide_eq_false (by omega)]; rfl]
    go_enter Tryz.func95, Tryz.ntmps95
    go_wp2
    go_returns
    exact ⟨rfl, ba w _⟩
  by_cases h1 : 32 < W
  · rw [show rt W P I X = false by unfold rt; rw [decide_eq_false (by omega)]; rfl]
    go_enter Tryz.func95, Tryz.ntmps95
    go_wp2
    go_returns
    exact ⟨rfl, ba w _⟩
  obtain ⟨V, rfl⟩ : ∃ V : Nat, W = V := ⟨W.toNat, by omega⟩
  obtain ⟨hw, hp0, hp1⟩ := shl_1 (V := V) (by omega)
  have hr : rt V P I X = (ft P V && ft I V && ft X V && decide (P % 2 = 1)) := by
    unfold rt; rw [decide_eq_true (by omega), Bool.true_and]
  rw [hr, ft_nat, ft_nat, ft_nat]
  clear hr
  obtain ⟨M, hM⟩ : ∃ M, 2 ^ V = M := ⟨_, rfl⟩
  rw [hM] at hw hp0 hp1 ⊢
  clear hM
  have no : ∀ (a b c d : Bool), (a = false ∨ b = false ∨ c = false) → (a && b && c && d) = false := by decide
  have yes : ∀ (a b c d : Bool), a = true → b = true → c = true → (a && b && c && d) = d := by decide
  by_cases a0 : P < 0
  · rw [no _ _ _ _ (.inl (decide_eq_false (by omega)))]
    go_enter Tryz.func95, Tryz.ntmps95
    go_wp2
    go_returns
    exact ⟨rfl, ba w _⟩
  by_cases a1 : (M : Int) ≤ P
  · rw [no _ _ _ _ (.inl (decide_eq_false (by omega)))]
    go_enter Tryz.func95, Tryz.ntmps95
    go_wp2
    go_returns
    exact ⟨rfl, ba w _⟩
  by_cases b0 : I < 0
  · rw [no _ _ _ _ (.inr (.inl (decide_eq_false (by omega))))]
    go_enter Tryz.func95, Tryz.ntmps95
    go_wp2
    go_returns
    exact ⟨rfl, ba w _⟩
  by_cases b1 : (M : Int) ≤ I
  · rw [no _ _ _ _ (.inr (.inl (decide_eq_false (by omega))))]
    go_enter Tryz.func95, Tryz.ntmps95
    go_wp2
    go_returns
    exact ⟨rfl, ba w _⟩
  by_cases c0 : X < 0
  · rw [no _ _ _ _ (.inr (.inr (decide_eq_false (by omega))))]
    go_enter Tryz.func95, Tryz.ntmps95
    go_wp2
    go_returns
    exact ⟨rfl, ba w _⟩
  by_cases c1 : (M : Int) ≤ X
  · rw [no _ _ _ _ (.inr (.inr (decide_eq_false (by omega))))]
    go_enter Tryz.func95, Tryz.ntmps95
    go_wp2
    go_returns
    exact ⟨rfl, ba w _⟩
  rw [yes _ _ _ _ (decide_eq_true (by omega)) (decide_eq_true (by omega)) (decide_eq_true (by omega))]
  have hodd := odd_tmod (P := P) (by omega)
  clear no yes
  go_enter Tryz.func95, Tryz.ntmps95
  go_wp2
  all_goals
    go_returns
    exact ⟨ret_bool (by first | (simp only [hodd]; rfl) | rfl), ba w _⟩

end Sd
end Go.Proofs.YtillcmddbjhepaaGreatDoor

namespace Go.Proofs.YtillcmddbjhepaaGreatDoor
namespace Sd
open Go.RowKit
set_option linter.unusedVariables false
set_option linter.unusedSimpArgs false

def ob (l : List UInt8) : Bool := l.all isBit
theorem ob_bad {s : ByteArray} (j : Nat) (hj : j < s.size) (h : s[j].toNat ≠ 48) (h' : s[j].toNat ≠ 49) : ob s.data.toList = false := by
  rcases hb : ob s.data.toList with _ | _
  · rfl
  · unfold ob at hb
    rw [List.all_eq_true] at hb
    have := (isBit_iff _).1 (hb _ (List.getElem_mem (by simpa using hj)))
    rw [getElem_toList s j hj] at this
    omega
theorem ob_all {s : ByteArray} (h' : ∀ j (hj : j < s.size), s[j].toNat = 48 ∨ s[j].toNat = 49) : ob s.data.toList = true := by
  unfold ob
  rw [List.all_eq_true]
  intro b hb
  obtain ⟨j, hj, rfl⟩ := List.getElem_of_mem hb
  exact (isBit_iff _).2 (h' j (by simpa using hj))
theorem ob_mem {l : List UInt8} (h : ob l = true) : ∀ b ∈ l, b.toNat = 48 ∨ b.toNat = 49 := by
  unfold ob at h
  rw [List.all_eq_true] at h
  exact fun b hb => (isBit_iff b).1 (h b hb)
theorem ob_at {s : ByteArray} (h : ob s.data.toList = true) (j : Nat) (hj : j < s.size) : s[j].toNat = 48 ∨ s[j].toNat = 49 :=
  ob_mem h _ (by rw [← getElem_toList s j hj]; exact List.getElem_mem _)

/-! The register's operations, as the walk has them. -/
theorem reg_and {N V : Nat} (hV : V ≤ 31) (hN : N < 2 ^ (V + 1)) : bits .and .i64 (wrap64 ((N : Int) * 2)) (wrap64 (wrap64 (2 ^ (V + 1)) - 1)) = ((2 * N % 2 ^ (V + 1) : Nat) : Int) := by
  obtain ⟨h1, h2, h3⟩ := shl_1 (V := V + 1) (by omega)
  have h4 : 2 ^ (V + 1) ≤ 2 ^ 32 := Nat.pow_le_pow_right (by omega) (by omega)
  have e1 : wrap64 ((N : Int) * 2) = ((2 * N : Nat) : Int) := by unfold wrap64; omega
  have e2 : wrap64 (((2 ^ (V + 1) : Nat) : Int) - 1) = ((2 ^ (V + 1) : Nat) : Int) - 1 := by unfold wrap64; omega
  rw [h1, e1, e2]
  exact and_mask _ _ (by omega) (by omega)
theorem mod_lt32 {N V : Nat} (hV : V ≤ 31) : 2 * N % 2 ^ (V + 1) < 4294967296 := by
  have h4 : 2 ^ (V + 1) ≤ 2 ^ 32 := Nat.pow_le_pow_right (by omega) (by omega)
  exact Nat.lt_of_lt_of_le (Nat.mod_lt _ (Nat.two_pow_pos _)) h4
theorem lt32 {N V : Nat} (hV : V ≤ 31) (h : N < 2 ^ (V + 1)) : N < 4294967296 :=
  Nat.lt_of_lt_of_le h (Nat.pow_le_pow_right (n := 2) (by omega) (by omega : V + 1 ≤ 32))
theorem top_eq {N V d : Nat} (hd : d = 48 ∨ d = 49) : ((N : Int) / 2 ^ V = (d : Int) - 48) ↔ N / 2 ^ (V + 1 - 1) = d - 48 := by
  have e : (N : Int) / 2 ^ V = ((N / 2 ^ V : Nat) : Int) := by simp
  rw [e, Nat.add_sub_cancel]
  omega
theorem stp_yes {V P N b : Nat} (h : N / 2 ^ (V + 1 - 1) = b) : stp (V + 1) P N b = 2 * N % 2 ^ (V + 1) := by unfold stp; rw [if_pos h]
theorem stp_no {V P N b : Nat} (h : ¬ N / 2 ^ (V + 1 - 1) = b) : stp (V + 1) P N b = (2 * N % 2 ^ (V + 1)) ^^^ P := by unfold stp; rw [if_neg h]

theorem rgn_take (W P I : Nat) (s : ByteArray) (k : Nat) (h : k < s.size) : rgn W P I (bs (s.data.toList.take (k + 1))) = stp W P (rgn W P I (bs (s.data.toList.take k))) (s[k].toNat - 48) := by
  rw [take_next _ k (by simpa using h), bs_append, rgn_append]
  rfl

set_option maxRecDepth 20000 in
set_option maxHeartbeats 1000000 in
theorem register_any (V P I : Nat) (X : Int) (R : Bool) (s : ByteArray) (w : World) (hs : s.size ≤ 140737488351232) (hok : ob s.data.toList = true) (hV : V ≤ 31) (hP : P < 2 ^ (V + 1)) (hI : I < 2 ^ (V + 1)) :
    Calls Tryz.prog 122 #[crV ((V : Int) + 1) P I X R, .string s] w fun e w' => e = .returned (.int .i64 (rgn (V + 1) P I (bs s.data.toList) : Nat)) ∧ Below w.heap.size w w' := by
  unfold crV
  have hs' : (s.size : Int) ≤ 140737488351232 := by omega
  have HA := Lib.hid (all_take s)
  have HOk := Lib.hid (fun j hj => ob_at hok j hj)
  have HT := Lib.hid (rgn_take (V + 1) P I s)
  clear hok
  go_enter Tryz.func122, Tryz.ntmps122
  go_wp2
  go_loop [12, 5] (fun x y => ∃ k N : Nat, k ≤ s.size ∧ N < 2 ^ (V + 1) ∧ x = .int .i64 k ∧ y = .int .i64 N ∧ Hid (N = rgn (V + 1) P I (bs (s.data.toList.take k)))) (fun x _ => s.size - (intOf x).toNat)
  case atStart => exact ⟨0, I, by omega, hI, rfl, rfl, by rw [List.take_zero]; rfl⟩
  case round =>
    obtain ⟨k, N, hk, hN, rfl, rfl, HN⟩ := hrel
    by_cases he : k = s.size
    · subst he
      go_wp2
      go_returns
      exact ⟨ret_int (by have := HN.out; rw [HA.out] at this; omega), ba w _⟩
    · have hlt : k < s.size := by omega
      have hc0 := HOk.out k hlt
      have HS := Lib.hid (HT.out k hlt)
      have HAnd := reg_and hV hN
      have hm := mod_lt32 (N := N) hV
      have hp := lt32 hV hP
      have hm1 := Nat.mod_lt (2 * N) (Nat.two_pow_pos (V + 1))
      have hs0 := @stp_yes V P N (s[k].toNat - 48)
      have hs1 := @stp_no V P N (s[k].toNat - 48)
      obtain ⟨M, hM⟩ : ∃ M, 2 * N % 2 ^ (V + 1) = M := ⟨_, rfl⟩
      rw [hM] at HAnd hm hm1 hs0 hs1
      have HS0 := Lib.hid hs0
      have HS1 := Lib.hid hs1
      have Hm1 := Lib.hid hm1
      have HP := Lib.hid hP
      have HI := Lib.hid hI
      clear hM hs0 hs1 hm1
      by_cases hd : (N : Int) / 2 ^ V = (s[k].toNat : Int) - 48
      · rw [← HN.out, HS0.out ((top_eq hc0).1 hd)] at HS
        go_wp2
        go_round
        case rel => exact ⟨k + 1, M, by omega, Hm1.out, by go_num, rfl, HS.out.symm⟩
        case measure => simp [intOf]; omega
      · rw [← HN.out, HS1.out (fun h => hd ((top_eq hc0).2 h))] at HS
        have hx := xor_i64 M P (by omega) (by omega)
        go_wp2
        go_round
        case rel => exact ⟨k + 1, M ^^^ P, by omega, Nat.xor_lt_two_pow Hm1.out HP.out, by go_num, val_int (by first | rfl | exact hx | rw [HAnd, hx]), HS.out.symm⟩
        case measure => simp [intOf]; omega

end Sd
end Go.Proofs.YtillcmddbjhepaaGreatDoor
