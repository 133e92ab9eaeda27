/-
  Slices of bytes in memory: one that reads as a list of bytes, one that the call itself has made; a byte and a string appended; the string of either.
  Bytes appended to a row of the call's own: of old blocks, the row's own alone may have changed.
  The walks of PutUint, PutInt and PutText, the program's and the specification's: the bytes of the slice, then the encoding, in memory of the call's own.
-/
import Derived.Test.YtillcmddbjhepaaGreatDoorZ03
import Derived.ArgAppend
import Derived.Below
import Derived.Laws.OwnMore
import Derived.Deep.AppendLies
import Derived.Deep.Draws
import Derived.Maps.AppendAt
import Derived.OwnWalk
import Derived.Lib.AppendStr
import Derived.Shelf.Bytes.SlSmallAll
import Derived.Test.YtillcmddbjhepaaGreatDoorZ01
import Derived.Deep.DeepMust
namespace Go.Proofs.YtillcmddbjhepaaGreatDoor
namespace Sb
open Go.RowKit Go.Joins
set_option linter.unusedVariables false

def cells (l : List UInt8) : List Value := l.map fun b => Value.int .u8 (b.toNat : Int)
theorem cells_length (l : List UInt8) : (cells l).length = l.length := by simp [cells]
theorem cells_append (l r : List UInt8) : cells (l ++ r) = cells l ++ cells r := by simp [cells]
theorem cells_at (l : List UInt8) (j : Nat) (h : j < l.length) : (cells l)[j]? = some (.int .u8 (l[j].toNat : Int)) := by
  simp [cells, List.getElem?_map, List.getElem?_eq_getElem h]
theorem cells_at' {l : List UInt8} {j : Nat} {u : Value} (h : (cells l)[j]? = some u) : ∃ hj : j < l.length, u = .int .u8 (l[j].toNat : Int) := by
  have hj : j < l.length := by
    have := (List.getElem?_eq_some_iff.1 h).1
    rwa [cells_length] at this
  rw [cells_at l j hj] at h
  exact ⟨hj, (Option.some.inj h).symm⟩
theorem cells_one (l : List UInt8) : ∀ u ∈ cells l, u.oneCell' = true := by
  intro u hu
  simp only [cells, List.mem_map] at hu
  obtain ⟨b, _, rfl⟩ := hu
  rfl

/-- The slice at A (its length is l's) holds the bytes l, in a block below B. -/
def Rd (w : World) (B : Nat) (A : Option Addr) (l : List UInt8) : Prop :=
  0 < l.length → ∃ b o, A = some ⟨b, o, none⟩ ∧ b < B ∧ ∀ j (h : j < l.length), w.cell? ⟨b, o + j, none⟩ = some (.int .u8 (l[j].toNat : Int))
/-- The slice of length n, capacity c in block g is of the call's own (at or above B) and holds the bytes l. -/
def Own (w : World) (B g n c : Nat) (l : List UInt8) : Prop := w.ownsRow B 5 1 (.slice (some ⟨g, 0, none⟩) n c) n (cells l)

theorem Rd.below {w w' : World} {B B' : Nat} {A : Option Addr} {l : List UInt8} (h : Rd w B A l) (hb : Below B' w w') (hB : B ≤ B') : Rd w' B A l := fun h0 => by
  obtain ⟨b, o, e, hlt, hc⟩ := h h0
  exact ⟨b, o, e, hlt, fun j hj => by rw [hb.cell (p := ⟨b, o + j, none⟩) (Nat.lt_of_lt_of_le hlt hB)]; exact hc j hj⟩
theorem Rd.more {w : World} {B B' : Nat} {A : Option Addr} {l : List UInt8} (h : Rd w B A l) (hB : B ≤ B') : Rd w B' A l := fun h0 => by
  obtain ⟨b, o, e, hlt, hc⟩ := h h0
  exact ⟨b, o, e, Nat.lt_of_lt_of_le hlt hB, hc⟩
theorem Rd.nil (w : World) (B : Nat) (A : Option Addr) : Rd w B A [] := fun h => absurd h (by simp)
theorem Own.len {w : World} {B g n c : Nat} {l : List UInt8} (h : Own w B g n c l) : l.length = n := by
  have := h.1
  rwa [cells_length, Nat.mul_one] at this
theorem Own.lt {w : World} {B g n c : Nat} {l : List UInt8} (h : Own w B g n c l) : B ≤ g ∧ g < w.heap.size := World.ownsRow.lt h g rfl
theorem Own.cap {w : World} {B g n c : Nat} {l : List UInt8} (h : Own w B g n c l) : n ≤ c ∧ c ≤ maxLen := by
  rcases h.2 with ⟨h, _⟩ | ⟨g', cap, cur, h, _, _, h1, h2, _⟩
  · cases h
  · injection h with _ _ e
    subst e
    exact ⟨h1, h2⟩
theorem Own.rd {w : World} {B g n c : Nat} {l : List UInt8} (h : Own w B g n c l) : Rd w w.heap.size (some ⟨g, 0, none⟩) l := fun h0 =>
  ⟨g, 0, rfl, h.lt.2, fun j hj => by
    have hl := h.len
    rw [Nat.zero_add, World.ownsRow.cellAt h j (by omega)]
    exact cells_at l j hj⟩
theorem Own.below {w w' : World} {B B' g n c : Nat} {l : List UInt8} (h : Own w B g n c l) (hb : Below B' w w') (hB : g < B') : Own w' B g n c l := by
  refine ⟨h.1, .inr ?_⟩
  rcases h.2 with ⟨e, _⟩ | ⟨g', cap, cur, e, h1, h2, h3⟩
  · cases e
  · have e1 : g = g' := by simpa [Value.ownBlock] using congrArg Value.ownBlock e
    subst e1
    exact ⟨g, cap, cur, e, h1, (hb.block g hB).trans h2, h3⟩
theorem Own.mono {w : World} {B B' g n c : Nat} {l : List UInt8} (h : Own w B g n c l) (hB : B' ≤ B) : Own w B' g n c l :=
  ⟨h.1, h.2.imp id fun ⟨g, cap, cur, h1, h2, h3⟩ => ⟨g, cap, cur, h1, Nat.le_trans hB h2, h3⟩⟩
theorem Own.alloc {w : World} {B g n c : Nat} {l : List UInt8} (h : Own w B g n c l) (o : Obj) : Own (w.alloc o) B g n c l := World.ownsRow.alloc h o
theorem Rd.alloc {w : World} {B : Nat} {A : Option Addr} {l : List UInt8} (h : Rd w B A l) (hB : B ≤ w.heap.size) (o : Obj) : Rd (w.alloc o) B A l := h.below (ba w o) hB

/-- A slice behind whose last byte an append makes new memory or stores into memory of the call's own: cut to its length, or of the call's own. -/
def Full (w : World) (B : Nat) (v : Value) (l : List UInt8) : Prop :=
  (∃ A, v = .slice A l.length l.length ∧ (A = none → l = []) ∧ Rd w B A l) ∨ ∃ g c, v = .slice (some ⟨g, 0, none⟩) l.length c ∧ Own w B g l.length c l

theorem Full.form {w : World} {B : Nat} {v : Value} {l : List UInt8} (h : Full w B v l) : ∃ A c, v = .slice A l.length c := by
  rcases h with ⟨A, rfl, _⟩ | ⟨g, c, rfl, _⟩
  · exact ⟨_, _, rfl⟩
  · exact ⟨_, _, rfl⟩
theorem Full.below {w w' : World} {B : Nat} {v : Value} {l : List UInt8} (h : Full w B v l) (hb : Below w.heap.size w w') (hB : B ≤ w.heap.size) : Full w' B v l := by
  rcases h with ⟨A, e, h1, h2⟩ | ⟨g, c, e, h1⟩
  · exact .inl ⟨A, e, h1, h2.below hb hB⟩
  · exact .inr ⟨g, c, e, h1.below hb h1.lt.2⟩

theorem Own.full {w : World} {B g n c : Nat} {l : List UInt8} (h : Own w B g n c l) : Full w B (.slice (some ⟨g, 0, none⟩) n c) l := by
  have e := h.len
  subst e
  exact .inr ⟨g, c, rfl, h⟩

theorem byte_info : (Tryz.prog.info? 5).map (fun i => (i.zero, i.size, i.bytes)) = some (some (.int .u8 0), 1, 1) := by kernel_rfl

/-- The string of a slice that reads as l. -/
theorem conv_rd {w : World} {B : Nat} {A : Option Addr} {l : List UInt8} (h : Rd w B A l) (n c : Nat) (hn : n = l.length) (w' : World) (hc : ∀ p : Addr, p.block < B → w'.cell? p = w.cell? p) :
    (convert 60 9 (.slice A n c)).run Tryz.prog w' = .ok (.string ⟨l.toArray⟩) w' := by
  subst hn
  rcases Nat.eq_zero_or_pos l.length with h0 | h0
  · obtain rfl : l = [] := List.eq_nil_of_length_eq_zero h0
    exact run_convert_bytes_zero (P := Tryz.prog) w' 60 5 Tryz.underlying60 Tryz.underlying5 A c 9 Tryz.underlying9
  · obtain ⟨b, o, rfl, hlt, hcell⟩ := h h0
    exact run_convert_bytes_back (P := Tryz.prog) w' 60 9 5 ⟨b, o, none⟩ c l Tryz.underlying60 Tryz.underlying5 Tryz.underlying9 (fun j hj => by
      rw [Addr.add_lit, hc _ hlt]; exact hcell j hj)

theorem append_full {w : World} {B : Nat} {v : Value} {l : List UInt8} (hf : Full w B v l) (hB : B ≤ w.heap.size) (ad : Addr) (c : Nat) (b : UInt8) (hc : w.cell? ad = some (.int .u8 (b.toNat : Int))) (hl : l.length + 1 ≤ 140737488355328) (ty : TypeId) :
    ∃ g c' w', (Builtin.append_ #[60, 60] ty #[v, .slice (some ad) 1 c]).run Tryz.prog w = .ok (.slice (some ⟨g, 0, none⟩) (l.length + 1) c') w' ∧ Own w' B g (l.length + 1) c' (l ++ [b]) ∧ Below B w w' := by
  obtain ⟨i0, hi0, hz0, hz1, hz2⟩ := info_parts byte_info
  have hnews : ∀ j u, [Value.int .u8 (b.toNat : Int)][j]? = some u → w.cell? (ad.add j) = some u := by
    intro j u hj
    match j, hj with
    | 0, hj => rw [show ad.add 0 = ad by simp [Addr.add], hc]; simpa using hj
    | k + 1, hj => simp at hj
  have hm : l.length + 1 ≤ maxLen := by simp only [maxLen]; omega
  have fin : ∀ v' w', w'.ownsRow B 5 1 v' (l.length + 1) (cells l ++ [Value.int .u8 (b.toNat : Int)]) → ∃ g c', v' = .slice (some ⟨g, 0, none⟩) (l.length + 1) c' ∧ Own w' B g (l.length + 1) c' (l ++ [b]) := by
    intro v' w' h
    obtain ⟨g, c', rfl⟩ := ownsRow_form h (by omega)
    exact ⟨g, c', rfl, by unfold Own; rw [cells_append]; exact h⟩
  rcases hf with ⟨A, rfl, hA, hr⟩ | ⟨g, c1, rfl, ho⟩
  · cases A with
    | none =>
      obtain rfl := hA rfl
      obtain ⟨v', w', hrun, r1, r2, _⟩ := run_append_own (P := Tryz.prog) w B 60 ty 5 i0 _ 1 1 Tryz.underlying60 hi0 hz0 hz1 hz2 rfl (by omega) (.slice none 0 0) 0 [] (World.ownsRow_nil w _ _ _) ad 1 c _ rfl hnews (by simp [Value.oneCell']) hm (by simp only [Nat.zero_add, Nat.mul_one]; omega) hB
      obtain ⟨g, c', rfl, h⟩ := fin v' w' r1
      exact ⟨g, c', w', hrun, h, (Below.refl _ _).grown r2 hB (by simp [Value.ownBlock])⟩
    | some a =>
      have holds : ∀ j u, (cells l)[j]? = some u → w.cell? (a.add j) = some u := by
        intro j u hj
        obtain ⟨hjl, rfl⟩ := cells_at' hj
        obtain ⟨b', o, e, _, hcell⟩ := hr (by omega)
        cases e
        rw [Addr.add_lit]
        exact hcell j hjl
      obtain ⟨v', w', hrun, r1, r2⟩ := run_append_arg_grows (P := Tryz.prog) w 60 ty 5 i0 _ 1 1 Tryz.underlying60 hi0 hz0 hz1 hz2 rfl (by omega) a l.length l.length (cells l) (by rw [cells_length, Nat.mul_one]) holds ad 1 c [Value.int .u8 (b.toNat : Int)] rfl hnews (by omega) hm (by simpa using hl)
      obtain ⟨g, c', rfl, h⟩ := fin v' w' (ownsRow_le r1 hB)
      exact ⟨g, c', w', hrun, h, (Below.refl _ _).grown r2 hB (by simp)⟩
  · obtain ⟨v', w', hrun, r1, r2, _⟩ := run_append_own (P := Tryz.prog) w B 60 ty 5 i0 _ 1 1 Tryz.underlying60 hi0 hz0 hz1 hz2 rfl (by omega) _ l.length (cells l) ho ad 1 c _ rfl hnews (by simp [Value.oneCell']) hm (by simpa using hl) hB
    obtain ⟨g', c', rfl, h⟩ := fin v' w' r1
    exact ⟨g', c', w', hrun, h, (Below.refl _ _).grown r2 hB (fun k hk => (Own.lt ho).1 |> fun hh => by cases hk; exact hh)⟩

theorem wpList_append_full {w : World} {ops : Array Oper} {rest : List Oper} {o : Oper} {a : Act} {Q : Exit → Act → World → Prop} (hgd : o.guard = none) (s x : Operand)
    (ho : o.op = .call { callee := .builtin .append, args := #[s, x], argTypes := #[60, 60] })
    {B : Nat} {v : Value} {l : List UInt8} (hs : a.eval s = v) (ad : Addr) (c : Nat) (hx : a.eval x = .slice (some ad) 1 c) (hf : Full w B v l) (hB : B ≤ w.heap.size) (b : UInt8) (y : Int) (hc : w.cell? ad = some (.int .u8 y)) (hy : y = (b.toNat : Int)) (hl : l.length + 1 ≤ 140737488355328)
    (h : ∀ g c' w', Own w' B g (l.length + 1) c' (l ++ [b]) → Below B w w' → wpList Tryz.prog ops Q rest (a.put o.dst (.slice (some ⟨g, 0, none⟩) (l.length + 1) c')) w') : wpList Tryz.prog ops Q (o :: rest) a w := by
  subst hy
  refine wpList_plain hgd fun K hK => ?_
  obtain ⟨g, c', w', hrun, h1, h2⟩ := append_full hf hB ad c b hc hl o.type
  unfold Oper.wp execOp
  simp only [ho, resolve, invoke, builtin, Sem.run_bind, Sem.run_pure, Result.andThen_ok, List.map_toArray, List.map_cons, List.map_nil, hs, hx, hrun]
  exact hK _ _ (h g c' w' h1 h2)

theorem new1 (w : World) (x : Value) (T : TypeId) : (w.alloc (.cells #[x] T)).cell? ⟨w.heap.size, 0, none⟩ = some x := by go_simp
/-- One byte, out of the block that the literal has just laid. -/
theorem wpList_append_new {w : World} {y : Int} {ops : Array Oper} {rest : List Oper} {o : Oper} {a : Act} {Q : Exit → Act → World → Prop} (hgd : o.guard = none) (s x : Operand)
    (ho : o.op = .call { callee := .builtin .append, args := #[s, x], argTypes := #[60, 60] })
    {B c : Nat} {v : Value} {l : List UInt8} (hs : a.eval s = v) (hx : a.eval x = .slice (some ⟨w.heap.size, 0, none⟩) 1 c) (hf : Full w B v l) (hB : B ≤ w.heap.size) (b : UInt8) (hy : y = (b.toNat : Int)) (hl : l.length + 1 ≤ 140737488355328)
    (h : ∀ g c' w', Own w' B g (l.length + 1) c' (l ++ [b]) → Below B w w' → wpList Tryz.prog ops Q rest (a.put o.dst (.slice (some ⟨g, 0, none⟩) (l.length + 1) c')) w') : wpList Tryz.prog ops Q (o :: rest) a (w.alloc (.cells #[.int .u8 y] 5)) :=
  wpList_append_full hgd s x ho hs ⟨w.heap.size, 0, none⟩ c hx (hf.below (ba w _) hB) (le_alloc hB _) b y (new1 w _ _) hy hl fun g c' w' h1 h2 => h g c' w' h1 (((ba w _).mono hB).trans h2)

/-- A string appended to a row of the call's own. -/
theorem wpList_append_text {w : World} {ops : Array Oper} {rest : List Oper} {o : Oper} {a : Act} {Q : Exit → Act → World → Prop} (hgd : o.guard = none) (s x : Operand)
    (ho : o.op = .call { callee := .builtin .append, args := #[s, x], argTypes := #[60, 9] })
    {B g n c : Nat} {l : List UInt8} (hs : a.eval s = .slice (some ⟨g, 0, none⟩) n c) (t : ByteArray) (hx : a.eval x = .string t) (hf : Own w B g n c l) (hB : B ≤ w.heap.size) (h0 : 0 < n) (hl : n + t.size ≤ 140737488355328)
    (h : ∀ g c' w', Own w' B g (n + t.size) c' (l ++ t.data.toList) → Below B w w' → wpList Tryz.prog ops Q rest (a.put o.dst (.slice (some ⟨g, 0, none⟩) (n + t.size) c')) w') : wpList Tryz.prog ops Q (o :: rest) a w := by
  refine wpList_plain hgd fun K hK => ?_
  obtain ⟨i0, hi0, hz0, hz1, hz2⟩ := info_parts byte_info
  obtain ⟨v', w', hrun, r1, r2, _⟩ := Lib.run_append_own_string (P := Tryz.prog) w B 60 9 o.type 5 i0 Tryz.underlying60 Tryz.underlying9 hi0 hz0 hz1 hz2 _ n (cells l) hf t (by simp only [maxLen]; omega) hl hB
  obtain ⟨g', c', rfl⟩ := ownsRow_form r1 (by omega)
  unfold Oper.wp execOp
  simp only [ho, resolve, invoke, builtin, Sem.run_bind, Sem.run_pure, Result.andThen_ok, List.map_toArray, List.map_cons, List.map_nil, hs, hx, hrun]
  refine hK _ _ (h g' c' w' ?_ ((Below.refl _ _).grown r2 hB (fun k hk => (Own.lt hf).1 |> fun hh => by cases hk; exact hh)))
  unfold Own
  rw [cells_append]
  exact r1

/-- The bytes of a slice appended to a row of the call's own. -/
theorem wpList_append_rd {w : World} {ops : Array Oper} {rest : List Oper} {o : Oper} {a : Act} {Q : Exit → Act → World → Prop} (hgd : o.guard = none) (s x : Operand)
    (ho : o.op = .call { callee := .builtin .append, args := #[s, x], argTypes := #[60, 60] })
    {B B' g n c : Nat} {l : List UInt8} (hs : a.eval s = .slice (some ⟨g, 0, none⟩) n c) (A : Option Addr) (m d : Nat) (r : List UInt8) (hx : a.eval x = .slice A m d) (hf : Own w B g n c l) (hr : Rd w B' A r) (hm : m = r.length) (hnil : A = none → d = 0) (hB : B ≤ w.heap.size) (hl : n + m ≤ 140737488355328)
    (h : ∀ g c' w', Own w' B g (n + m) c' (l ++ r) → Below B w w' → wpList Tryz.prog ops Q rest (a.put o.dst (.slice (some ⟨g, 0, none⟩) (n + m) c')) w') : wpList Tryz.prog ops Q (o :: rest) a w := by
  refine wpList_plain hgd fun K hK => ?_
  obtain ⟨i0, hi0, hz0, hz1, hz2⟩ := info_parts byte_info
  have run : ∃ v' w', (Builtin.append_ #[60, 60] o.type #[.slice (some ⟨g, 0, none⟩) n c, .slice A m d]).run Tryz.prog w = .ok v' w' ∧ w'.ownsRow B 5 1 v' (n + m) (cells l ++ cells r) ∧ w.grownBy w' (some g) ∧ v' ≠ .slice none 0 0 := by
    cases A with
    | none =>
      have h0 : r = [] := by
        rcases Nat.eq_zero_or_pos r.length with h0 | h0
        · exact List.eq_nil_of_length_eq_zero h0
        · obtain ⟨_, _, e, _⟩ := hr h0; cases e
      subst h0
      obtain rfl : m = 0 := hm
      obtain rfl := hnil rfl
      exact ⟨_, w, run_append_owned_none (P := Tryz.prog) (w := w) B 60 o.type 5 i0 1 Tryz.underlying60 hi0 _ n (cells l) hf, by rw [show cells ([] : List UInt8) = [] from rfl, List.append_nil]; exact hf, ⟨rfl, rfl, rfl, Nat.le_refl _, fun _ _ _ => rfl⟩, by simp⟩
    | some ad =>
      have hnews : ∀ j u, (cells r)[j]? = some u → w.cell? (ad.add j) = some u := by
        intro j u hj
        obtain ⟨hjl, rfl⟩ := cells_at' hj
        obtain ⟨b', o, e, _, hcell⟩ := hr (by omega)
        cases e
        rw [Addr.add_lit]
        exact hcell j hjl
      obtain ⟨v', w', hrun, r1, r2, r3⟩ := run_append_own (P := Tryz.prog) w B 60 o.type 5 i0 _ 1 1 Tryz.underlying60 hi0 hz0 hz1 hz2 rfl (by omega) _ n (cells l) hf ad m d (cells r) (by rw [cells_length, hm, Nat.mul_one]) hnews (cells_one r) (by simp only [maxLen]; omega) (by omega) hB
      exact ⟨v', w', hrun, r1, r2, fun e => by have := r3.1 e; simp at this⟩
  obtain ⟨v', w', hrun, r1, r2, r3⟩ := run
  have hv : ∃ g' c', v' = .slice (some ⟨g', 0, none⟩) (n + m) c' := by
    rcases ownsRow_forms r1 with ⟨e, _⟩ | h
    · exact absurd e r3
    · exact h
  obtain ⟨g', c', rfl⟩ := hv
  unfold Oper.wp execOp
  simp only [ho, resolve, invoke, builtin, Sem.run_bind, Sem.run_pure, Result.andThen_ok, List.map_toArray, List.map_cons, List.map_nil, hs, hx, hrun]
  refine hK _ _ (h g' c' w' ?_ ((Below.refl _ _).grown r2 hB (fun k hk => (Own.lt hf).1 |> fun hh => by cases hk; exact hh)))
  unfold Own
  rw [cells_append]
  exact r1

/-- 'make([]byte, 0, n)'. -/
theorem wpList_make_bytes {w : World} {ops : Array Oper} {rest : List Oper} {o : Oper} {a : Act} {Q : Exit → Act → World → Prop} (hgd : o.guard = none) (l c : Operand) (ho : o.op = Op.makeSlice 60 l c)
    (kl kc : IntKind) (C : Int) (n : Nat) (hl : a.eval l = .int kl 0) (hc : a.eval c = .int kc C) (hC : C = (n : Int)) (hn : n ≤ 140737488355328)
    (h : ∀ w', Own w' w.heap.size w.heap.size 0 n [] → Below w.heap.size w w' → wpList Tryz.prog ops Q rest (a.put o.dst (.slice (some ⟨w.heap.size, 0, none⟩) 0 n)) w') : wpList Tryz.prog ops Q (o :: rest) a w := by
  obtain ⟨i0, hi0, hz0, hz1, hz2⟩ := info_parts byte_info
  refine wpList_make_own (P := Tryz.prog) w hgd l c 60 ho w.heap.size 5 i0 _ 1 Tryz.underlying60 hi0 hz0 hz1 kl kc C n hl hc hC (by rw [hz2]; omega) (by simp only [maxLen]; omega) (Nat.le_refl _) fun w' h1 h2 => h w' h1 ((Below.refl _ _).grown h2 (Nat.le_refl _) (by simp))

end Sb
end Go.Proofs.YtillcmddbjhepaaGreatDoor

namespace Go.Proofs.YtillcmddbjhepaaGreatDoor
set_option linter.unusedSimpArgs false
namespace Sb
open Go Go.RowKit Go.Joins
set_option linter.unusedVariables false

/-- A string appended to a row of the call's own. ; of old blocks, the row's own alone may have changed. -/
theorem wpList_append_text2 {w : World} {ops : Array Oper} {rest : List Oper} {o : Oper} {a : Act} {Q : Exit → Act → World → Prop} (hgd : o.guard = none) (s x : Operand)
    (ho : o.op = .call { callee := .builtin .append, args := #[s, x], argTypes := #[60, 9] })
    {B g0 n c : Nat} {l : List UInt8} (hs : a.eval s = .slice (some ⟨g0, 0, none⟩) n c) (t : ByteArray) (hx : a.eval x = .string t) (hf : Own w B g0 n c l) (hB : B ≤ w.heap.size) (h0 : 0 < n) (hl : n + t.size ≤ 140737488355328)
    (h : ∀ g c' w', Own w' B g (n + t.size) c' (l ++ t.data.toList) → Below B w w' → (∀ k, k < w.heap.size → k ≠ g0 → w'.heap[k]? = w.heap[k]?) → wpList Tryz.prog ops Q rest (a.put o.dst (.slice (some ⟨g, 0, none⟩) (n + t.size) c')) w') : wpList Tryz.prog ops Q (o :: rest) a w := by
  refine wpList_plain hgd fun K hK => ?_
  obtain ⟨i0, hi0, hz0, hz1, hz2⟩ := info_parts byte_info
  obtain ⟨v', w', hrun, r1, r2, _⟩ := Lib.run_append_own_string (P := Tryz.prog) w B 60 9 o.type 5 i0 Tryz.underlying60 Tryz.underlying9 hi0 hz0 hz1 hz2 _ n (cells l) hf t (by simp only [maxLen]; omega) hl hB
  obtain ⟨g', c', rfl⟩ := ownsRow_form r1 (by omega)
  unfold Oper.wp execOp
  simp only [ho, resolve, invoke, builtin, Sem.run_bind, Sem.run_pure, Result.andThen_ok, List.map_toArray, List.map_cons, List.map_nil, hs, hx, hrun]
  refine hK _ _ (h g' c' w' ?_ ((Below.refl _ _).grown r2 hB (fun k hk => (Own.lt hf).1 |> fun hh => by cases hk; exact hh)) fun k hk hne => r2.block k hk (fun e => hne (by cases e; rfl)))
  unfold Own
  rw [cells_append]
  exact r1

/-- The bytes of a slice appended to a row of the call's own. ; of old blocks, the row's own alone may have changed. -/
theorem wpList_append_rd2 {w : World} {ops : Array Oper} {rest : List Oper} {o : Oper} {a : Act} {Q : Exit → Act → World → Prop} (hgd : o.guard = none) (s x : Operand)
    (ho : o.op = .call { callee := .builtin .append, args := #[s, x], argTypes := #[60, 60] })
    {B B' g0 n c : Nat} {l : List UInt8} (hs : a.eval s = .slice (some ⟨g0, 0, none⟩) n c) (A : Option Addr) (m d : Nat) (r : List UInt8) (hx : a.eval x = .slice A m d) (hf : Own w B g0 n c l) (hr : Rd w B' A r) (hm : m = r.length) (hnil : A = none → d = 0) (hB : B ≤ w.heap.size) (hl : n + m ≤ 140737488355328)
    (h : ∀ g c' w', Own w' B g (n + m) c' (l ++ r) → Below B w w' → (∀ k, k < w.heap.size → k ≠ g0 → w'.heap[k]? = w.heap[k]?) → wpList Tryz.prog ops Q rest (a.put o.dst (.slice (some ⟨g, 0, none⟩) (n + m) c')) w') : wpList Tryz.prog ops Q (o :: rest) a w := by
  refine wpList_plain hgd fun K hK => ?_
  obtain ⟨i0, hi0, hz0, hz1, hz2⟩ := info_parts byte_info
  have run : ∃ v' w', (Builtin.append_ #[60, 60] o.type #[.slice (some ⟨g0, 0, none⟩) n c, .slice A m d]).run Tryz.prog w = .ok v' w' ∧ w'.ownsRow B 5 1 v' (n + m) (cells l ++ cells r) ∧ w.grownBy w' (some g0) ∧ v' ≠ .slice none 0 0 := by
    cases A with
    | none =>
      have h0 : r = [] := by
        rcases Nat.eq_zero_or_pos r.length with h0 | h0
        · exact List.eq_nil_of_length_eq_zero h0
        · obtain ⟨_, _, e, _⟩ := hr h0; cases e
      subst h0
      obtain rfl : m = 0 := hm
      obtain rfl := hnil rfl
      exact ⟨_, w, run_append_owned_none (P := Tryz.prog) (w := w) B 60 o.type 5 i0 1 Tryz.underlying60 hi0 _ n (cells l) hf, by rw [show cells ([] : List UInt8) = [] from rfl, List.append_nil]; exact hf, ⟨rfl, rfl, rfl, Nat.le_refl _, fun _ _ _ => rfl⟩, by simp⟩
    | some ad =>
      have hnews : ∀ j u, (cells r)[j]? = some u → w.cell? (ad.add j) = some u := by
        intro j u hj
        obtain ⟨hjl, rfl⟩ := cells_at' hj
        obtain ⟨b', o, e, _, hcell⟩ := hr (by omega)
        cases e
        rw [Addr.add_lit]
        exact hcell j hjl
      obtain ⟨v', w', hrun, r1, r2, r3⟩ := run_append_own (P := Tryz.prog) w B 60 o.type 5 i0 _ 1 1 Tryz.underlying60 hi0 hz0 hz1 hz2 rfl (by omega) _ n (cells l) hf ad m d (cells r) (by rw [cells_length, hm, Nat.mul_one]) hnews (cells_one r) (by simp only [maxLen]; omega) (by omega) hB
      exact ⟨v', w', hrun, r1, r2, fun e => by have := r3.1 e; simp at this⟩
  obtain ⟨v', w', hrun, r1, r2, r3⟩ := run
  have hv : ∃ g' c', v' = .slice (some ⟨g', 0, none⟩) (n + m) c' := by
    rcases ownsRow_forms r1 with ⟨e, _⟩ | h
    · exact absurd e r3
    · exact h
  obtain ⟨g', c', rfl⟩ := hv
  unfold Oper.wp execOp
  simp only [ho, resolve, invoke, builtin, Sem.run_bind, Sem.run_pure, Result.andThen_ok, List.map_toArray, List.map_cons, List.map_nil, hs, hx, hrun]
  refine hK _ _ (h g' c' w' ?_ ((Below.refl _ _).grown r2 hB (fun k hk => (Own.lt hf).1 |> fun hh => by cases hk; exact hh)) fun k hk hne => r2.block k hk (fun e => hne (by cases e; rfl)))
  unfold Own
  rw [cells_append]
  exact r1


end Sb
end Go.Proofs.YtillcmddbjhepaaGreatDoor

namespace Go.Proofs.YtillcmddbjhepaaGreatDoor
namespace Sb
open Go.RowKit
set_option linter.unusedVariables false

/-- What a Put function answers: a slice of its own that holds the bytes l. -/
def Made (w : World) (l : List UInt8) (e : Ending) (w' : World) : Prop :=
  ∃ g n c, e = .returned (.slice (some ⟨g, 0, none⟩) n c) ∧ Own w' w.heap.size g n c l ∧ Below w.heap.size w w'

theorem made_of {w w' : World} {l r : List UInt8} {g n c : Nat} (h : l = r) (ho : Own w' w.heap.size g n c r) (hb : Below w.heap.size w w') : Made w l (.returned (.slice (some ⟨g, 0, none⟩) n c)) w' := by
  subst h
  exact ⟨g, n, c, rfl, ho, hb⟩

/-- '^n'. -/
theorem inv_at (i : Int) (h0 : -9223372036854775808 ≤ i) (h1 : i ≤ 9223372036854775807) : bits .xor .i64 (if IntKind.i64.signed = true then -1 else 9223372036854775807) i = -i - 1 := by
  show IntKind.i64.wrap ((BitVec.ofInt 64 (-1) ^^^ BitVec.ofInt 64 i).toNat : Int) = _
  have e : BitVec.ofInt 64 (-1) = BitVec.allOnes 64 := by decide
  rw [e, BitVec.allOnes_xor, BitVec.toNat_not, BitVec.toNat_ofInt, IntKind.wrap_i64]
  omega

theorem or_128 : ∀ x : Fin 256, bits .or .u8 (x.val : Int) 128 = ((x.val % 128 + 128 : Nat) : Int) := by decide +kernel
theorem or_more (m : Nat) : bits .or .u8 ((m : Int) % 256) 128 = ((UInt8.ofNat (m % 128 + 128)).toNat : Int) := by
  have h := or_128 ⟨m % 256, Nat.mod_lt _ (by omega)⟩
  rw [byte_more]
  rw [show (m : Int) % 256 = ((m % 256 : Nat) : Int) by omega]
  refine h.trans ?_
  show ((m % 256 % 128 + 128 : Nat) : Int) = _
  omega

set_option maxRecDepth 20000 in
set_option maxHeartbeats 1000000 in
theorem putu_any (A : Option Addr) (n c : Nat) (l : List UInt8) (k : Nat) (w : World) (hr : Rd w w.heap.size A l) (hn : n = l.length) (hc : n ≤ c) (hnil : A = none → c = 0) (hk : k < 18446744073709551616) (hl : n ≤ 140737488351232) :
    Calls Tryz.prog 55 #[.slice A n c, .int .u64 k] w (Made w (l ++ put k)) := by
  have hten := put_ten hk
  subst hn
  go_enter Tryz.func55, Tryz.ntmps55
  go_wp2
  go_loopw [1, 5] (fun x v wr => ∃ (m : Nat) (ls : List UInt8), m < 18446744073709551616 ∧ x = .int .u64 m ∧ Full wr w.heap.size v ls ∧ Hid (ls ++ put m = l ++ put k) ∧ Below w.heap.size w wr) (fun x _ _ => (intOf x).toNat)
  case atStart => exact ⟨k, l, hk, rfl, .inl ⟨A, rfl, fun e => List.eq_nil_of_length_eq_zero (by have := hnil e; omega), hr⟩, rfl, Below.refl _ _⟩
  case round =>
    obtain ⟨m, ls, hm, rfl, hf, HE, hb⟩ := hrel
    have hle : ls.length + 1 ≤ 140737488355328 := by
      have := congrArg List.length HE.out
      have := put_pos m
      simp only [List.length_append] at *
      omega
    have HL := Lib.hid hle
    have HM := Lib.hid hm
    obtain ⟨A', c', rfl⟩ := hf.form
    have HF := Lib.hid hf
    clear hle hl hten hr hnil hc hk hf hm
    have hsz := hb.size
    by_cases hlt : m < 128
    · have HY := Lib.hid (show (m : Int) = ((UInt8.ofNat m).toNat : Int) by rw [byte_last hlt])
      go_wp2_with (at_builtin; go_must (refine wpList_append_new rfl (.tmp 22) (.tmp 25) rfl rfl rfl HF.out hsz (UInt8.ofNat m) HY.out HL.out ?_; intro g1 c1 w1 ho1 hb1))
      go_returns
      have hq : l ++ put k = ls ++ [UInt8.ofNat m] := by rw [← HE.out, put_lt hlt]
      exact made_of hq ho1 (hb.trans hb1)
    · go_wp2_with (at_builtin; go_must (refine wpList_append_new rfl (.tmp 14) (.tmp 18) rfl rfl rfl HF.out hsz (UInt8.ofNat (m % 128 + 128)) (or_more m) HL.out ?_; intro g1 c1 w1 ho1 hb1))
      go_roundw
      case rel => exact ⟨m / 128, ls ++ [UInt8.ofNat (m % 128 + 128)], by have := HM.out; omega, val_int (by omega), ho1.full, (show ls ++ [UInt8.ofNat (m % 128 + 128)] ++ put (m / 128) = l ++ put k by rw [← HE.out, put_ge hlt, List.append_assoc]; rfl), hb.trans hb1⟩
      case measure => simp [intOf]; omega
set_option maxRecDepth 20000 in
set_option maxHeartbeats 1000000 in
theorem rputu_any (A : Option Addr) (n c : Nat) (l : List UInt8) (k : Nat) (w : World) (hr : Rd w w.heap.size A l) (hn : n = l.length) (hc : n ≤ c) (hnil : A = none → c = 0) (hk : k < 18446744073709551616) (hl : n ≤ 140737488351232) :
    Calls Tryz.prog 63 #[.slice A n c, .int .u64 k] w (Made w (l ++ put k)) := by
  have hten := put_ten hk
  subst hn
  have HR := Lib.hid hr
  have HN := Lib.hid hnil
  have HL := Lib.hid hl
  have HK := Lib.hid hk
  have HT := Lib.hid hten
  have hlen : l.length ≤ 140737488351232 := hl
  clear hr hnil hk hl hten
  go_enter Tryz.func63, Tryz.ntmps63
  go_wp2_with (first
    | (at_builtin; go_must (refine wpList_append_rd rfl (.tmp 10) (.tmp 11) rfl rfl A l.length c l rfl ho0 (HR.out.below hb0 (Nat.le_refl _)) rfl HN.out hb0.size (by omega) ?_; intro g1 c1 w1 ho1 hb1))
    | (refine wpList_make_bytes rfl _ _ rfl _ _ _ (l.length + 10) rfl rfl (by omega) (by omega) ?_; intro w0 ho0 hb0))
  have hbw : Below w.heap.size w w1 := hb0.trans hb1
  have ho2 : Own w1 w.heap.size g1 l.length c1 l := by
    have := ho1
    rw [Nat.zero_add, List.nil_append] at this
    exact this
  clear ho1 hb1 hb0 ho0 hlen
  go_loopw [1, 5] (fun x v wr => ∃ (m : Nat) (ls : List UInt8), m < 18446744073709551616 ∧ x = .int .u64 m ∧ Full wr w.heap.size v ls ∧ Hid (ls ++ put m = l ++ put k) ∧ Below w.heap.size w wr) (fun x _ _ => (intOf x).toNat)
  case atStart => exact ⟨k, l, HK.out, rfl, ho2.full, rfl, hbw⟩
  case round =>
    clear ho2 hbw
    obtain ⟨m, ls, hm, rfl, hf, HE, hb⟩ := hrel
    have hle : ls.length + 1 ≤ 140737488355328 := by
      have := congrArg List.length HE.out
      have := put_pos m
      have := HT.out
      have := HL.out
      simp only [List.length_append] at *
      omega
    have HLE := Lib.hid hle
    have HM := Lib.hid hm
    obtain ⟨A', c', rfl⟩ := hf.form
    have HF := Lib.hid hf
    clear hle hf
    have hsz := hb.size
    by_cases hlt : m < 128
    · have HY := Lib.hid (show (m : Int) = ((UInt8.ofNat m).toNat : Int) by rw [byte_last hlt])
      go_wp2_with (at_builtin; go_must (refine wpList_append_new rfl (.tmp 24) (.tmp 27) rfl rfl rfl HF.out hsz (UInt8.ofNat m) HY.out HLE.out ?_; intro g1 c1 w1 ho1 hb1))
      go_returns
      have hq : l ++ put k = ls ++ [UInt8.ofNat m] := by rw [← HE.out, put_lt hlt]
      exact made_of hq ho1 (hb.trans hb1)
    · have hm0 : 0 ≤ (m : Int) % 128 := by omega
      have hm1 : (m : Int) % 128 < 128 := by omega
      go_wp2_with (at_builtin; go_must (refine wpList_append_new rfl (.tmp 15) (.tmp 20) rfl rfl rfl HF.out hsz (UInt8.ofNat (m % 128 + 128)) ?hy HLE.out ?_; (case hy => (rw [byte_more]; omega)); intro g1 c1 w1 ho1 hb1))
      go_roundw
      case rel => exact ⟨m / 128, ls ++ [UInt8.ofNat (m % 128 + 128)], by have := HM.out; omega, val_int (by omega), ho1.full, (show ls ++ [UInt8.ofNat (m % 128 + 128)] ++ put (m / 128) = l ++ put k by rw [← HE.out, put_ge hlt, List.append_assoc]; rfl), hb.trans hb1⟩
      case measure => simp [intOf]; omega

set_option maxHeartbeats 1000000 in
theorem putt_any (A : Option Addr) (n c : Nat) (l : List UInt8) (s : ByteArray) (w : World) (hr : Rd w w.heap.size A l) (hn : n = l.length) (hc : n ≤ c) (hnil : A = none → c = 0) (hs : n + s.size ≤ 140737488351232) :
    Calls Tryz.prog 58 #[.slice A n c, .string s] w (Made w (l ++ put s.size ++ s.data.toList)) := by
  have HC := Lib.hid (putu_any A n c l s.size w hr hn hc hnil (by omega) (by omega))
  have HT := Lib.hid (put_ten (n := s.size) (by omega))
  have HP := Lib.hid (put_pos s.size)
  have HL := Lib.hid (show l.length + s.size ≤ 140737488351232 by omega)
  have hs0 : (s.size : Int) ≤ 9223372036854775807 := by omega
  clear hr hn hc hnil hs
  go_enter Tryz.func58, Tryz.ntmps58
  go_wp2_with (first
    | (go_at_call 55; go_must (refine HC.out.mono ?_; rintro e w1 ⟨g, n1, c1, rfl, ho, hb⟩))
    | (at_builtin; go_must (refine wpList_append_text rfl (.tmp 9) (.tmp 10) rfl rfl s rfl ho hb.size (by have := HP.out; have := ho.len; simp only [List.length_append] at this; omega) (by have := HL.out; have := HT.out; have := ho.len; simp only [List.length_append] at this; omega) ?_; intro g2 c2 w2 ho2 hb2)))
  go_returns
  exact made_of rfl ho2 (hb.trans hb2)

set_option maxHeartbeats 1000000 in
theorem rputt_any (A : Option Addr) (n c : Nat) (l : List UInt8) (s : ByteArray) (w : World) (hr : Rd w w.heap.size A l) (hn : n = l.length) (hc : n ≤ c) (hnil : A = none → c = 0) (hs : n + s.size ≤ 140737488351232) :
    Calls Tryz.prog 62 #[.slice A n c, .string s] w (Made w (l ++ put s.size ++ s.data.toList)) := by
  have HC := Lib.hid (rputu_any A n c l s.size w hr hn hc hnil (by omega) (by omega))
  have HT := Lib.hid (put_ten (n := s.size) (by omega))
  have HP := Lib.hid (put_pos s.size)
  have HL := Lib.hid (show l.length + s.size ≤ 140737488351232 by omega)
  have hs0 : (s.size : Int) ≤ 9223372036854775807 := by omega
  clear hr hn hc hnil hs
  go_enter Tryz.func62, Tryz.ntmps62
  go_wp2_with (first
    | (go_at_call 63; go_must (refine HC.out.mono ?_; rintro e w1 ⟨g, n1, c1, rfl, ho, hb⟩))
    | (at_builtin; go_must (refine wpList_append_text rfl (.tmp 11) (.tmp 12) rfl rfl s rfl ho hb.size (by have := HP.out; have := ho.len; simp only [List.length_append] at this; omega) (by have := HL.out; have := HT.out; have := ho.len; simp only [List.length_append] at this; omega) ?_; intro g2 c2 w2 ho2 hb2)))
  go_returns
  exact made_of rfl ho2 (hb.trans hb2)

end Sb
end Go.Proofs.YtillcmddbjhepaaGreatDoor
