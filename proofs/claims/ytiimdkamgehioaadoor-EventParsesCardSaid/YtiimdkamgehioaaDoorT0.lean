/-
  A package-level table of plain data (numbers, bools, strings; structs and arrays of them): what the row lists tells its cells.
-/
import Derived.Test.YtiimdkamgehioaaDoorG0
import Derived.Lib.LaidTab
import Derived.Laws.Rows
namespace Go.Proofs.YtiimdkamgehioaaDoor
open Go

/-- The cells one after the other, where each part lies behind the one before. -/
def chain {H : Type} (size : TypeId → Nat) (step : TypeId → DataW H → Option (List Value)) : Nat → List (Nat × TypeId) → List (DataW H) → Option (List Value)
  | _, [], [] => some []
  | off, (o, t) :: r, d :: ds =>
    match step t d with
    | some l => if o = off ∧ l.length = size t then (chain size step (off + size t) r ds).map (l ++ ·) else none
    | none => none
  | _, _, _ => none
/-- The cells of a plain datum. -/
def flat {H : Type} (P : Program) : Nat → TypeId → DataW H → Option (List Value)
  | 0, _, _ => none
  | f + 1, t, d =>
    match P.underlying t, d with
    | some .bool, .lit (.bool b) => some [.bool b]
    | some (.int k), .lit (.int k' n) => if k' = k then some [.int k n] else none
    | some .string, .lit (.string l) => some [.string ⟨l.toArray⟩]
    | some (.struct fs), .agg ds => (chain P.cellsOf (flat P f) 0 (fs.toList.map fun x => (x.offset, x.type)) ds).bind fun l => if l.length = P.cellsOf t then some l else none
    | some (.array n e), .agg ds => (chain P.cellsOf (flat P f) 0 ((List.range n).map fun i => (i * P.cellsOf e, e)) ds).bind fun l => if l.length = P.cellsOf t then some l else none
    | _, _ => none

theorem chain_cells {H : Type} {size : TypeId → Nat} {step : TypeId → DataW H → Option (List Value)} {cs : List Value} :
    ∀ (r : List (Nat × TypeId)) (ds : List (DataW H)) (off : Nat) (l : List Value), chain size step off r ds = some l →
      (∀ (i : Nat) (o : Nat) (t : TypeId) (d : DataW H) (m : List Value), r[i]? = some (o, t) → ds[i]? = some d → step t d = some m → (cs.drop o).take (size t) = m) →
      (cs.drop off).take l.length = l
  | [], [], off, l, h, _ => by
    simp only [chain, Option.some.injEq] at h
    subst h; simp
  | (o, t) :: r, d :: ds, off, l, h, ha => by
    simp only [chain] at h
    split at h
    · rename_i m hm
      split at h
      · rename_i hc
        obtain ⟨rfl, hlen⟩ := hc
        obtain ⟨l', hl', rfl⟩ := Option.map_eq_some_iff.1 h
        have h0 := ha 0 o t d m rfl rfl hm
        have ih := chain_cells r ds (o + size t) l' hl' fun i o' t' d' m' h1 h2 h3 => ha (i + 1) o' t' d' m' (by simpa using h1) (by simpa using h2) h3
        rw [List.length_append, hlen, List.take_add, h0, List.drop_drop, ih]
      · cases h
    · cases h
  | [], _ :: _, _, _, h, _ => by simp [chain] at h
  | _ :: _, [], _, _, h, _ => by simp [chain] at h

theorem cells_of_flat {H : Type} {enc : TypeId × Value → H} {P : Program} {w : World} {base : Nat} {sp : Nat → Bool} {held : Bool} :
    ∀ (f fuel : Nat) (t : TypeId) (d : DataW H) (cs : List Value) (p : List MemPlace) (l : List Value),
      DataW.trod enc P w base sp held fuel t cs = some (d, p) → flat P f t d = some l → cs = l
  | 0, _, _, _, _, _, _, _, h => by simp [flat] at h
  | f + 1, fuel, t, d, cs, p, l, ht, h => by
    unfold flat at h
    split at h
    · rename_i b hu
      obtain ⟨b', rfl, hx⟩ := DataW.trod_bool hu ht
      simp only [Prod.mk.injEq, DataW.lit.injEq, Lit.bool.injEq] at hx
      rw [← hx.1]; exact Option.some.inj h
    · rename_i k k' n hu
      split at h
      · rename_i hk
        subst hk
        obtain ⟨n', rfl, hx, _⟩ := DataW.trod_int hu ht
        simp only [Prod.mk.injEq, DataW.lit.injEq, Lit.int.injEq] at hx
        rw [← hx.1.2]; exact Option.some.inj h
      · cases h
    · rename_i l' hu
      obtain ⟨s, rfl, hx, _⟩ := DataW.trod_string hu ht
      simp only [Prod.mk.injEq, DataW.lit.injEq, Lit.string.injEq] at hx
      rw [hx.1, bytes_of] at h
      exact Option.some.inj h
    · rename_i fs ds hu
      obtain ⟨l', hl', h⟩ := Option.bind_eq_some_iff.1 h
      split at h
      · rename_i hlen
        obtain rfl := Option.some.inj h
        obtain ⟨xs, n, rfl, hx, hcs, _, hf⟩ := DataW.trod_struct hu ht
        simp only [Prod.mk.injEq, DataW.agg.injEq] at hx
        have := chain_cells (cs := cs) _ _ _ _ hl' fun i o u d m h1 h2 h3 => by
          simp only [List.getElem?_map, Option.map_eq_some_iff, Prod.mk.injEq] at h1
          obtain ⟨g, hg, rfl, rfl⟩ := h1
          have h4 := hf i g (by simpa using hg)
          rw [hx.1, List.getElem?_map, Option.map_eq_some_iff] at h2
          obtain ⟨y, hy, rfl⟩ := h2
          rw [hy] at h4
          exact cells_of_flat f n g.type y.1 _ y.2 m h4 h3
        rw [List.drop_zero, hlen, ← hcs, List.take_length] at this
        exact this
      · cases h
    · rename_i n e ds hu
      obtain ⟨l', hl', h⟩ := Option.bind_eq_some_iff.1 h
      split at h
      · rename_i hlen
        obtain rfl := Option.some.inj h
        obtain ⟨xs, n', rfl, hx, hcs, hxl, hf⟩ := DataW.trod_array hu ht
        simp only [Prod.mk.injEq, DataW.agg.injEq] at hx
        have := chain_cells (cs := cs) _ _ _ _ hl' fun i o u d m h1 h2 h3 => by
          simp only [List.getElem?_map, Option.map_eq_some_iff, Prod.mk.injEq] at h1
          obtain ⟨g, hg, rfl, rfl⟩ := h1
          have hi : i < n := by
            have := (List.getElem?_eq_some_iff.1 hg).1
            simpa using this
          have hgi : g = i := by
            rw [List.getElem?_range hi] at hg
            exact (Option.some.inj hg).symm
          subst hgi
          have h4 := hf g hi
          rw [hx.1, List.getElem?_map, Option.map_eq_some_iff] at h2
          obtain ⟨y, hy, rfl⟩ := h2
          rw [hy] at h4
          exact cells_of_flat f n' e y.1 _ y.2 m h4 h3
        rw [List.drop_zero, hlen, ← hcs, List.take_length] at this
        exact this
      · cases h
    · cases h

/-- The variable NAME holds just these cells. -/
def TabHas (P : Program) (w : World) (name : String) (l : List Value) : Prop := w.var? P name = some l.toArray
/-- From the row's condition: the table stands first on the list. -/
theorem tabHas_of_head {P : Program} {W : World} {name : String} {d : DataW Unit} {rest : List (String × DataW Unit)} {g : Nat} {t : TypeId} {f : Nat} {l : List Value}
    (hg : P.globalNamed name = some g) (hty : (P.globals[g]?).map (·.type) = some t) (hl : flat P f t d = some l)
    (h : laidMet P ((name, d) :: rest) W) : TabHas P W name l := by
  obtain ⟨ps, ⟨g', t', cs, fuel, p, q, hg', ht', hvar, hd, _, _⟩, _⟩ := h
  obtain rfl := Option.some.inj (hg.symm.trans hg')
  obtain rfl := Option.some.inj (hty.symm.trans ht')
  unfold TabHas
  rw [hvar, ← cells_of_flat f fuel t d _ p l hd hl]
theorem TabHas.cell {P : Program} {W : World} {name : String} {l : List Value} {g : Nat} (h : TabHas P W name l) (hg : P.globalNamed name = some g) (i : Nat) : W.cell? ⟨g, i, none⟩ = l[i]? := by
  rw [World.var?_cell hg h i]; simp

/-- The whole table, loaded. -/
theorem wpList_table {P : Program} {ops : Array Oper} {rest : List Oper} {o : Oper} {a : Act} {w : World} {Q : Exit → Act → World → Prop} {name : String} {l : List Value} {g : Nat} {d : TypeDesc} (t : TypeId)
    (hu : P.underlying t = some d) (hd : (match d with | .struct _ | .array _ _ => true | _ => false) = true) (hi : (P.info? t).map (·.size) = some l.length) (hg : P.globalNamed name = some g)
    (A : Array Value) (hA : A = l.toArray) (hgd : o.guard = none) (ho : o.op = .load t (.global g)) (h : TabHas P w name l)
    (hk : wpList P ops Q rest (a.put o.dst (.agg A)) w) : wpList P ops Q (o :: rest) a w := by
  subst hA
  refine wpList_plain hgd fun K hK => ?_
  have hrun : (Instr.loadAt t (.pointer (some ⟨g, 0, none⟩))).run P w = .ok (.agg l.toArray) w := by
    unfold TabHas at h
    simp only [World.var?, hg, Option.bind_some] at h
    split at h
    · rename_i cs ty fr hh
      obtain rfl := Option.some.inj h
      simp only [Instr.loadAt, Instr.sureAddr, Sem.run_bind, Sem.run_pure, Result.andThen_ok]
      exact run_loadVar_row w g ty t _ fr d hh hu hd (by rw [hi]; simp)
    · cases h
  have hx : a.eval (.global g) = .pointer (some ⟨g, 0, none⟩) := rfl
  unfold Oper.wp execOp
  simp only [ho, hx, Sem.run_bind, Sem.run_pure, Result.andThen_ok, hrun]
  exact hK _ _ hk

end Go.Proofs.YtiimdkamgehioaaDoor
