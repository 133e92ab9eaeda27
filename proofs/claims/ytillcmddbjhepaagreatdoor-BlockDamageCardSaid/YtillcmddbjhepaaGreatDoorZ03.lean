/-
  Small facts of our own that every seat's proofs use: memory that only grows, endings, bytes, and from a walk to a statement's row.
  Structs and arrays of one-cell parts among a function's arguments, opened part by part.
  Slices of structs of one-cell fields among a function's arguments, opened element by element, with what their weights say.
  The walks of TakeUint, the program's and the specification's.
  Names and captures, plain: characters, names, runs of whatever levels; valid, joined, length, level at a tick, parts.
  Bits of levels, plain.
  Runes of any string: the width, and that no special character lies within a rune of several bytes.
  A package-level table of plain data (numbers, bools, strings; structs and arrays of them): what the row lists tells its cells.
-/
import Derived.Test.YtillcmddbjhepaaGreatDoorRows
import Derived.WalkKit
import Derived.WalkSpells
import Derived.WalkLawsBesides
import Derived.Deep.QuietTactic
import Derived.BigQuiet
import Derived.IntWalk
import Derived.Lib.Hide
import Derived.Handy
import Derived.Deep.RegionWith
import Derived.ProofKit
import Derived.LaidMore
import Derived.OpenShut
import Derived.Stop.Joined
import Derived.HandedShaped
import Derived.SevenTiedAt
import Derived.Lib.LaidTab
import Derived.Lib.SmallJoins
import Derived.Carry
import Derived.WalkSmall
import Derived.Lib.Strings
import Derived.SizedLaws
import Derived.Deep.Slices
import Derived.Test.YtillcmddbjhepaaGreatDoorZ01
import Derived.Laws.Bits64b
import Derived.Deep.DeepMust
import Derived.Lib.OthersKept
import Derived.Laws.RangeAny
import Derived.Laws.Rows
namespace Go.Proofs.YtillcmddbjhepaaGreatDoor
open Go Go.ChangeShapes Go.WideShapes Go.ChangeAt Go.RowKit

/-! Endings. -/
theorem ret_int {k : IntKind} {a b : Int} (h : a = b) : Ending.returned (.int k a) = .returned (.int k b) := by rw [h]
theorem val_int {k : IntKind} {a b : Int} (h : a = b) : Value.int k a = .int k b := by rw [h]
theorem ret_bool {a b : Bool} (h : a = b) : Ending.returned (.bool a) = .returned (.bool b) := by rw [h]

/-! Memory only grows. -/
theorem le_alloc {B : Nat} {w : World} (h : B ≤ w.heap.size) (o : Obj) : B ≤ (w.alloc o).heap.size := by rw [World.size_alloc]; omega
theorem le_setCell {B : Nat} {w : World} (h : B ≤ w.heap.size) (a : Addr) (v : Value) : B ≤ (w.setCell a v).heap.size := by rw [World.size_setCell]; exact h
theorem le_drew {B : Nat} {w : World} (h : B ≤ w.heap.size) : B ≤ w.drew.heap.size := h
theorem le_drewN {B : Nat} {w : World} (h : B ≤ w.heap.size) (n : Nat) : B ≤ (w.drewN n).heap.size := h
theorem ba (w : World) (o : Obj) : Below w.heap.size w (w.alloc o) := (Below.refl _ _).alloc (Nat.le_refl _) _
theorem bcell {W w1 : World} (hb : Below W.heap.size W w1) : (∀ b o, b < W.heap.size → w1.cell? ⟨b, o, none⟩ = W.cell? ⟨b, o, none⟩) ∧ (∀ b o, b < W.heap.size → w1.frozen? ⟨b, o, none⟩ = W.frozen? ⟨b, o, none⟩) :=
  ⟨fun b o h => hb.cell (p := ⟨b, o, none⟩) h, fun b o h => hb.frozen (p := ⟨b, o, none⟩) h⟩
/-- Two cells of an old block, behind what only makes memory; of a new one. -/
theorem old2 {w w' : World} {b : Nat} {x y : Value} (hb : Below w.heap.size w w') (h : w.cell? ⟨b, 0, none⟩ = some x ∧ w.cell? ⟨b, 1, none⟩ = some y ∧ b < w.heap.size) : w'.cell? ⟨b, 0, none⟩ = some x ∧ w'.cell? ⟨b, 1, none⟩ = some y ∧ b < w'.heap.size :=
  ⟨by rw [hb.cell h.2.2]; exact h.1, by rw [hb.cell h.2.2]; exact h.2.1, Nat.lt_of_lt_of_le h.2.2 hb.size⟩
theorem new2 (w : World) (x y : Value) (T : TypeId) : (w.alloc (.cells #[x, y] T)).cell? ⟨w.heap.size, 0, none⟩ = some x ∧ (w.alloc (.cells #[x, y] T)).cell? ⟨w.heap.size, 1, none⟩ = some y ∧ w.heap.size < (w.alloc (.cells #[x, y] T)).heap.size :=
  ⟨by go_simp, by go_simp, by rw [World.size_alloc]; omega⟩
/-- A result of two cells, stored behind calls. -/
theorem two_set {wa : World} {b : Nat} {u0 u1 v0 v1 : Value} (h0 : wa.cell? ⟨b, 0, none⟩ = some u0) (h1 : wa.cell? ⟨b, 1, none⟩ = some u1) :
    ((wa.setCell ⟨b, 0, none⟩ v0).setCell ⟨b, 1, none⟩ v1).cell? ⟨b, 0, none⟩ = some v0 ∧ ((wa.setCell ⟨b, 0, none⟩ v0).setCell ⟨b, 1, none⟩ v1).cell? ⟨b, 1, none⟩ = some v1 := by
  constructor
  · rw [World.cell?_setCell_other _ _ _ _ (by simp)]; exact World.cell?_setCell_same _ _ _ h0
  · exact World.cell?_setCell_same _ _ _ (by rw [World.cell?_setCell_other _ _ _ _ (by simp)]; exact h1)

/-! Bytes. -/
theorem size_len (s : ByteArray) : s.size = s.data.toList.length := Lib.size_eq s
theorem toList_mk (l : List UInt8) : (⟨l.toArray⟩ : ByteArray).data.toList = l := by simp
theorem size_mk (l : List UInt8) : (⟨l.toArray⟩ : ByteArray).size = l.length := by rw [size_len, toList_mk]
theorem bytes_of (s : ByteArray) : (⟨s.data.toList.toArray⟩ : ByteArray) = s := by cases s; simp
theorem getElem_toList (s : ByteArray) (k : Nat) (h : k < s.size) : s.data.toList[k]'(by simpa using h) = s[k] := rfl
theorem empty_toList {s : ByteArray} (h : s.size = 0) : s.data.toList = [] := by
  rw [← List.length_eq_zero_iff]; simpa using h
theorem take_snoc (s : ByteArray) (k : Nat) (h : k < s.size) : s.data.toList.take (k + 1) = s.data.toList.take k ++ [s[k]] := by
  rw [List.take_succ_eq_append_getElem (by simpa using h)]; rfl

/-! From a walk to a statement's row. -/
theorem own : ownKnob Tryz.prog.godebug = none := by kernel_rfl
theorem laidOut : laidOutB Tryz.prog = true := by kernel_rfl
/-- The wrap that keeps both a condition on memory and the world's shape. -/
theorem handed_listed {H : Type} {enc : TypeId × Value → H} {C : Checked} {os : Os} {f : FuncId} {fn : Func} {s : ChangeSpec} {X : World → Prop}
    (hX : ∀ w w' : World, w.heap = w'.heap → X w → X w')
    (ho : ownKnob C.prog.godebug = none) (started : os.Started) (noInit : C.prog.inits.idxOf? f = none) (hfn : C.prog.funcs[f]? = some fn)
    (witness : ∃ (w : World) (tape : Tape) (i : Input), w.os = os ∧ (w.forCall tape i).Shaped C.prog ∧ i.vars = [] ∧ Input.okWide C.prog (w.forCall tape i) .any w.heap.size f i ∧
      ((s.pre enc C.prog fn [] false (w.forCall tape i).memory i.args ∧ X (w.forCall tape i).memory) ∧ sizedMet enc C.prog fn (OpenSpec.ofChange s) false (w.forCall tape i).memory i.args) ∧ Assume.holds {} C.prog (lone (Frame.enter C.prog f i.args .normal) [] (w.forCall tape i)))
    (contract : ∀ (W : World) (base : Nat) (args : Array Value) (ds gs : List (DataW H)) (before : List MemPlace),
      (∀ (j : Nat) t v, fn.params[j]? = some t → args[j]? = some v → Value.okWide C.prog W .any base t v) →
      DataW.Whole enc C.prog fn.params.toList s.vars false W args.toList ds gs before →
      (DataW.weightsEach C.prog (fn.params.toList ++ s.plain.varTypes C.prog) (ds ++ gs)).all (· ≤ reachBytes) = true → X W → W.ShapedOpen C.prog →
      Calls C.prog f args W fun e W' => ∃ v, e = .returned v ∧ s.post enc C.prog fn false true false false W args v W') :
    ReturnsInHanded {} C os f .any (fun w args => (s.pre enc C.prog fn [] false w args ∧ X w) ∧ sizedMet enc C.prog fn (OpenSpec.ofChange s) false w args) (s.post enc C.prog fn false true false false) :=
  returnsInHanded_of_calls ho started noInit witness fun w tape i _ hsh _ hok hpre _ => by
    obtain ⟨⟨⟨ds, gs, before, hw, _⟩, hx⟩, hz⟩ := hpre
    obtain ⟨_, _, _, fn', hfn', _, _, _, _, hval⟩ := hok
    obtain rfl : fn = fn' := Option.some.inj (hfn.symm.trans hfn')
    refine (contract (w.forCall tape i) w.heap.size i.args ds gs before hval (DataW.Whole.of_heap (w' := w.forCall tape i) (by rfl) hw) (hz.weights hw) (hX (w.forCall tape i).memory (w.forCall tape i) (by rfl) hx) hsh).mono ?_
    rintro e W' ⟨v, rfl, hp⟩
    exact ChangeSpec.post_blind hp
/-- Readings of old memory stand behind what only makes memory. -/
theorem below_trodAll {H : Type} {enc : TypeId × Value → H} {P : Program} {W W' : World} (hl : laidOutB P = true) (hb : Below W.heap.size W W') (ts : List TypeId) :
    ∀ (vs : List Value) (ds : List (DataW H)) (ps : List MemPlace), (ts.all fun t => P.readableRec t && decide (t < P.types.size)) = true →
      DataW.TrodAll enc P W 0 (fun _ => true) true ts vs ds ps → (∀ p ∈ ps, p.block < W.heap.size) → DataW.TrodAll enc P W' 0 (fun b => decide (b < W.heap.size)) true ts vs ds ps := by
  induction ts with
  | nil =>
    intro vs ds ps _ h _
    match vs, ds, h with
    | [], [], h => exact h
  | cons t ts ih =>
    intro vs ds ps hr h hlt
    match vs, ds, h with
    | v :: vs, d :: ds, h =>
      obtain ⟨p, q, h1, h2, rfl⟩ := h
      simp only [List.all_cons, Bool.and_eq_true] at hr
      exact ⟨p, q, Below.trod hl hr.1.1 (of_decide_eq_true hr.1.2) h1 hb (fun x hx => hlt x (List.mem_append_left _ hx)), ih vs ds q hr.2 h2 (fun x hx => hlt x (List.mem_append_right _ hx)), rfl⟩
/-- A statement's row, once its call returns true and only makes memory. -/
theorem law_post {H : Type} {enc : TypeId × Value → H} {f : Func} {s : ChangeSpec} {W W' : World} {args : Array Value} {ds gs : List (DataW H)} {before : List MemPlace}
    (hW : DataW.Whole enc Tryz.prog f.params.toList s.vars false W args.toList ds gs before) (hv : s.vars = []) (hr : f.resultTypes = #[4])
    (ht : (f.params.toList.all fun t => Tryz.prog.readableRec t && decide (t < Tryz.prog.types.size)) = true)
    (hfn : s.fn H (ds ++ gs) = { results := [.lit (.bool true)], args := ds }) (hb : Below W.heap.size W W') :
    s.post enc Tryz.prog f false true false false W args (.bool true) W' := by
  have hlt := hW.lt
  have hW' := hW
  obtain ⟨p, q, hA, hV, rfl, _, _⟩ := hW
  rw [hv] at hV
  obtain ⟨rfl, rfl⟩ := trodVars_none hV
  have hA' := below_trodAll laidOut hb _ _ _ _ ht hA (fun x hx => hlt x (List.mem_append_left _ hx))
  refine ⟨ds, [], _, [], p, [], hW', ?_, ?_, ?_, hb.frame _, fun h => by cases h⟩
  · rw [hfn, hr]; exact trodAll_mk1 (shut_bool Tryz.underlying4 true)
  · rw [hfn]; exact hA'
  · rw [hfn, hv]; rfl

end Go.Proofs.YtillcmddbjhepaaGreatDoor

namespace Go.Proofs.YtillcmddbjhepaaGreatDoor
open Go Go.ChangeShapes Go.WideShapes Go.ChangeAt Go.RowKit

section
variable {H : Type} {enc : TypeId × Value → H} {P : Program} {w : World} {b0 base : Nat} {spare : Nat → Bool} {held : Bool} {r : Reach} {t : TypeId} {v : Value} {d : DataW H} {p : List MemPlace}

theorem okWide_arr {n : Nat} {e : TypeId} (ht : P.underlying t = some (.array n e)) (h : Value.okWide P w r b0 t v) : ∃ cs, v = .agg cs ∧ cs.size = P.cellsOf t := by
  simp only [Value.okWide, ht] at h
  obtain ⟨cs, h1, h2, _⟩ := h
  exact ⟨cs, h1, h2⟩
/-- A struct of one-cell fields. -/
theorem open_struct {fs : Array Field} (hs : P.underlying t = some (.struct fs)) (hv : Value.okWide P w r b0 t v) (h : DataW.Trod enc P w base spare held t v d p) :
    ∃ (cs : Array Value) (n : Nat), v = .agg cs ∧ cs.size = P.cellsOf t ∧ ∀ (i : Nat) (f : Field), fs[i]? = some f → P.cellsOf f.type = 1 → f.offset < cs.size → ∃ y, DataW.trod enc P w base spare held n f.type [cs.getD f.offset default] = some y := by
  obtain ⟨cs, rfl, hsz⟩ := okWide_struct hs hv
  obtain ⟨fuel, hf⟩ := h
  obtain ⟨xs, n, rfl, _, _, hl, hx⟩ := DataW.trod_struct hs hf
  refine ⟨cs, n, rfl, hsz, fun i f hi h1 ho => ?_⟩
  have hlt : i < fs.size := (Array.getElem?_eq_some_iff.1 hi).1
  have h2 := hx i f hi
  have h3 : i < xs.length := by omega
  rw [h1, List.getElem?_eq_getElem h3] at h2
  refine ⟨xs[i], ?_⟩
  rw [← h2]
  congr 1
  have e : (Value.agg cs).cells.toList = cs.toList := rfl
  rw [e]
  apply List.ext_getElem?
  intro j
  rw [List.getElem?_take, List.getElem?_drop]
  cases j with
  | zero => simp [ho]
  | succ j => simp
/-- An array of one-cell elements. -/
theorem open_arr {k : Nat} {e : TypeId} (hs : P.underlying t = some (.array k e)) (h1 : P.cellsOf e = 1) (hv : Value.okWide P w r b0 t v) (h : DataW.Trod enc P w base spare held t v d p) :
    ∃ (cs : Array Value) (n : Nat), v = .agg cs ∧ cs.size = P.cellsOf t ∧ ∀ i, i < k → i < cs.size → ∃ y, DataW.trod enc P w base spare held n e [cs.getD i default] = some y := by
  obtain ⟨cs, rfl, hsz⟩ := okWide_arr hs hv
  obtain ⟨fuel, hf⟩ := h
  obtain ⟨xs, n, rfl, _, _, hl, hx⟩ := DataW.trod_array hs hf
  refine ⟨cs, n, rfl, hsz, fun i hi ho => ?_⟩
  have h2 := hx i hi
  have h3 : i < xs.length := by omega
  rw [h1, Nat.mul_one, List.getElem?_eq_getElem h3] at h2
  refine ⟨xs[i], ?_⟩
  rw [← h2]
  congr 1
  have e : (Value.agg cs).cells.toList = cs.toList := rfl
  rw [e]
  apply List.ext_getElem?
  intro j
  rw [List.getElem?_take, List.getElem?_drop]
  cases j with
  | zero => simp [ho]
  | succ j => simp
end

theorem arr2 {cs : Array Value} (h : cs.size = 2) : cs = #[cs.getD 0 default, cs.getD 1 default] := by
  obtain ⟨l⟩ := cs
  match l, h with
  | [a, b], _ => rfl
theorem arr3 {cs : Array Value} (h : cs.size = 3) : cs = #[cs.getD 0 default, cs.getD 1 default, cs.getD 2 default] := by
  obtain ⟨l⟩ := cs
  match l, h with
  | [a, b, c], _ => rfl
theorem arr4 {cs : Array Value} (h : cs.size = 4) : cs = #[cs.getD 0 default, cs.getD 1 default, cs.getD 2 default, cs.getD 3 default] := by
  obtain ⟨l⟩ := cs
  match l, h with
  | [a, b, c, d], _ => rfl
theorem arr5 {cs : Array Value} (h : cs.size = 5) : cs = #[cs.getD 0 default, cs.getD 1 default, cs.getD 2 default, cs.getD 3 default, cs.getD 4 default] := by
  obtain ⟨l⟩ := cs
  match l, h with
  | [a, b, c, d, e], _ => rfl

end Go.Proofs.YtillcmddbjhepaaGreatDoor

namespace Go.Proofs.YtillcmddbjhepaaGreatDoor
open Go Go.ChangeShapes Go.WideShapes Go.ChangeAt Go.RowKit
set_option linter.unusedVariables false

section
variable {H : Type} {enc : TypeId × Value → H} {P : Program} {w : World} {b0 : Nat} {r : Reach} {t : TypeId} {v : Value} {d : DataW H} {p : List MemPlace}

theorem weights_all {e : TypeId} {d : DataW H} {n : Nat} (hn : n ∈ d.weights P e) : ∀ {l : List (DataW H)}, d ∈ l → n ∈ DataW.weightsAll P e l
  | x :: l, h => by
    simp only [DataW.weightsAll, List.mem_append]
    rcases List.mem_cons.1 h with rfl | h
    · exact .inl hn
    · exact .inr (weights_all hn h)
theorem weights_elem {t e : TypeId} {es sp : List (DataW H)} {d : DataW H} {n : Nat} (ht : P.underlying t = some (.slice e)) (hd : d ∈ es) (hn : n ∈ d.weights P e) : n ∈ (DataW.slice es sp).weights P t := by
  simp only [DataW.weights, ht, List.mem_cons, List.mem_append]
  exact .inr (.inl (weights_all hn hd))
theorem weights_part {e : TypeId} {fs : Array Field} {ys : List (DataW H)} {d : DataW H} {f : Field} {i n : Nat} (ht : P.underlying e = some (.struct fs)) (hf : fs[i]? = some f) (hd : ys[i]? = some d) (hn : n ∈ d.weights P f.type) : n ∈ (DataW.agg ys).weights P e := by
  simp only [DataW.weights, ht]
  exact DataW.weights_mem_each (j := i) (t := f.type) (by simp [Array.getElem?_toList, hf]) hd n hn

/-- A slice of structs. -/
theorem open_rows {t e : TypeId} {fs : Array Field} {m : Nat} (ht : P.underlying t = some (.slice e)) (he : P.underlying e = some (.struct fs)) (hc : P.cellsOf e = m) (hpos : 0 < m)
    (hv : Value.okWide P w r b0 t v) (h : DataW.Trod enc P w 0 (fun _ => true) true t v d p) :
    ∃ (A : Option Addr) (len cap : Nat), v = .slice A len cap ∧ len ≤ cap ∧ (A = none → cap = 0) ∧
      (0 < len → ∃ (g o : Nat) (es sp : List (DataW H)), A = some ⟨g, o, none⟩ ∧ g < w.heap.size ∧ d = .slice es sp ∧ es.length = len ∧
        ∀ j, j < len → ∃ (cs : List Value) (ys : List (DataW H)) (n : Nat), cs.length = m ∧ (∀ i, i < m → w.cell? ⟨g, o + j * m + i, none⟩ = cs[i]?) ∧ es[j]? = some (.agg ys) ∧
          ∀ (i : Nat) (f : Field), fs[i]? = some f → P.cellsOf f.type = 1 → f.offset < m → ∃ c y q, cs[f.offset]? = some c ∧ ys[i]? = some y ∧ DataW.trod enc P w 0 (fun _ => true) true n f.type [c] = some (y, q)) := by
  obtain ⟨A, n0, c0, rfl⟩ := okWide_slice ht hv
  obtain ⟨fuel, hf⟩ := h
  rcases Go.Deep.open_slice ht hf with ⟨h1, h2⟩ | ⟨a, len, cap, m', n, D, Pl, h1, hb, hl, hm, hmm, h2, hx⟩
  · simp only [Value.cells, List.cons.injEq, Value.slice.injEq, and_true] at h1
    obtain ⟨rfl, rfl, rfl⟩ := h1
    exact ⟨none, 0, 0, rfl, Nat.le_refl _, fun _ => rfl, fun h => absurd h (by omega)⟩
  · simp only [Value.cells, List.cons.injEq, Value.slice.injEq, and_true] at h1
    obtain ⟨rfl, rfl, rfl⟩ := h1
    simp only [Prod.mk.injEq] at h2
    refine ⟨some a, n0, c0, rfl, hl, fun h => (by cases h), fun h0 => ?_⟩
    rw [hc] at hx
    simp only [if_true] at hmm
    have key : ∀ j, j < n0 → ∃ cs', w.cells? 0 (a.add (j * m)) m = some cs' ∧ DataW.trod enc P w 0 (fun _ => true) true n e cs' = some (D j, Pl j) := fun j hj => hx j (by omega)
    have hspot : a.spot = none := by
      obtain ⟨cs', k1, _⟩ := key 0 h0
      obtain ⟨_, hlen, hcell⟩ := World.cells?_some k1
      have h1 := hcell 0 hpos
      rw [List.getElem?_eq_getElem (by omega)] at h1
      simpa [Addr.add] using World.cell?_spot h1
    obtain ⟨g, o, s⟩ := a
    simp only at hspot
    subst hspot
    have cellAt : ∀ j, j < n0 → ∀ cs' : List Value, w.cells? 0 ((⟨g, o, none⟩ : Addr).add (j * m)) m = some cs' → cs'.length = m ∧ ∀ i, i < m → w.cell? ⟨g, o + j * m + i, none⟩ = cs'[i]? := by
      intro j hj cs' k1
      obtain ⟨_, hlen, hcell⟩ := World.cells?_some k1
      refine ⟨hlen, fun i hi => ?_⟩
      have h1 := hcell i hi
      rwa [Go.Deep.add_add, Addr.add_lit, ← Nat.add_assoc] at h1
    obtain ⟨cs0, k0, _⟩ := key 0 h0
    obtain ⟨l0, q0⟩ := cellAt 0 h0 cs0 k0
    have q00 := q0 0 hpos
    rw [List.getElem?_eq_getElem (by omega)] at q00
    refine ⟨g, o, _, _, rfl, World.block_lt_of_cell? w _ q00, h2.1, by simp, fun j hj => ?_⟩
    obtain ⟨cs', k1, k2⟩ := key j hj
    obtain ⟨lj, qj⟩ := cellAt j hj cs' k1
    obtain ⟨xs, n', rfl, hx', _, hl', hfd⟩ := DataW.trod_struct he k2
    simp only [Prod.mk.injEq] at hx'
    refine ⟨cs', xs.map (·.1), n', lj, qj, by rw [List.getElem?_map, List.getElem?_range hj]; simp [hx'.1], fun i f hi h1 ho => ?_⟩
    have hlt : i < fs.size := (Array.getElem?_eq_some_iff.1 hi).1
    have h3 := hfd i f hi
    have h4 : i < xs.length := by omega
    rw [h1, List.getElem?_eq_getElem h4] at h3
    refine ⟨cs'[f.offset]'(by omega), xs[i].1, xs[i].2, List.getElem?_eq_getElem _, by rw [List.getElem?_map, List.getElem?_eq_getElem h4]; rfl, ?_⟩
    rw [← Prod.eta xs[i]] at h3
    rw [← h3]
    congr 1
    apply List.ext_getElem?
    intro k
    rw [List.getElem?_take, List.getElem?_drop]
    cases k with
    | zero => simp [List.getElem?_eq_getElem (show f.offset < cs'.length by omega)]
    | succ k => simp
end

end Go.Proofs.YtillcmddbjhepaaGreatDoor

namespace Go.Proofs.YtillcmddbjhepaaGreatDoor
namespace Sb
open Go.RowKit
set_option linter.unusedVariables false
set_option linter.unusedSimpArgs false

/-- What TakeUint answers. -/
def tuVal (l : List UInt8) (at_ : Int) : Value := .tuple #[.int .u64 (tuV l at_ : Nat), .int .i64 (tuN l at_ : Nat), .int .i64 (tuE l at_ : Nat)]
theorem tuVal_of {l : List UInt8} {at_ : Int} {v n e : Nat} (h : tu l at_ = (v, n, e)) : Ending.returned (.tuple #[.int .u64 (v : Int), .int .i64 (n : Int), .int .i64 (e : Int)]) = .returned (tuVal l at_) := by
  unfold tuVal tuV tuN tuE
  rw [h]
theorem tuVal_at {l : List UInt8} {at_ : Int} {v n e : Nat} (h : tu l at_ = (v, n, e)) (x y z : Int) (hx : x = v) (hy : y = n) (hz : z = e) : Ending.returned (.tuple #[.int .u64 x, .int .i64 y, .int .i64 z]) = .returned (tuVal l at_) := by
  subst hx hy hz; exact tuVal_of h

/-- Behind k bytes of the value n, what is answered is what is answered from the start. -/
theorem tu_comb {l : List UInt8} {a n k : Nat} (ha : a ≤ l.length) {v m e : Nat} (h : comb n k (tk k (l.drop (a + k))) = tk 0 (l.drop a)) (hv : comb n k (tk k (l.drop (a + k))) = (v, m, e)) : tu l a = if e = 0 then (v, a + m, 0) else (0, 0, e) := by
  rw [tu_in ha, ← h, hv]

theorem drop_at (s : ByteArray) (j : Nat) (h : j < s.size) : s.data.toList.drop j = s[j] :: s.data.toList.drop (j + 1) := by
  rw [List.drop_eq_getElem_cons (by simpa using h)]; rfl

set_option maxRecDepth 20000 in
set_option maxHeartbeats 1000000 in
theorem taku_any (s : ByteArray) (at_ : Int) (w : World) (hs : s.size ≤ 9223372036854775807) :
    Calls Tryz.prog 102 #[.string s, .int .i64 at_] w fun e w' => e = .returned (tuVal s.data.toList at_) ∧ w = w' := by
  have hlen : s.data.toList.length = s.size := by simp
  have hs' : (s.size : Int) ≤ 9223372036854775807 := by omega
  by_cases h1 : at_ < 0
  · have HT := Lib.hid (tu_out (l := s.data.toList) (.inl h1))
    clear hlen
    go_enter Tryz.func102, Tryz.ntmps102
    go_wp2
    go_returns
    exact ⟨tuVal_at HT.out _ _ _ rfl rfl rfl, rfl⟩
  · by_cases h2 : (s.size : Int) < at_
    · have HT := Lib.hid (tu_out (l := s.data.toList) (.inr (by rw [hlen]; exact h2)))
      clear hlen
      go_enter Tryz.func102, Tryz.ntmps102
      go_wp2
      go_returns
      exact ⟨tuVal_at HT.out _ _ _ rfl rfl rfl, rfl⟩
    · obtain ⟨a, rfl⟩ : ∃ a : Nat, at_ = a := ⟨at_.toNat, by omega⟩
      have HLen := Lib.hid hlen
      clear hlen
      go_enter Tryz.func102, Tryz.ntmps102
      go_wp2
      go_loop [7, 8] (fun x y => ∃ n k : Nat, k ≤ 9 ∧ n < 128 ^ k ∧ a + k ≤ s.size ∧ x = .int .u64 n ∧ y = .int .i64 k ∧ Hid (comb n k (tk k (s.data.toList.drop (a + k))) = tk 0 (s.data.toList.drop a))) (fun _ y => 10 - (intOf y).toNat)
      case atStart => exact ⟨0, 0, by omega, by omega, by omega, rfl, rfl, comb_zero _⟩
      case round =>
        obtain ⟨n, k, hk, hn, hle, rfl, rfl, HC⟩ := hrel
        have HN := Lib.hid hn
        clear hn
        by_cases he : a + k = s.size
        · have HT := Lib.hid (show tu s.data.toList a = (0, 0, 5) by
            have e : s.data.toList.drop (a + k) = [] := List.drop_eq_nil_of_le (by rw [HLen.out]; omega)
            have := tu_comb (l := s.data.toList) (a := a) (n := n) (k := k) (v := 0) (m := 0) (e := 5) (by rw [HLen.out]; omega) HC.out (by rw [e]; exact comb_nil n k)
            simpa using this)
          go_wp2
          go_returns
          exact ⟨tuVal_at HT.out _ _ _ rfl rfl rfl, rfl⟩
        · have hlt : a + k < s.size := by omega
          have hd := drop_at s (a + k) hlt
          have hc0 := s[a + k].toNat_lt
          have HD := Lib.hid (show s.data.toList.drop (a + k) = s[a + k] :: s.data.toList.drop (a + (k + 1)) from hd)
          clear hd
          have HB0 : Hid ((k = 9 ∧ 1 < s[a + k].toNat ∨ 0 < k ∧ s[a + k].toNat = 0) → tu s.data.toList a = (0, 0, 4)) := fun hb => by
            have := tu_comb (l := s.data.toList) (a := a) (n := n) (k := k) (v := 0) (m := 0) (e := 4) (by rw [HLen.out]; omega) HC.out (by rw [HD.out]; exact comb_bad _ hb)
            simpa using this
          have HE0 : Hid (¬ (k = 9 ∧ 1 < s[a + k].toNat ∨ 0 < k ∧ s[a + k].toNat = 0) → s[a + k].toNat < 128 → tu s.data.toList a = (n + 128 ^ k * (s[a + k].toNat % 128), a + (k + 1), 0)) := fun hb hc => by
            have := tu_comb (l := s.data.toList) (a := a) (n := n) (k := k) (v := n + 128 ^ k * (s[a + k].toNat % 128)) (m := k + 1) (e := 0) (by rw [HLen.out]; omega) HC.out (by rw [HD.out]; exact comb_end _ hb hc)
            simpa using this
          have HN0 : Hid (¬ (k = 9 ∧ 1 < s[a + k].toNat ∨ 0 < k ∧ s[a + k].toNat = 0) → ¬ s[a + k].toNat < 128 → comb (n + 128 ^ k * (s[a + k].toNat % 128)) (k + 1) (tk (k + 1) (s.data.toList.drop (a + (k + 1)))) = tk 0 (s.data.toList.drop a)) := fun hb hc => by
            rw [← HC.out, HD.out]; exact (comb_on _ hb hc).symm
          clear HD
          go_wp2
          all_goals first
            | (go_returns
               have hb : k = 9 ∧ 1 < s[a + k].toNat ∨ 0 < k ∧ s[a + k].toNat = 0 := by (first | omega | (simp only [beq_iff_eq, beq_eq_false_iff_ne, ne_eq] at *; omega))
               exact ⟨tuVal_at (HB0.out hb) _ _ _ rfl rfl rfl, rfl⟩)
            | (go_returns
               have hb : ¬ (k = 9 ∧ 1 < s[a + k].toNat ∨ 0 < k ∧ s[a + k].toNat = 0) := by (first | omega | (simp only [beq_iff_eq, beq_eq_false_iff_ne, ne_eq] at *; omega))
               have h9 : k = 9 → s[a + k].toNat ≤ 1 := by omega
               first
                 | exact ⟨tuVal_at (HE0.out hb (by omega)) _ _ _ (or_group hk HN.out h9 _ (wrap_group hk h9)) (by omega) rfl, rfl⟩
                 | (obtain rfl : k = 9 := by omega
                    exact ⟨tuVal_at (HE0.out hb (by omega)) _ _ _ (or_group hk HN.out h9 _ (by omega)) (by omega) rfl, rfl⟩))
            | (have hb : ¬ (k = 9 ∧ 1 < s[a + k].toNat ∨ 0 < k ∧ s[a + k].toNat = 0) := by (first | omega | (simp only [beq_iff_eq, beq_eq_false_iff_ne, ne_eq] at *; omega))
               have h9 : k = 9 → s[a + k].toNat ≤ 1 := by omega
               go_round
               case rel => exact ⟨n + 128 ^ k * (s[a + k].toNat % 128), k + 1, by omega, next_lt HN.out, by omega, val_int (or_group hk HN.out h9 _ (wrap_group hk h9)), by go_num, HN0.out hb (by omega)⟩
               case measure => simp [intOf]; omega)

set_option maxRecDepth 20000 in
set_option maxHeartbeats 1000000 in
theorem rtaku_any (s : ByteArray) (at_ : Int) (w : World) (hs : s.size ≤ 9223372036854775807) :
    Calls Tryz.prog 84 #[.string s, .int .i64 at_] w fun e w' => e = .returned (tuVal s.data.toList at_) ∧ w = w' := by
  have hlen : s.data.toList.length = s.size := by simp
  have hs' : (s.size : Int) ≤ 9223372036854775807 := by omega
  by_cases h1 : at_ < 0
  · have HT := Lib.hid (tu_out (l := s.data.toList) (.inl h1))
    clear hlen
    go_enter Tryz.func84, Tryz.ntmps84
    go_wp2
    go_returns
    exact ⟨tuVal_at HT.out _ _ _ rfl rfl rfl, rfl⟩
  · by_cases h2 : (s.size : Int) < at_
    · have HT := Lib.hid (tu_out (l := s.data.toList) (.inr (by rw [hlen]; exact h2)))
      clear hlen
      go_enter Tryz.func84, Tryz.ntmps84
      go_wp2
      go_returns
      exact ⟨tuVal_at HT.out _ _ _ rfl rfl rfl, rfl⟩
    · obtain ⟨a, rfl⟩ : ∃ a : Nat, at_ = a := ⟨at_.toNat, by omega⟩
      have HLen := Lib.hid hlen
      clear hlen
      go_enter Tryz.func84, Tryz.ntmps84
      go_wp2
      go_loop [7, 8, 9] (fun x z y => ∃ n k : Nat, k ≤ 9 ∧ n < 128 ^ k ∧ a + k ≤ s.size ∧ x = .int .u64 n ∧ z = .int .u64 ((128 ^ k : Nat) : Int) ∧ y = .int .i64 k ∧ Hid (comb n k (tk k (s.data.toList.drop (a + k))) = tk 0 (s.data.toList.drop a))) (fun _ _ y => 10 - (intOf y).toNat)
      case atStart => exact ⟨0, 0, by omega, by omega, by omega, rfl, rfl, rfl, comb_zero _⟩
      case round =>
        obtain ⟨n, k, hk, hn, hle, rfl, hz, rfl, HC⟩ := hrel
        obtain ⟨W, hW⟩ : ∃ W : Int, ((128 ^ k : Nat) : Int) = W := ⟨_, rfl⟩
        have hz' := hz.trans (congrArg (Value.int .u64) hW)
        subst hz'
        have HW := Lib.hid hW
        clear hW hz
        have HN := Lib.hid hn
        clear hn
        by_cases he : a + k = s.size
        · have HT := Lib.hid (show tu s.data.toList a = (0, 0, 5) by
            have e : s.data.toList.drop (a + k) = [] := List.drop_eq_nil_of_le (by rw [HLen.out]; omega)
            have := tu_comb (l := s.data.toList) (a := a) (n := n) (k := k) (v := 0) (m := 0) (e := 5) (by rw [HLen.out]; omega) HC.out (by rw [e]; exact comb_nil n k)
            simpa using this)
          go_wp2
          go_returns
          exact ⟨tuVal_at HT.out _ _ _ rfl rfl rfl, rfl⟩
        · have hlt : a + k < s.size := by omega
          have hd := drop_at s (a + k) hlt
          have hc0 := s[a + k].toNat_lt
          have HD := Lib.hid (show s.data.toList.drop (a + k) = s[a + k] :: s.data.toList.drop (a + (k + 1)) from hd)
          clear hd
          have HB0 : Hid ((k = 9 ∧ 1 < s[a + k].toNat ∨ 0 < k ∧ s[a + k].toNat = 0) → tu s.data.toList a = (0, 0, 4)) := fun hb => by
            have := tu_comb (l := s.data.toList) (a := a) (n := n) (k := k) (v := 0) (m := 0) (e := 4) (by rw [HLen.out]; omega) HC.out (by rw [HD.out]; exact comb_bad _ hb)
            simpa using this
          have HE0 : Hid (¬ (k = 9 ∧ 1 < s[a + k].toNat ∨ 0 < k ∧ s[a + k].toNat = 0) → s[a + k].toNat < 128 → tu s.data.toList a = (n + 128 ^ k * (s[a + k].toNat % 128), a + (k + 1), 0)) := fun hb hc => by
            have := tu_comb (l := s.data.toList) (a := a) (n := n) (k := k) (v := n + 128 ^ k * (s[a + k].toNat % 128)) (m := k + 1) (e := 0) (by rw [HLen.out]; omega) HC.out (by rw [HD.out]; exact comb_end _ hb hc)
            simpa using this
          have HN0 : Hid (¬ (k = 9 ∧ 1 < s[a + k].toNat ∨ 0 < k ∧ s[a + k].toNat = 0) → ¬ s[a + k].toNat < 128 → comb (n + 128 ^ k * (s[a + k].toNat % 128)) (k + 1) (tk (k + 1) (s.data.toList.drop (a + (k + 1)))) = tk 0 (s.data.toList.drop a)) := fun hb hc => by
            rw [← HC.out, HD.out]; exact (comb_on _ hb hc).symm
          clear HD
          go_wp2
          all_goals first
            | (go_returns
               have hb : k = 9 ∧ 1 < s[a + k].toNat ∨ 0 < k ∧ s[a + k].toNat = 0 := by (first | omega | (simp only [beq_iff_eq, beq_eq_false_iff_ne, ne_eq] at *; omega))
               exact ⟨tuVal_at (HB0.out hb) _ _ _ rfl rfl rfl, rfl⟩)
            | (go_returns
               have hb : ¬ (k = 9 ∧ 1 < s[a + k].toNat ∨ 0 < k ∧ s[a + k].toNat = 0) := by (first | omega | (simp only [beq_iff_eq, beq_eq_false_iff_ne, ne_eq] at *; omega))
               have h9 : k = 9 → s[a + k].toNat ≤ 1 := by omega
               exact ⟨tuVal_at (HE0.out hb (by omega)) _ _ _ (sum_group HW.out hk HN.out h9) (by omega) rfl, rfl⟩)
            | (have hb : ¬ (k = 9 ∧ 1 < s[a + k].toNat ∨ 0 < k ∧ s[a + k].toNat = 0) := by (first | omega | (simp only [beq_iff_eq, beq_eq_false_iff_ne, ne_eq] at *; omega))
               have h9 : k = 9 → s[a + k].toNat ≤ 1 := by omega
               go_round
               case rel => exact ⟨n + 128 ^ k * (s[a + k].toNat % 128), k + 1, by omega, next_lt HN.out, by omega, val_int (sum_group HW.out hk HN.out h9), val_int (next_weight HW.out (by omega)), by go_num, HN0.out hb (by omega)⟩
               case measure => simp [intOf]; omega)

end Sb
end Go.Proofs.YtillcmddbjhepaaGreatDoor

namespace Go.Proofs.YtillcmddbjhepaaGreatDoor
namespace Si
set_option linter.unusedVariables false
set_option linter.unusedSimpArgs false

def isLt (c : Nat) : Bool := decide (97 ≤ c ∧ c ≤ 122)
def isDg (c : Nat) : Bool := decide (48 ≤ c ∧ c ≤ 57)
def isIn (c : Nat) : Bool := isLt c || isDg c || decide (c = 95)
theorem isIn_big {c : Nat} (h : 128 ≤ c) : isIn c = false := by unfold isIn isLt isDg; simp; omega
/-- How many characters of a name or a number the list begins with. -/
def wl : List UInt8 → Nat
  | [] => 0
  | c :: r => if isIn c.toNat = true then wl r + 1 else 0
theorem wl_le (l : List UInt8) : wl l ≤ l.length := by
  induction l with
  | nil => exact Nat.le_refl _
  | cons c r ih => simp only [wl]; split <;> simp <;> omega
/-- A name. -/
def nm (l : List UInt8) : Bool :=
  match l with
  | [] => false
  | c :: r => decide ((c :: r).length ≤ 16) && isLt c.toNat && decide (wl (c :: r) = (c :: r).length)
theorem nm_letter (c : UInt8) (r : List UInt8) (h : isLt c.toNat = false) : nm (c :: r) = false := by simp [nm, h]
theorem nm_le {l : List UInt8} (h : nm l = true) : l.length ≤ 16 := by
  cases l with
  | nil => simp
  | cons c r => simp only [nm, Bool.and_eq_true, decide_eq_true_eq] at h; exact h.1.1
def nmB (s : ByteArray) : Bool := nm s.data.toList

/-! Lists of names. -/
def has (l : List ByteArray) (s : ByteArray) : Bool := l.any fun x => decide (x.data.toList = s.data.toList)
theorem eq_of_toList {a b : ByteArray} (h : a.data.toList = b.data.toList) : a = b := by
  have := congrArg List.toArray h
  cases a; cases b
  simpa using this
/-- Some name stands before the place n a second time. -/
def dpT (l : List ByteArray) (n : Nat) : Bool := (List.range n).any fun i => has (l.take i) (l.getD i ⟨#[]⟩)
def ckN (l : List ByteArray) : Int := if 16 < l.length then 6 else if l.length = 0 then 1 else if l.all nmB = false then 4 else if dpT l l.length = true then 9 else 0
theorem ckN_6 {l : List ByteArray} (h : 16 < l.length) : ckN l = 6 := by unfold ckN; rw [if_pos h]
theorem ckN_1 {l : List ByteArray} (h : l.length = 0) : ckN l = 1 := by unfold ckN; rw [if_neg (by omega), if_pos h]
theorem ckN_4 {l : List ByteArray} (h : ¬ 16 < l.length) (h0 : ¬ l.length = 0) (h4 : l.all nmB = false) : ckN l = 4 := by unfold ckN; rw [if_neg h, if_neg h0, if_pos h4]
theorem ckN_9 {l : List ByteArray} (h : ¬ 16 < l.length) (h0 : ¬ l.length = 0) (h4 : l.all nmB = true) (h9 : dpT l l.length = true) : ckN l = 9 := by unfold ckN; rw [if_neg h, if_neg h0, if_neg (by rw [h4]; decide), if_pos h9]
theorem ckN_0 {l : List ByteArray} (h : ¬ 16 < l.length) (h0 : ¬ l.length = 0) (h4 : l.all nmB = true) (h9 : dpT l l.length = false) : ckN l = 0 := by unfold ckN; rw [if_neg h, if_neg h0, if_neg (by rw [h4]; decide), if_neg (by rw [h9]; decide)]
theorem ckN_ok {l : List ByteArray} (h : ckN l = 0) : 0 < l.length ∧ l.length ≤ 16 ∧ l.all nmB = true := by
  unfold ckN at h
  split at h
  · omega
  · split at h
    · omega
    · split at h
      · omega
      · split at h
        · omega
        · rename_i a b c d
          exact ⟨by omega, by omega, by simpa using c⟩
theorem all_at {l : List ByteArray} (h : l.all nmB = true) (j : Nat) (hj : j < l.length) : nmB l[j] = true := List.all_eq_true.1 h _ (List.getElem_mem hj)
theorem all_no {l : List ByteArray} {j : Nat} (hj : j < l.length) (h : nmB l[j] = false) : l.all nmB = false := by
  rw [List.all_eq_false]
  exact ⟨l[j], List.getElem_mem hj, by rw [h]; decide⟩
theorem all_take {l : List ByteArray} {j : Nat} (hj : j < l.length) (h : (l.take j).all nmB = true) (h1 : nmB l[j] = true) : (l.take (j + 1)).all nmB = true := by
  rw [List.take_succ_eq_append_getElem hj, List.all_append, h]
  simp [h1]
theorem dpT_step {l : List ByteArray} {j : Nat} (hj : j < l.length) (h : dpT l j = false) : dpT l (j + 1) = has (l.take j) l[j] := by
  unfold dpT at *
  rw [List.range_succ, List.any_append, h]
  simp [hj]
theorem dpT_yes {l : List ByteArray} {j : Nat} (hj : j < l.length) (h : has (l.take j) l[j] = true) : dpT l l.length = true := by
  unfold dpT
  rw [List.any_eq_true]
  exact ⟨j, List.mem_range.2 hj, by simpa [hj] using h⟩
theorem has_step {l : List ByteArray} {k : Nat} (hk : k < l.length) {s : ByteArray} (h : has (l.take k) s = false) : has (l.take (k + 1)) s = decide (l[k].data.toList = s.data.toList) := by
  unfold has at *
  rw [List.take_succ_eq_append_getElem hk, List.any_append, h]
  simp
theorem has_yes {l : List ByteArray} {i k : Nat} (hk : k < l.length) (hi : k < i) {s : ByteArray} (h : l[k].data.toList = s.data.toList) : has (l.take i) s = true := by
  unfold has
  rw [List.any_eq_true]
  exact ⟨l[k], List.mem_take_iff_getElem.2 ⟨k, by omega, rfl⟩, decide_eq_true h⟩

/-! Runs. -/
abbrev Rn := Int × Int
def okR (m s : Int) (r : Rn) : Bool := decide (0 ≤ r.1 ∧ r.1 ≤ m) && decide (1 ≤ r.2) && decide (r.2 ≤ 1099511627776 - s)
def vr (m : Int) : Int → List Rn → Bool
  | _, [] => true
  | s, r :: l => okR m s r && vr m (s + r.2) l
def lg : List Rn → Int
  | [] => 0
  | r :: l => r.2 + lg l
/-- Each run has a tick. -/
def ps (l : List Rn) : Prop := ∀ r ∈ l, 1 ≤ r.2
/-- Each level is from 0 to m. -/
def lv (m : Int) (l : List Rn) : Prop := ∀ r ∈ l, 0 ≤ r.1 ∧ r.1 ≤ m

theorem lg_append (a b : List Rn) : lg (a ++ b) = lg a + lg b := by
  induction a with
  | nil => simp [lg]
  | cons r a ih => simp only [List.cons_append, lg, ih]; omega
theorem lg_one (r : Rn) : lg [r] = r.2 := by simp [lg]
theorem lg_take (l : List Rn) (j : Nat) (hj : j < l.length) : lg (l.take (j + 1)) = lg (l.take j) + l[j].2 := by
  rw [List.take_succ_eq_append_getElem hj, lg_append, lg_one]
theorem lg_split (l : List Rn) (j : Nat) : lg l = lg (l.take j) + lg (l.drop j) := by
  rw [← lg_append, List.take_append_drop]
theorem ps_nil : ps [] := by intro r h; cases h
theorem ps_cons {r : Rn} {l : List Rn} : ps (r :: l) ↔ 1 ≤ r.2 ∧ ps l := by unfold ps; simp
theorem ps_one {r : Rn} : ps [r] ↔ 1 ≤ r.2 := by unfold ps; simp
theorem ps_append {a b : List Rn} : ps (a ++ b) ↔ ps a ∧ ps b := by
  unfold ps
  constructor
  · exact fun h => ⟨fun r hr => h r (List.mem_append_left _ hr), fun r hr => h r (List.mem_append_right _ hr)⟩
  · rintro ⟨h1, h2⟩ r hr
    rcases List.mem_append.1 hr with h | h
    · exact h1 r h
    · exact h2 r h
theorem ps_take {l : List Rn} (h : ps l) (j : Nat) : ps (l.take j) := fun r hr => h r (List.mem_of_mem_take hr)
theorem ps_drop {l : List Rn} (h : ps l) (j : Nat) : ps (l.drop j) := fun r hr => h r (List.mem_of_mem_drop hr)
theorem ps_len {l : List Rn} (h : ps l) : (l.length : Int) ≤ lg l := by
  induction l with
  | nil => simp [lg]
  | cons r l ih =>
    rw [ps_cons] at h
    have := ih h.2
    simp only [List.length_cons, lg]
    omega
theorem ps_nonneg {l : List Rn} (h : ps l) : 0 ≤ lg l := by have := ps_len h; omega
theorem lv_nil (m : Int) : lv m [] := by intro r h; cases h
theorem lv_cons {m : Int} {r : Rn} {l : List Rn} : lv m (r :: l) ↔ (0 ≤ r.1 ∧ r.1 ≤ m) ∧ lv m l := by unfold lv; simp
theorem vr_iff (m : Int) (l : List Rn) (s : Int) (hs : s ≤ 1099511627776) : vr m s l = true ↔ lv m l ∧ ps l ∧ s + lg l ≤ 1099511627776 := by
  induction l generalizing s with
  | nil => simp [vr, lg, ps_nil, lv_nil, hs]
  | cons r l ih =>
    simp only [vr, okR, Bool.and_eq_true, decide_eq_true_eq, ps_cons, lv_cons, lg]
    constructor
    · rintro ⟨⟨⟨h1, h2⟩, h3⟩, h4⟩
      have := (ih (s + r.2) (by omega)).1 h4
      exact ⟨⟨h1, this.1⟩, ⟨h2, this.2.1⟩, by omega⟩
    · rintro ⟨⟨h1, h1'⟩, ⟨h2, h3⟩, h4⟩
      have := ps_nonneg h3
      exact ⟨⟨⟨h1, h2⟩, by omega⟩, (ih (s + r.2) (by omega)).2 ⟨h1', h3, by omega⟩⟩
theorem vr_append (m : Int) (a b : List Rn) (s : Int) : vr m s (a ++ b) = (vr m s a && vr m (s + lg a) b) := by
  induction a generalizing s with
  | nil => simp [vr, lg]
  | cons r a ih => simp only [List.cons_append, vr, lg, ih, Bool.and_assoc, Int.add_assoc]
theorem vr_step {m : Int} {l : List Rn} {j : Nat} (hj : j < l.length) (h : vr m 0 (l.take j) = true) : vr m 0 (l.take (j + 1)) = okR m (lg (l.take j)) l[j] := by
  rw [List.take_succ_eq_append_getElem hj, vr_append, h]
  simp [vr]
theorem vr_bad {m : Int} {l : List Rn} {j : Nat} (hj : j < l.length) (h : okR m (lg (l.take j)) l[j] = false) : vr m 0 l = false := by
  rw [show l = l.take (j + 1) ++ l.drop (j + 1) from (List.take_append_drop _ _).symm, vr_append, List.take_succ_eq_append_getElem hj, vr_append]
  simp [vr, h]
theorem vr_range {m : Int} {l : List Rn} (h : vr m 0 l = true) : 0 ≤ lg l ∧ lg l ≤ 1099511627776 := by
  have := (vr_iff m l 0 (by omega)).1 h
  exact ⟨ps_nonneg this.2.1, by omega⟩
theorem lg_take_range {m : Int} {l : List Rn} (h : vr m 0 l = true) (j : Nat) : 0 ≤ lg (l.take j) ∧ lg (l.take j) ≤ lg l ∧ lg l ≤ 1099511627776 := by
  obtain ⟨_, h2, h3⟩ := (vr_iff m l 0 (by omega)).1 h
  have := ps_nonneg (ps_take h2 j)
  have := ps_nonneg (ps_drop h2 j)
  have := lg_split l j
  omega
theorem el_range {m : Int} {l : List Rn} (h : vr m 0 l = true) (j : Nat) (hj : j < l.length) : (0 ≤ l[j].1 ∧ l[j].1 ≤ m) ∧ 1 ≤ l[j].2 ∧ l[j].2 ≤ 1099511627776 := by
  obtain ⟨h1, h2, h3⟩ := (vr_iff m l 0 (by omega)).1 h
  have h4 := h1 l[j] (List.getElem_mem hj)
  have h4' := h2 l[j] (List.getElem_mem hj)
  have h5 := (lg_take_range h (j + 1))
  have h6 := (lg_take_range h j).1
  rw [lg_take l j hj] at h5
  exact ⟨h4, h4', by omega⟩

/-! Waves. -/
def vl (l : List Rn) : Bool := decide (l.length ≤ 262144) && vr 1 0 l
theorem vl_big {l : List Rn} (h : 262144 < l.length) : vl l = false := by unfold vl; rw [decide_eq_false (by omega)]; rfl
theorem vl_of {l : List Rn} (h : l.length ≤ 262144) : vl l = vr 1 0 l := by unfold vl; rw [decide_eq_true h]; rfl

/-! Captures. -/
def mk (n : Nat) : Int := 2 ^ n - 1
def ckC (N : List ByteArray) (R : List Rn) : Int := if 262144 < R.length then 6 else if ckN N ≠ 0 then ckN N else if vr (mk N.length) 0 R = true then 0 else 2
theorem ckC_6 {N : List ByteArray} {R : List Rn} (h : 262144 < R.length) : ckC N R = 6 := by unfold ckC; rw [if_pos h]
theorem ckC_n {N : List ByteArray} {R : List Rn} (h : ¬ 262144 < R.length) (h1 : ckN N ≠ 0) : ckC N R = ckN N := by unfold ckC; rw [if_neg h, if_pos h1]
theorem ckC_0 {N : List ByteArray} {R : List Rn} (h : ¬ 262144 < R.length) (h1 : ckN N = 0) (h2 : vr (mk N.length) 0 R = true) : ckC N R = 0 := by unfold ckC; rw [if_neg h, if_neg (fun x => x h1), if_pos h2]
theorem ckC_2 {N : List ByteArray} {R : List Rn} (h : ¬ 262144 < R.length) (h1 : ckN N = 0) (h2 : vr (mk N.length) 0 R = false) : ckC N R = 2 := by unfold ckC; rw [if_neg h, if_neg (fun x => x h1), if_neg (by rw [h2]; decide)]
theorem ckC_ok {N : List ByteArray} {R : List Rn} (h : ckC N R = 0) : R.length ≤ 262144 ∧ ckN N = 0 ∧ 0 < N.length ∧ N.length ≤ 16 ∧ N.all nmB = true ∧ vr (mk N.length) 0 R = true := by
  unfold ckC at h
  split at h
  · omega
  · rename_i a
    split at h
    · rename_i b; exact absurd h b
    · rename_i b
      split at h
      · rename_i c
        have b' : ckN N = 0 := by simpa using b
        obtain ⟨d1, d2, d3⟩ := ckN_ok b'
        exact ⟨by omega, b', d1, d2, d3, c⟩
      · omega
theorem ckN_range (N : List ByteArray) : 0 ≤ ckN N ∧ ckN N ≤ 9 := by unfold ckN; (repeat' split) <;> omega
theorem ckC_range (N : List ByteArray) (R : List Rn) : 0 ≤ ckC N R ∧ ckC N R ≤ 9 := by
  have := ckN_range N
  unfold ckC; (repeat' split) <;> omega
theorem mk_range {n : Nat} (h : n ≤ 16) : 0 ≤ mk n ∧ mk n ≤ 65535 := by
  unfold mk
  have h1 : (2 : Int) ^ n = ((2 ^ n : Nat) : Int) := by push_cast; rfl
  have h2 : 2 ^ n ≤ 2 ^ 16 := Nat.pow_le_pow_right (by omega) h
  have h3 := Nat.two_pow_pos n
  omega
def lgC (N : List ByteArray) (R : List Rn) : Int := if ckC N R = 0 then lg R else 0
theorem lgC_yes {N : List ByteArray} {R : List Rn} (h : ckC N R = 0) : lgC N R = lg R := by unfold lgC; rw [if_pos h]
theorem lgC_no {N : List ByteArray} {R : List Rn} (h : ¬ ckC N R = 0) : lgC N R = 0 := by unfold lgC; rw [if_neg h]

/-! Joining. -/
def pt (o : List Rn) (r : Rn) : List Rn := match o.getLast? with
  | some x => if x.1 = r.1 then o.dropLast ++ [(x.1, x.2 + r.2)] else o ++ [r]
  | none => [r]
def jn (l : List Rn) : List Rn := l.foldl pt []
theorem pt_nil (r : Rn) : pt [] r = [r] := rfl
theorem pt_snoc (o : List Rn) (x r : Rn) : pt (o ++ [x]) r = if x.1 = r.1 then o ++ [(x.1, x.2 + r.2)] else o ++ [x] ++ [r] := by
  unfold pt
  simp
theorem nil_or_snoc (l : List Rn) : l = [] ∨ ∃ o x, l = o ++ [x] := by
  rcases List.eq_nil_or_concat l with h | ⟨o, x, h⟩
  · exact .inl h
  · exact .inr ⟨o, x, by simpa using h⟩
theorem jn_snoc (l : List Rn) (r : Rn) : jn (l ++ [r]) = pt (jn l) r := by unfold jn; rw [List.foldl_append]; rfl
theorem jn_take (l : List Rn) (j : Nat) (hj : j < l.length) : jn (l.take (j + 1)) = pt (jn (l.take j)) l[j] := by
  rw [List.take_succ_eq_append_getElem hj, jn_snoc]
theorem pt_lg (o : List Rn) (r : Rn) : lg (pt o r) = lg o + r.2 := by
  rcases nil_or_snoc o with rfl | ⟨o, x, rfl⟩
  · simp [pt_nil, lg]
  · rw [pt_snoc]
    split <;> simp [lg_append, lg] <;> omega
theorem pt_ps {o : List Rn} {r : Rn} (ho : ps o) (hr : 1 ≤ r.2) : ps (pt o r) := by
  rcases nil_or_snoc o with rfl | ⟨o, x, rfl⟩
  · rw [pt_nil, ps_one]; exact hr
  · rw [pt_snoc]
    rw [ps_append, ps_one] at ho
    split
    · rw [ps_append, ps_one]
      exact ⟨ho.1, by show 1 ≤ x.2 + r.2; omega⟩
    · rw [ps_append, ps_append, ps_one, ps_one]; exact ⟨ho, hr⟩
theorem pt_lv {m : Int} {o : List Rn} {r : Rn} (ho : lv m o) (hr : 0 ≤ r.1 ∧ r.1 ≤ m) : lv m (pt o r) := by
  rcases nil_or_snoc o with rfl | ⟨o, x, rfl⟩
  · intro y hy; rw [pt_nil, List.mem_singleton] at hy; subst hy; exact hr
  · rw [pt_snoc]
    split
    · intro y hy
      rcases List.mem_append.1 hy with h | h
      · exact ho y (List.mem_append_left _ h)
      · rw [List.mem_singleton] at h; subst h; exact ho x (by simp)
    · intro y hy
      rcases List.mem_append.1 hy with h | h
      · exact ho y h
      · rw [List.mem_singleton] at h; subst h; exact hr
theorem pt_len (o : List Rn) (r : Rn) : (pt o r).length ≤ o.length + 1 ∧ o.length ≤ (pt o r).length ∧ 0 < (pt o r).length := by
  rcases nil_or_snoc o with rfl | ⟨o, x, rfl⟩
  · simp [pt_nil]
  · rw [pt_snoc]
    split <;> simp
theorem fold_lg (l o : List Rn) : lg (l.foldl pt o) = lg o + lg l := by
  induction l generalizing o with
  | nil => simp [lg]
  | cons r l ih => simp only [List.foldl_cons, ih, pt_lg, lg]; omega
theorem jn_lg (l : List Rn) : lg (jn l) = lg l := by unfold jn; rw [fold_lg]; simp [lg]
theorem fold_ps (l o : List Rn) (ho : ps o) (hl : ps l) : ps (l.foldl pt o) := by
  induction l generalizing o with
  | nil => exact ho
  | cons r l ih =>
    rw [ps_cons] at hl
    exact ih _ (pt_ps ho hl.1) hl.2
theorem jn_ps {l : List Rn} (h : ps l) : ps (jn l) := fold_ps l [] ps_nil h
theorem fold_lv {m : Int} (l o : List Rn) (ho : lv m o) (hl : lv m l) : lv m (l.foldl pt o) := by
  induction l generalizing o with
  | nil => exact ho
  | cons r l ih =>
    rw [lv_cons] at hl
    exact ih _ (pt_lv ho hl.1) hl.2
theorem jn_lv {m : Int} {l : List Rn} (h : lv m l) : lv m (jn l) := fold_lv l [] (lv_nil m) h
theorem fold_len (l o : List Rn) : (l.foldl pt o).length ≤ o.length + l.length ∧ o.length ≤ (l.foldl pt o).length := by
  induction l generalizing o with
  | nil => simp
  | cons r l ih =>
    have h1 := ih (pt o r)
    have h2 := pt_len o r
    simp only [List.foldl_cons, List.length_cons]
    omega
theorem jn_len (l : List Rn) : (jn l).length ≤ l.length := by have := (fold_len l []).1; unfold jn; simpa using this
theorem jn_vr {m : Int} {l : List Rn} (h : vr m 0 l = true) : vr m 0 (jn l) = true := by
  obtain ⟨h1, h2, h3⟩ := (vr_iff m l 0 (by omega)).1 h
  exact (vr_iff m _ 0 (by omega)).2 ⟨jn_lv h1, jn_ps h2, by rw [jn_lg]; exact h3⟩

/-! No two adjacent runs have one level. -/
def al (l : List Rn) : Prop := ∀ (i : Nat) (h : i + 1 < l.length), l[i].1 ≠ l[i + 1].1
theorem al_nil : al [] := fun i h => absurd h (by simp)
theorem al_cons {r s : Rn} {l : List Rn} : al (r :: s :: l) ↔ r.1 ≠ s.1 ∧ al (s :: l) := by
  constructor
  · intro h
    exact ⟨h 0 (by simp), fun i hi => h (i + 1) (by simpa using hi)⟩
  · rintro ⟨h1, h2⟩ i hi
    cases i with
    | zero => exact h1
    | succ i => exact h2 i (by simpa using hi)
theorem al_one (r : Rn) : al [r] := fun i h => absurd h (by simp)
theorem al_tail {r : Rn} {l : List Rn} (h : al (r :: l)) : al l := fun i hi => h (i + 1) (by simpa using hi)
theorem al_snoc {o : List Rn} {x r : Rn} (h : al (o ++ [x])) (hx : x.1 ≠ r.1) : al (o ++ [x] ++ [r]) := by
  induction o with
  | nil => simp only [List.nil_append, List.cons_append]; rw [al_cons]; exact ⟨hx, al_one r⟩
  | cons y o ih =>
    cases o with
    | nil =>
      simp only [List.cons_append, List.nil_append, al_cons] at h ⊢
      exact ⟨h.1, hx, al_one r⟩
    | cons z o =>
      simp only [List.cons_append, al_cons] at h ⊢ ih
      exact ⟨h.1, ih h.2⟩
theorem al_last {o : List Rn} {x y : Rn} (h : al (o ++ [x])) (hx : x.1 = y.1) : al (o ++ [y]) := by
  induction o with
  | nil => exact al_one y
  | cons z o ih =>
    cases o with
    | nil =>
      simp only [List.cons_append, List.nil_append, al_cons] at h ⊢
      exact ⟨by rw [← hx]; exact h.1, al_one y⟩
    | cons u o =>
      simp only [List.cons_append, al_cons] at h ⊢ ih
      exact ⟨h.1, ih h.2⟩
theorem pt_al {o : List Rn} {r : Rn} (h : al o) : al (pt o r) := by
  rcases nil_or_snoc o with rfl | ⟨o, x, rfl⟩
  · exact al_one r
  · rw [pt_snoc]
    split
    · exact al_last h rfl
    · rename_i hx; exact al_snoc h hx
theorem fold_al (l o : List Rn) (h : al o) : al (l.foldl pt o) := by
  induction l generalizing o with
  | nil => exact h
  | cons r l ih => exact ih _ (pt_al h)
theorem jn_al (l : List Rn) : al (jn l) := fold_al l [] al_nil

/-! The level at a tick. -/
def atv : List Rn → Int → Int × Bool
  | [], _ => (-1, false)
  | r :: l, k => if k < r.2 then (r.1, true) else atv l (k - r.2)
theorem atv_cons (r : Rn) (l : List Rn) (k : Int) : atv (r :: l) k = if k < r.2 then (r.1, true) else atv l (k - r.2) := rfl
theorem atv_drop {l : List Rn} {j : Nat} (hj : j < l.length) (k : Int) : atv (l.drop j) k = if k < l[j].2 then (l[j].1, true) else atv (l.drop (j + 1)) (k - l[j].2) := by
  rw [List.drop_eq_getElem_cons hj]; rfl
theorem atv_append (a b : List Rn) (k : Int) (ha : ps a) (hk : 0 ≤ k) : atv (a ++ b) k = if k < lg a then atv a k else atv b (k - lg a) := by
  induction a generalizing k with
  | nil => simp only [List.nil_append, lg, Int.sub_zero]; rw [if_neg (by omega)]
  | cons r a ih =>
    rw [ps_cons] at ha
    have := ps_nonneg ha.2
    have e : lg (r :: a) = r.2 + lg a := rfl
    rw [List.cons_append, atv_cons, atv_cons, e]
    by_cases h : k < r.2
    · rw [if_pos h, if_pos h, if_pos (by omega)]
    · rw [if_neg h, if_neg h, ih (k - r.2) ha.2 (by omega)]
      by_cases h2 : k - r.2 < lg a
      · rw [if_pos h2, if_pos (by omega)]
      · rw [if_neg h2, if_neg (by omega)]
        congr 1
        omega
theorem atv_pt (o : List Rn) (r : Rn) (l : List Rn) (k : Int) (ho : ps o) (hr : 1 ≤ r.2) (hk : 0 ≤ k) : atv (pt o r ++ l) k = atv (o ++ r :: l) k := by
  rcases nil_or_snoc o with rfl | ⟨o, x, rfl⟩
  · rfl
  · rw [pt_snoc]
    rw [ps_append, ps_one] at ho
    have h1 := ho.2
    split
    · rename_i e
      rw [List.append_assoc, List.append_assoc, atv_append o _ k ho.1 hk, atv_append o _ k ho.1 hk]
      by_cases h : k < lg o
      · rw [if_pos h, if_pos h]
      · rw [if_neg h, if_neg h]
        generalize k - lg o = q
        simp only [List.cons_append, List.nil_append, atv]
        by_cases g1 : q < x.2
        · rw [if_pos (by omega), if_pos g1]
        · rw [if_neg g1]
          by_cases g2 : q - x.2 < r.2
          · rw [if_pos (by omega), if_pos g2, e]
          · rw [if_neg (by omega), if_neg g2]
            congr 1
            omega
    · rw [List.append_assoc]; rfl
theorem atv_fold (l o : List Rn) (k : Int) (ho : ps o) (hl : ps l) (hk : 0 ≤ k) : atv (l.foldl pt o) k = atv (o ++ l) k := by
  induction l generalizing o with
  | nil => simp
  | cons r l ih =>
    rw [ps_cons] at hl
    rw [List.foldl_cons, ih _ (pt_ps ho hl.1) hl.2, atv_pt o r l k ho hl.1 hk]
theorem atv_jn {l : List Rn} (k : Int) (hl : ps l) (hk : 0 ≤ k) : atv (jn l) k = atv l k := by
  unfold jn; rw [atv_fold l [] k ps_nil hl hk]; rfl
theorem atv_end {l : List Rn} {k : Int} (hl : ps l) (hk : lg l ≤ k) : atv l k = (-1, false) := by
  induction l generalizing k with
  | nil => rfl
  | cons r l ih =>
    rw [ps_cons] at hl
    have h0 := ps_nonneg hl.2
    have e : lg (r :: l) = r.2 + lg l := rfl
    rw [e] at hk
    rw [atv_cons, if_neg (by omega)]
    exact ih hl.2 (by omega)
theorem atv_in {l : List Rn} {k : Int} (h0 : 0 ≤ k) (hl : ps l) (hk : k < lg l) : (atv l k).2 = true ∧ ∃ r ∈ l, (atv l k).1 = r.1 := by
  induction l generalizing k with
  | nil => simp only [lg] at hk; omega
  | cons r l ih =>
    rw [ps_cons] at hl
    have e : lg (r :: l) = r.2 + lg l := rfl
    rw [e] at hk
    rw [atv_cons]
    by_cases h : k < r.2
    · rw [if_pos h]; exact ⟨rfl, r, by simp, rfl⟩
    · rw [if_neg h]
      obtain ⟨i1, x, i2, i3⟩ := ih (k := k - r.2) (by omega) hl.2 (by omega)
      exact ⟨i1, x, by simp [i2], i3⟩
/-- A run's ticks. -/
theorem atv_run {l : List Rn} {j : Nat} (hl : ps l) (hj : j < l.length) {k : Int} (h1 : lg (l.take j) ≤ k) (h2 : k < lg (l.take (j + 1))) : atv l k = (l[j].1, true) := by
  have h0 := ps_nonneg (ps_take hl j)
  rw [lg_take l j hj] at h2
  conv => lhs; rw [← List.take_append_drop j l]
  rw [atv_append _ _ k (ps_take hl j) (by omega), if_neg (by omega), atv_drop hj, if_pos (by omega)]
/-- A clean list is made of its levels alone. -/
theorem al_unique {a b : List Rn} (ha : al a) (pa : ps a) (hb : al b) (pb : ps b) (h : ∀ k, 0 ≤ k → atv a k = atv b k) : a = b := by
  induction a generalizing b with
  | nil =>
    cases b with
    | nil => rfl
    | cons s b =>
      rw [ps_cons] at pb
      have := h 0 (by omega)
      rw [atv_cons, if_pos (by omega)] at this
      have := congrArg Prod.snd this
      exact absurd this (by simp [atv])
  | cons r a ih =>
    rw [ps_cons] at pa
    cases b with
    | nil =>
      have := h 0 (by omega)
      rw [atv_cons, if_pos (by omega)] at this
      have := congrArg Prod.snd this
      exact absurd this (by simp [atv])
    | cons s b =>
      rw [ps_cons] at pb
      have e0 := h 0 (by omega)
      rw [atv_cons, if_pos (by omega), atv_cons, if_pos (by omega)] at e0
      have e1 : r.1 = s.1 := (Prod.mk.inj e0).1
      have key : ∀ (x y : Rn) (u v : List Rn), al (x :: u) → ps u → x.1 = y.1 → 1 ≤ x.2 → x.2 < y.2 → (∀ k, 0 ≤ k → atv (x :: u) k = atv (y :: v) k) → False := by
        intro x y u v hu pu exy hx hlt hh
        have e2 := hh x.2 (by omega)
        rw [atv_cons, if_neg (by omega), atv_cons, if_pos hlt] at e2
        cases u with
        | nil => have := congrArg Prod.snd e2; exact absurd this (by simp [atv])
        | cons z u =>
          rw [ps_cons] at pu
          rw [atv_cons, if_pos (by omega)] at e2
          have e3 : z.1 = y.1 := (Prod.mk.inj e2).1
          exact (al_cons.1 hu).1 (by rw [exy, e3])
      have e2 : r.2 = s.2 := by
        rcases Int.lt_trichotomy r.2 s.2 with c | c | c
        · exact absurd (key r s a b ha pa.2 e1 pa.1 c h) id
        · exact c
        · exact absurd (key s r b a hb pb.2 e1.symm pb.1 c (fun k hk => (h k hk).symm)) id
      have e3 : r = s := Prod.ext e1 e2
      subst e3
      rw [ih (al_tail ha) pa.2 (al_tail hb) pb.2 fun k hk => ?_]
      have e4 := h (k + r.2) (by omega)
      rw [atv_cons, if_neg (by omega), atv_cons, if_neg (by omega)] at e4
      rw [show k + r.2 - r.2 = k by omega] at e4
      exact e4
def atC (N : List ByteArray) (R : List Rn) (k : Int) : Int × Bool := if ckC N R = 0 ∧ 0 ≤ k then atv R k else (-1, false)
theorem atC_yes {N : List ByteArray} {R : List Rn} {k : Int} (h : ckC N R = 0) (hk : 0 ≤ k) : atC N R k = atv R k := by unfold atC; rw [if_pos ⟨h, hk⟩]
theorem atC_no {N : List ByteArray} {R : List Rn} {k : Int} (h : ¬ (ckC N R = 0 ∧ 0 ≤ k)) : atC N R k = (-1, false) := by unfold atC; rw [if_neg h]

/-! Parts. -/
def s1 (b : Int) (r : Rn) (f t : Int) : List Rn := if max b f < min (b + r.2) t then [(r.1, min (b + r.2) t - max b f)] else []
def sl : Int → List Rn → Int → Int → List Rn
  | _, [], _, _ => []
  | b, r :: l, f, t => s1 b r f t ++ sl (b + r.2) l f t
theorem sl_cons (b : Int) (r : Rn) (l : List Rn) (f t : Int) : sl b (r :: l) f t = s1 b r f t ++ sl (b + r.2) l f t := rfl
theorem sl_snoc (b : Int) (l : List Rn) (r : Rn) (f t : Int) : sl b (l ++ [r]) f t = sl b l f t ++ s1 (b + lg l) r f t := by
  induction l generalizing b with
  | nil => simp [sl, lg]
  | cons x l ih =>
    have e : lg (x :: l) = x.2 + lg l := rfl
    rw [List.cons_append, sl_cons, sl_cons, ih, e, List.append_assoc, Int.add_assoc]
theorem sl_take (l : List Rn) (j : Nat) (hj : j < l.length) (f t : Int) : sl 0 (l.take (j + 1)) f t = sl 0 (l.take j) f t ++ s1 (lg (l.take j)) l[j] f t := by
  rw [List.take_succ_eq_append_getElem hj, sl_snoc, Int.zero_add]
theorem s1_yes {b : Int} {r : Rn} {f t : Int} (h : max b f < min (b + r.2) t) : s1 b r f t = [(r.1, min (b + r.2) t - max b f)] := by unfold s1; rw [if_pos h]
theorem s1_no {b : Int} {r : Rn} {f t : Int} (h : ¬ max b f < min (b + r.2) t) : s1 b r f t = [] := by unfold s1; rw [if_neg h]
theorem s1_len (b : Int) (r : Rn) (f t : Int) : (s1 b r f t).length ≤ 1 := by unfold s1; split <;> simp
theorem sl_len (l : List Rn) (b f t : Int) : (sl b l f t).length ≤ l.length := by
  induction l generalizing b with
  | nil => simp [sl]
  | cons r l ih =>
    rw [sl_cons, List.length_append, List.length_cons]
    have := ih (b + r.2)
    have := s1_len b r f t
    omega
theorem sl_ps {l : List Rn} {b f t : Int} : ps (sl b l f t) := by
  induction l generalizing b with
  | nil => exact ps_nil
  | cons r l ih =>
    rw [sl_cons, ps_append]
    refine ⟨?_, ih⟩
    unfold s1; split
    · rename_i hlt; rw [ps_one]; show 1 ≤ min (b + r.2) t - max b f; omega
    · exact ps_nil
theorem sl_lv {m : Int} {l : List Rn} {b f t : Int} (h : lv m l) : lv m (sl b l f t) := by
  induction l generalizing b with
  | nil => exact lv_nil m
  | cons r l ih =>
    rw [lv_cons] at h
    rw [sl_cons]
    intro y hy
    rcases List.mem_append.1 hy with h1 | h1
    · unfold s1 at h1
      split at h1
      · rw [List.mem_singleton] at h1; subst h1; exact h.1
      · cases h1
    · exact ih h.2 y h1
theorem sl_lg {l : List Rn} {b f t : Int} (h : ps l) : lg (sl b l f t) = max 0 (min (b + lg l) t - max b f) := by
  induction l generalizing b with
  | nil => simp only [sl, lg]; omega
  | cons r l ih =>
    rw [ps_cons] at h
    have h0 := ps_nonneg h.2
    have e : lg (r :: l) = r.2 + lg l := rfl
    rw [sl_cons, lg_append, ih h.2, e]
    unfold s1
    split
    · rw [lg_one]; simp only; omega
    · simp only [lg]; omega
theorem sl_at {l : List Rn} {b f t k : Int} (h : ps l) (hk : 0 ≤ k) (hkt : k < t - max b f) : atv (sl b l f t) k = atv l (max b f + k - b) := by
  induction l generalizing b k with
  | nil => rfl
  | cons r l ih =>
    rw [ps_cons] at h
    rw [sl_cons]
    by_cases c : max b f < b + r.2
    · rw [s1_yes (by omega), List.cons_append, List.nil_append, atv_cons, atv_cons]
      simp only
      by_cases c2 : k < min (b + r.2) t - max b f
      · rw [if_pos c2, if_pos (by omega)]
      · rw [if_neg c2, if_neg (by omega), ih h.2 (by omega) (by omega)]
        congr 1
        omega
    · rw [s1_no (by omega), List.nil_append, atv_cons, if_neg (by omega), ih h.2 hk (by omega)]
      congr 1
      omega
def prt (R : List Rn) (f t : Int) : List Rn := jn (sl 0 R f t)
theorem prt_nil (f t : Int) : prt [] f t = [] := rfl
theorem prt_yes {R : List Rn} {j : Nat} (hj : j < R.length) {f t : Int} (h : max (lg (R.take j)) f < min (lg (R.take j) + R[j].2) t) : prt (R.take (j + 1)) f t = pt (prt (R.take j) f t) (R[j].1, min (lg (R.take j) + R[j].2) t - max (lg (R.take j)) f) := by
  unfold prt; rw [sl_take R j hj, s1_yes h, jn_snoc]
theorem prt_no {R : List Rn} {j : Nat} (hj : j < R.length) {f t : Int} (h : ¬ max (lg (R.take j)) f < min (lg (R.take j) + R[j].2) t) : prt (R.take (j + 1)) f t = prt (R.take j) f t := by
  unfold prt; rw [sl_take R j hj, s1_no h, List.append_nil]
theorem prt_len (R : List Rn) (f t : Int) : (prt R f t).length ≤ R.length := Nat.le_trans (jn_len _) (sl_len R 0 f t)
theorem prt_vr {m : Int} {R : List Rn} {f t : Int} (h : vr m 0 R = true) (hf : 0 ≤ f) : vr m 0 (prt R f t) = true := by
  obtain ⟨h1, h2, h3⟩ := (vr_iff m R 0 (by omega)).1 h
  refine jn_vr ((vr_iff m _ 0 (by omega)).2 ⟨sl_lv h1, sl_ps, ?_⟩)
  have := ps_nonneg h2
  rw [sl_lg h2]
  omega
theorem prt_lg {R : List Rn} {f t : Int} (h : ps R) (hf : 0 ≤ f) (ht : f < t) (hl : t ≤ lg R) : lg (prt R f t) = t - f := by
  unfold prt; rw [jn_lg, sl_lg h]; omega
theorem prt_at {R : List Rn} {f t k : Int} (h : ps R) (hf : 0 ≤ f) (hk : 0 ≤ k) (hkt : k < t - f) : atv (prt R f t) k = atv R (f + k) := by
  unfold prt
  rw [atv_jn k sl_ps hk, sl_at h hk (by omega)]
  congr 1
  omega
theorem sl_all {l : List Rn} {b t : Int} (h : ps l) (hb : 0 ≤ b) (ht : b + lg l ≤ t) : sl b l 0 t = l := by
  induction l generalizing b with
  | nil => rfl
  | cons r l ih =>
    rw [ps_cons] at h
    have h0 := ps_nonneg h.2
    have e : lg (r :: l) = r.2 + lg l := rfl
    rw [e] at ht
    rw [sl_cons, ih h.2 (by omega) (by omega), s1_yes (by omega)]
    show (r.1, min (b + r.2) t - max b 0) :: l = r :: l
    rw [show min (b + r.2) t - max b 0 = r.2 by omega]
theorem prt_all {m : Int} {R : List Rn} (h : vr m 0 R = true) : prt R 0 1099511627776 = jn R := by
  obtain ⟨h1, h2, h3⟩ := (vr_iff m R 0 (by omega)).1 h
  unfold prt; rw [sl_all h2 (by omega) h3]

end Si
end Go.Proofs.YtillcmddbjhepaaGreatDoor

namespace Go.Proofs.YtillcmddbjhepaaGreatDoor
namespace Si
open Go
set_option linter.unusedVariables false
set_option linter.unusedSimpArgs false

/-- The bit k of a level. -/
def bt (x : Int) (k : Nat) : Int := x / 2 ^ k % 2
theorem bt_01 (x : Int) (k : Nat) : bt x k = 0 ∨ bt x k = 1 := by unfold bt; omega
theorem bt_range (x : Int) (k : Nat) : 0 ≤ bt x k ∧ bt x k ≤ 1 := by have := bt_01 x k; omega
theorem and_one (x : Nat) (hx : x < 9223372036854775808) : bits .and .i64 (x : Int) 1 = ((x % 2 : Nat) : Int) := by
  show IntKind.i64.wrap ((BitVec.ofInt 64 x &&& BitVec.ofInt 64 1).toNat : Int) = _
  have e1 : (BitVec.ofInt 64 (x : Int)).toNat = x := by rw [BitVec.toNat_ofInt]; omega
  have e2 : (BitVec.ofInt 64 (1 : Int)).toNat = 1 := by decide
  rw [BitVec.toNat_and, e1, e2, Nat.and_one_is_mod, IntKind.wrap_i64]
  omega
theorem bt_nat (x k : Nat) : bt (x : Int) k = ((x / 2 ^ k % 2 : Nat) : Int) := by
  unfold bt; simp
/-- 'x >> k & 1' as the model has it. -/
theorem shr_and (x : Int) (k : Nat) (h0 : 0 ≤ x) (h1 : x ≤ 9223372036854775807) : bits .and .i64 (x.fdiv (2 ^ k)) 1 = bt x k := by
  obtain ⟨n, rfl⟩ : ∃ n : Nat, x = n := ⟨x.toNat, by omega⟩
  have e : (n : Int).fdiv (2 ^ k) = ((n / 2 ^ k : Nat) : Int) := by
    rw [Int.fdiv_eq_ediv_of_nonneg _ (Int.pow_nonneg (by omega))]; simp
  have h2 : n / 2 ^ k ≤ n := Nat.div_le_self _ _
  rw [e, and_one _ (by omega), bt_nat]
theorem shr_and2 (x : Int) (k : Nat) (h0 : 0 ≤ x) (h1 : x ≤ 9223372036854775807) : bits .and .i64 (x / 2 ^ k) 1 = bt x k := by
  rw [← shr_and x k h0 h1, Int.fdiv_eq_ediv_of_nonneg _ (Int.pow_nonneg (by omega))]

/-! A channel of runs. -/
def bts (R : List Rn) (k : Nat) : List Rn := R.map fun r => (bt r.1 k, r.2)
theorem bts_lg (R : List Rn) (k : Nat) : lg (bts R k) = lg R := by
  induction R with
  | nil => rfl
  | cons r R ih => unfold bts at ih ⊢; simp only [List.map_cons, lg, ih]
theorem bts_ps {R : List Rn} (h : ps R) (k : Nat) : ps (bts R k) := by
  intro y hy
  obtain ⟨r, hr, rfl⟩ := List.mem_map.1 hy
  exact h r hr
theorem bts_lv (R : List Rn) (k : Nat) : lv 1 (bts R k) := by
  intro y hy
  obtain ⟨r, hr, rfl⟩ := List.mem_map.1 hy
  exact bt_range r.1 k
theorem bts_len (R : List Rn) (k : Nat) : (bts R k).length = R.length := by simp [bts]
theorem bts_take (R : List Rn) (k j : Nat) (hj : j < R.length) : bts (R.take (j + 1)) k = bts (R.take j) k ++ [(bt R[j].1 k, R[j].2)] := by
  unfold bts
  rw [List.take_succ_eq_append_getElem hj, List.map_append]; rfl
theorem bts_at (R : List Rn) (k : Nat) (t : Int) : atv (bts R k) t = if (atv R t).2 = true then (bt (atv R t).1 k, true) else (-1, false) := by
  induction R generalizing t with
  | nil => rfl
  | cons r R ih =>
    have e : bts (r :: R) k = (bt r.1 k, r.2) :: bts R k := rfl
    rw [e, atv_cons]
    have e2 := atv_cons r R t
    by_cases h : t < r.2
    · rw [if_pos h] at e2; rw [e2, if_pos h]; rfl
    · rw [if_neg h] at e2; rw [e2, if_neg h, ih]
def chn (R : List Rn) (k : Nat) : List Rn := jn (bts R k)
theorem chn_take (R : List Rn) (k j : Nat) (hj : j < R.length) : chn (R.take (j + 1)) k = pt (chn (R.take j) k) (bt R[j].1 k, R[j].2) := by
  unfold chn; rw [bts_take R k j hj, jn_snoc]
theorem chn_len (R : List Rn) (k : Nat) : (chn R k).length ≤ R.length := by
  have := jn_len (bts R k)
  rw [bts_len] at this
  exact this
theorem chn_lg (R : List Rn) (k : Nat) : lg (chn R k) = lg R := by unfold chn; rw [jn_lg, bts_lg]
theorem chn_ps {R : List Rn} (h : ps R) (k : Nat) : ps (chn R k) := jn_ps (bts_ps h k)
theorem chn_vr {m : Int} {R : List Rn} (h : vr m 0 R = true) (k : Nat) : vr 1 0 (chn R k) = true := by
  obtain ⟨h1, h2, h3⟩ := (vr_iff m R 0 (by omega)).1 h
  exact (vr_iff 1 _ 0 (by omega)).2 ⟨jn_lv (bts_lv R k), chn_ps h2 k, by rw [chn_lg]; exact h3⟩
theorem chn_at {R : List Rn} (h : ps R) (k : Nat) {t : Int} (h0 : 0 ≤ t) (h1 : t < lg R) : atv (chn R k) t = (bt (atv R t).1 k, true) := by
  unfold chn
  rw [atv_jn t (bts_ps h k) h0, bts_at, if_pos (atv_in h0 h h1).1]

end Si
end Go.Proofs.YtillcmddbjhepaaGreatDoor

namespace Go.Proofs.YtillcmddbjhepaaGreatDoor
namespace Si
open Go.RowKit
set_option linter.unusedVariables false
set_option linter.unusedSimpArgs false

theorem rune_cont (s : ByteArray) (pos : Nat) : (Utf8.decode s pos).2 ≤ 4 ∧ ∀ k, 1 ≤ k → k < (Utf8.decode s pos).2 → pos + k < s.size ∧ 128 ≤ (s.get! (pos + k)).toNat := by
  have key : ∀ k, (decide (pos + k < s.size) && (s.get! (pos + k)).toNat / 64 == 2) = true → pos + k < s.size ∧ 128 ≤ (s.get! (pos + k)).toNat := by
    intro k h
    rw [Bool.and_eq_true, decide_eq_true_eq, beq_iff_eq] at h
    omega
  simp only [Utf8.decode]
  split
  · exact ⟨by omega, fun k h1 h2 => by omega⟩
  split
  · rename_i h
    rw [Bool.and_eq_true] at h
    have k1 := key 1 h.2
    split
    · refine ⟨by omega, fun k h1 h2 => ?_⟩
      obtain rfl : k = 1 := by simp only at h2; omega
      exact k1
    · exact ⟨by simp, fun k h1 h2 => by simp only at h2; omega⟩
  split
  · rename_i h
    rw [Bool.and_eq_true, Bool.and_eq_true] at h
    have k1 := key 1 h.1.2
    have k2 := key 2 h.2
    split
    · refine ⟨by omega, fun k h1 h2 => ?_⟩
      have : k = 1 ∨ k = 2 := by simp only at h2; omega
      rcases this with rfl | rfl
      · exact k1
      · exact k2
    · exact ⟨by simp, fun k h1 h2 => by simp only at h2; omega⟩
  split
  · rename_i h
    rw [Bool.and_eq_true, Bool.and_eq_true, Bool.and_eq_true] at h
    have k1 := key 1 h.1.1.2
    have k2 := key 2 h.1.2
    have k3 := key 3 h.2
    split
    · refine ⟨by omega, fun k h1 h2 => ?_⟩
      have : k = 1 ∨ k = 2 ∨ k = 3 := by simp only at h2; omega
      rcases this with rfl | rfl | rfl
      · exact k1
      · exact k2
      · exact k3
    · exact ⟨by simp, fun k h1 h2 => by simp only at h2; omega⟩
  · exact ⟨by simp, fun k h1 h2 => by simp only at h2; omega⟩

theorem get_lit (s : ByteArray) (k : Nat) (h : k < s.size) : s.get! k = s[k] := by simpa using get_at s k h
/-- A rune that begins with a byte of 128 or more: all its bytes are such. -/
theorem rune_high (s : ByteArray) (pos : Nat) (h : pos < s.size) (ha : 128 ≤ s[pos].toNat) :
    128 ≤ (Utf8.decode s pos).1 ∧ 1 ≤ (Utf8.decode s pos).2 ∧ pos + (Utf8.decode s pos).2 ≤ s.size ∧ ∀ x ∈ (s.data.toList.drop pos).take (Utf8.decode s pos).2, 128 ≤ x.toNat := by
  obtain ⟨d1, d2⟩ := decode_high s pos h ha
  obtain ⟨_, hc⟩ := rune_cont s pos
  generalize (Utf8.decode s pos).2 = n at *
  refine ⟨d1, d2, ?_, ?_⟩
  · by_cases h1 : n = 1
    · omega
    · have := (hc (n - 1) (by omega) (by omega)).1; omega
  · intro x hx
    obtain ⟨j, hj, rfl⟩ := List.mem_iff_getElem.1 hx
    have hj2 : j < n := by rw [List.length_take] at hj; omega
    rw [List.getElem_take, List.getElem_drop]
    by_cases h0 : j = 0
    · subst h0; exact ha
    · obtain ⟨h2, h3⟩ := hc j (by omega) hj2
      rw [get_lit s _ h2] at h3
      exact h3
theorem drop_at (s : ByteArray) (k : Nat) (h : k < s.size) : s.data.toList.drop k = s[k] :: s.data.toList.drop (k + 1) := List.drop_eq_getElem_cons (by simpa using h)
theorem drop_end (s : ByteArray) (k : Nat) (h : ¬ k < s.size) : s.data.toList.drop k = [] := List.drop_eq_nil_of_le (by simp; omega)

end Si
end Go.Proofs.YtillcmddbjhepaaGreatDoor

namespace Go.Proofs.YtillcmddbjhepaaGreatDoor
open Go

/-- The cells one after the other, where each part lies behind the one before. -/
def chain {H : Type} (size : TypeId → Nat) (step : TypeId → DataW H → Option (List Value)) : Nat → List (Nat × TypeId) → List (DataW H) → Option (List Value)
  | _, [], [] => some []
  | off, (o, t) :: r, d :: ds =>
    match step t d with
    | some l => if o = off ∧ l.length = size t then (chain size step (off + size t) r ds).map (l ++ ·) else none
    | none => none
  | _, _, _ => none
/-- The cells of a plain datum. -/
def flat {H : Type} (P : Program) : Nat → TypeId → DataW H → Option (List Value)
  | 0, _, _ => none
  | f + 1, t, d =>
    match P.underlying t, d with
    | some .bool, .lit (.bool b) => some [.bool b]
    | some (.int k), .lit (.int k' n) => if k' = k then some [.int k n] else none
    | some .string, .lit (.string l) => some [.string ⟨l.toArray⟩]
    | some (.struct fs), .agg ds => (chain P.cellsOf (flat P f) 0 (fs.toList.map fun x => (x.offset, x.type)) ds).bind fun l => if l.length = P.cellsOf t then some l else none
    | some (.array n e), .agg ds => (chain P.cellsOf (flat P f) 0 ((List.range n).map fun i => (i * P.cellsOf e, e)) ds).bind fun l => if l.length = P.cellsOf t then some l else none
    | _, _ => none

theorem chain_cells {H : Type} {size : TypeId → Nat} {step : TypeId → DataW H → Option (List Value)} {cs : List Value} :
    ∀ (r : List (Nat × TypeId)) (ds : List (DataW H)) (off : Nat) (l : List Value), chain size step off r ds = some l →
      (∀ (i : Nat) (o : Nat) (t : TypeId) (d : DataW H) (m : List Value), r[i]? = some (o, t) → ds[i]? = some d → step t d = some m → (cs.drop o).take (size t) = m) →
      (cs.drop off).take l.length = l
  | [], [], off, l, h, _ => by
    simp only [chain, Option.some.injEq] at h
    subst h; simp
  | (o, t) :: r, d :: ds, off, l, h, ha => by
    simp only [chain] at h
    split at h
    · rename_i m hm
      split at h
      · rename_i hc
        obtain ⟨rfl, hlen⟩ := hc
        obtain ⟨l', hl', rfl⟩ := Option.map_eq_some_iff.1 h
        have h0 := ha 0 o t d m rfl rfl hm
        have ih := chain_cells r ds (o + size t) l' hl' fun i o' t' d' m' h1 h2 h3 => ha (i + 1) o' t' d' m' (by simpa using h1) (by simpa using h2) h3
        rw [List.length_append, hlen, List.take_add, h0, List.drop_drop, ih]
      · cases h
    · cases h
  | [], _ :: _, _, _, h, _ => by simp [chain] at h
  | _ :: _, [], _, _, h, _ => by simp [chain] at h

theorem cells_of_flat {H : Type} {enc : TypeId × Value → H} {P : Program} {w : World} {base : Nat} {sp : Nat → Bool} {held : Bool} :
    ∀ (f fuel : Nat) (t : TypeId) (d : DataW H) (cs : List Value) (p : List MemPlace) (l : List Value),
      DataW.trod enc P w base sp held fuel t cs = some (d, p) → flat P f t d = some l → cs = l
  | 0, _, _, _, _, _, _, _, h => by simp [flat] at h
  | f + 1, fuel, t, d, cs, p, l, ht, h => by
    unfold flat at h
    split at h
    · rename_i b hu
      obtain ⟨b', rfl, hx⟩ := DataW.trod_bool hu ht
      simp only [Prod.mk.injEq, DataW.lit.injEq, Lit.bool.injEq] at hx
      rw [← hx.1]; exact Option.some.inj h
    · rename_i k k' n hu
      split at h
      · rename_i hk
        subst hk
        obtain ⟨n', rfl, hx, _⟩ := DataW.trod_int hu ht
        simp only [Prod.mk.injEq, DataW.lit.injEq, Lit.int.injEq] at hx
        rw [← hx.1.2]; exact Option.some.inj h
      · cases h
    · rename_i l' hu
      obtain ⟨s, rfl, hx, _⟩ := DataW.trod_string hu ht
      simp only [Prod.mk.injEq, DataW.lit.injEq, Lit.string.injEq] at hx
      rw [hx.1, bytes_of] at h
      exact Option.some.inj h
    · rename_i fs ds hu
      obtain ⟨l', hl', h⟩ := Option.bind_eq_some_iff.1 h
      split at h
      · rename_i hlen
        obtain rfl := Option.some.inj h
        obtain ⟨xs, n, rfl, hx, hcs, _, hf⟩ := DataW.trod_struct hu ht
        simp only [Prod.mk.injEq, DataW.agg.injEq] at hx
        have := chain_cells (cs := cs) _ _ _ _ hl' fun i o u d m h1 h2 h3 => by
          simp only [List.getElem?_map, Option.map_eq_some_iff, Prod.mk.injEq] at h1
          obtain ⟨g, hg, rfl, rfl⟩ := h1
          have h4 := hf i g (by simpa using hg)
          rw [hx.1, List.getElem?_map, Option.map_eq_some_iff] at h2
          obtain ⟨y, hy, rfl⟩ := h2
          rw [hy] at h4
          exact cells_of_flat f n g.type y.1 _ y.2 m h4 h3
        rw [List.drop_zero, hlen, ← hcs, List.take_length] at this
        exact this
      · cases h
    · rename_i n e ds hu
      obtain ⟨l', hl', h⟩ := Option.bind_eq_some_iff.1 h
      split at h
      · rename_i hlen
        obtain rfl := Option.some.inj h
        obtain ⟨xs, n', rfl, hx, hcs, hxl, hf⟩ := DataW.trod_array hu ht
        simp only [Prod.mk.injEq, DataW.agg.injEq] at hx
        have := chain_cells (cs := cs) _ _ _ _ hl' fun i o u d m h1 h2 h3 => by
          simp only [List.getElem?_map, Option.map_eq_some_iff, Prod.mk.injEq] at h1
          obtain ⟨g, hg, rfl, rfl⟩ := h1
          have hi : i < n := by
            have := (List.getElem?_eq_some_iff.1 hg).1
            simpa using this
          have hgi : g = i := by
            rw [List.getElem?_range hi] at hg
            exact (Option.some.inj hg).symm
          subst hgi
          have h4 := hf g hi
          rw [hx.1, List.getElem?_map, Option.map_eq_some_iff] at h2
          obtain ⟨y, hy, rfl⟩ := h2
          rw [hy] at h4
          exact cells_of_flat f n' e y.1 _ y.2 m h4 h3
        rw [List.drop_zero, hlen, ← hcs, List.take_length] at this
        exact this
      · cases h
    · cases h

/-- The variable NAME holds just these cells. -/
def TabHas (P : Program) (w : World) (name : String) (l : List Value) : Prop := w.var? P name = some l.toArray
/-- From the row's condition: the table stands first on the list. -/
theorem tabHas_of_head {P : Program} {W : World} {name : String} {d : DataW Unit} {rest : List (String × DataW Unit)} {g : Nat} {t : TypeId} {f : Nat} {l : List Value}
    (hg : P.globalNamed name = some g) (hty : (P.globals[g]?).map (·.type) = some t) (hl : flat P f t d = some l)
    (h : laidMet P ((name, d) :: rest) W) : TabHas P W name l := by
  obtain ⟨ps, ⟨g', t', cs, fuel, p, q, hg', ht', hvar, hd, _, _⟩, _⟩ := h
  obtain rfl := Option.some.inj (hg.symm.trans hg')
  obtain rfl := Option.some.inj (hty.symm.trans ht')
  unfold TabHas
  rw [hvar, ← cells_of_flat f fuel t d _ p l hd hl]
theorem TabHas.cell {P : Program} {W : World} {name : String} {l : List Value} {g : Nat} (h : TabHas P W name l) (hg : P.globalNamed name = some g) (i : Nat) : W.cell? ⟨g, i, none⟩ = l[i]? := by
  rw [World.var?_cell hg h i]; simp

/-- The whole table, loaded. -/
theorem wpList_table {P : Program} {ops : Array Oper} {rest : List Oper} {o : Oper} {a : Act} {w : World} {Q : Exit → Act → World → Prop} {name : String} {l : List Value} {g : Nat} {d : TypeDesc} (t : TypeId)
    (hu : P.underlying t = some d) (hd : (match d with | .struct _ | .array _ _ => true | _ => false) = true) (hi : (P.info? t).map (·.size) = some l.length) (hg : P.globalNamed name = some g)
    (A : Array Value) (hA : A = l.toArray) (hgd : o.guard = none) (ho : o.op = .load t (.global g)) (h : TabHas P w name l)
    (hk : wpList P ops Q rest (a.put o.dst (.agg A)) w) : wpList P ops Q (o :: rest) a w := by
  subst hA
  refine wpList_plain hgd fun K hK => ?_
  have hrun : (Instr.loadAt t (.pointer (some ⟨g, 0, none⟩))).run P w = .ok (.agg l.toArray) w := by
    unfold TabHas at h
    simp only [World.var?, hg, Option.bind_some] at h
    split at h
    · rename_i cs ty fr hh
      obtain rfl := Option.some.inj h
      simp only [Instr.loadAt, Instr.sureAddr, Sem.run_bind, Sem.run_pure, Result.andThen_ok]
      exact run_loadVar_row w g ty t _ fr d hh hu hd (by rw [hi]; simp)
    · cases h
  have hx : a.eval (.global g) = .pointer (some ⟨g, 0, none⟩) := rfl
  unfold Oper.wp execOp
  simp only [ho, hx, Sem.run_bind, Sem.run_pure, Result.andThen_ok, hrun]
  exact hK _ _ hk

end Go.Proofs.YtillcmddbjhepaaGreatDoor
