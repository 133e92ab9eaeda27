/-
  Small facts of our own that every seat's proofs use: memory that only grows, endings, bytes, and from a walk to a statement's row.
  Structs and arrays of one-cell parts among a function's arguments, opened part by part.
  A string that came in is no longer than the reach.
  Slices of structs of one-cell fields among a function's arguments, opened element by element, with what their weights say.
  Waves, plain: runs as pairs of a level and ticks; valid, joined, length, level at a tick, edges, parts, inverted, from edges.
  Waves, plain: parts, edges, from edges, two waves joined.
-/
import Derived.Test.YtmbeaagpjpphhaaRows
import Derived.WalkKit
import Derived.WalkSpells
import Derived.WalkLawsBesides
import Derived.Deep.QuietTactic
import Derived.BigQuiet
import Derived.IntWalk
import Derived.Lib.Hide
import Derived.Handy
import Derived.Deep.RegionWith
import Derived.ProofKit
import Derived.LaidMore
import Derived.OpenShut
import Derived.Stop.Joined
import Derived.HandedShaped
import Derived.SevenTiedAt
import Derived.Lib.LaidTab
import Derived.Lib.SmallJoins
import Derived.Carry
import Derived.WalkSmall
import Derived.Lib.Strings
import Derived.SizedLaws
import Derived.ChangeMaps5
import Derived.Deep.Slices
namespace Go.Proofs.Ytmbeaagpjpphhaa
open Go Go.ChangeShapes Go.WideShapes Go.ChangeAt Go.RowKit

/-! Endings. -/
theorem ret_int {k : IntKind} {a b : Int} (h : a = b) : Ending.returned (.int k a) = .returned (.int k b) := by rw [h]
theorem val_int {k : IntKind} {a b : Int} (h : a = b) : Value.int k a = .int k b := by rw [h]
theorem ret_bool {a b : Bool} (h : a = b) : Ending.returned (.bool a) = .returned (.bool b) := by rw [h]

/-! Memory only grows. -/
theorem le_alloc {B : Nat} {w : World} (h : B ≤ w.heap.size) (o : Obj) : B ≤ (w.alloc o).heap.size := by rw [World.size_alloc]; omega
theorem le_setCell {B : Nat} {w : World} (h : B ≤ w.heap.size) (a : Addr) (v : Value) : B ≤ (w.setCell a v).heap.size := by rw [World.size_setCell]; exact h
theorem le_drew {B : Nat} {w : World} (h : B ≤ w.heap.size) : B ≤ w.drew.heap.size := h
theorem le_drewN {B : Nat} {w : World} (h : B ≤ w.heap.size) (n : Nat) : B ≤ (w.drewN n).heap.size := h
theorem ba (w : World) (o : Obj) : Below w.heap.size w (w.alloc o) := (Below.refl _ _).alloc (Nat.le_refl _) _
theorem bcell {W w1 : World} (hb : Below W.heap.size W w1) : (∀ b o, b < W.heap.size → w1.cell? ⟨b, o, none⟩ = W.cell? ⟨b, o, none⟩) ∧ (∀ b o, b < W.heap.size → w1.frozen? ⟨b, o, none⟩ = W.frozen? ⟨b, o, none⟩) :=
  ⟨fun b o h => hb.cell (p := ⟨b, o, none⟩) h, fun b o h => hb.frozen (p := ⟨b, o, none⟩) h⟩
/-- Two cells of an old block, behind what only makes memory; of a new one. -/
theorem old2 {w w' : World} {b : Nat} {x y : Value} (hb : Below w.heap.size w w') (h : w.cell? ⟨b, 0, none⟩ = some x ∧ w.cell? ⟨b, 1, none⟩ = some y ∧ b < w.heap.size) : w'.cell? ⟨b, 0, none⟩ = some x ∧ w'.cell? ⟨b, 1, none⟩ = some y ∧ b < w'.heap.size :=
  ⟨by rw [hb.cell h.2.2]; exact h.1, by rw [hb.cell h.2.2]; exact h.2.1, Nat.lt_of_lt_of_le h.2.2 hb.size⟩
theorem new2 (w : World) (x y : Value) (T : TypeId) : (w.alloc (.cells #[x, y] T)).cell? ⟨w.heap.size, 0, none⟩ = some x ∧ (w.alloc (.cells #[x, y] T)).cell? ⟨w.heap.size, 1, none⟩ = some y ∧ w.heap.size < (w.alloc (.cells #[x, y] T)).heap.size :=
  ⟨by go_simp, by go_simp, by rw [World.size_alloc]; omega⟩
/-- A result of two cells, stored behind calls. -/
theorem two_set {wa : World} {b : Nat} {u0 u1 v0 v1 : Value} (h0 : wa.cell? ⟨b, 0, none⟩ = some u0) (h1 : wa.cell? ⟨b, 1, none⟩ = some u1) :
    ((wa.setCell ⟨b, 0, none⟩ v0).setCell ⟨b, 1, none⟩ v1).cell? ⟨b, 0, none⟩ = some v0 ∧ ((wa.setCell ⟨b, 0, none⟩ v0).setCell ⟨b, 1, none⟩ v1).cell? ⟨b, 1, none⟩ = some v1 := by
  constructor
  · rw [World.cell?_setCell_other _ _ _ _ (by simp)]; exact World.cell?_setCell_same _ _ _ h0
  · exact World.cell?_setCell_same _ _ _ (by rw [World.cell?_setCell_other _ _ _ _ (by simp)]; exact h1)

/-! Bytes. -/
theorem size_len (s : ByteArray) : s.size = s.data.toList.length := Lib.size_eq s
theorem toList_mk (l : List UInt8) : (⟨l.toArray⟩ : ByteArray).data.toList = l := by simp
theorem size_mk (l : List UInt8) : (⟨l.toArray⟩ : ByteArray).size = l.length := by rw [size_len, toList_mk]
theorem bytes_of (s : ByteArray) : (⟨s.data.toList.toArray⟩ : ByteArray) = s := by cases s; simp
theorem getElem_toList (s : ByteArray) (k : Nat) (h : k < s.size) : s.data.toList[k]'(by simpa using h) = s[k] := rfl
theorem empty_toList {s : ByteArray} (h : s.size = 0) : s.data.toList = [] := by
  rw [← List.length_eq_zero_iff]; simpa using h
theorem take_snoc (s : ByteArray) (k : Nat) (h : k < s.size) : s.data.toList.take (k + 1) = s.data.toList.take k ++ [s[k]] := by
  rw [List.take_succ_eq_append_getElem (by simpa using h)]; rfl

/-! From a walk to a statement's row. -/
theorem own : ownKnob Try.prog.godebug = none := by kernel_rfl
theorem laidOut : laidOutB Try.prog = true := by kernel_rfl
/-- The wrap that keeps both a condition on memory and the world's shape. -/
theorem handed_listed {H : Type} {enc : TypeId × Value → H} {C : Checked} {os : Os} {f : FuncId} {fn : Func} {s : ChangeSpec} {X : World → Prop}
    (hX : ∀ w w' : World, w.heap = w'.heap → X w → X w')
    (ho : ownKnob C.prog.godebug = none) (started : os.Started) (noInit : C.prog.inits.idxOf? f = none) (hfn : C.prog.funcs[f]? = some fn)
    (witness : ∃ (w : World) (tape : Tape) (i : Input), w.os = os ∧ (w.forCall tape i).Shaped C.prog ∧ i.vars = [] ∧ Input.okWide C.prog (w.forCall tape i) .any w.heap.size f i ∧
      ((s.pre enc C.prog fn [] false (w.forCall tape i).memory i.args ∧ X (w.forCall tape i).memory) ∧ sizedMet enc C.prog fn (OpenSpec.ofChange s) false (w.forCall tape i).memory i.args) ∧ Assume.holds {} C.prog (lone (Frame.enter C.prog f i.args .normal) [] (w.forCall tape i)))
    (contract : ∀ (W : World) (base : Nat) (args : Array Value) (ds gs : List (DataW H)) (before : List MemPlace),
      (∀ (j : Nat) t v, fn.params[j]? = some t → args[j]? = some v → Value.okWide C.prog W .any base t v) →
      DataW.Whole enc C.prog fn.params.toList s.vars false W args.toList ds gs before →
      (DataW.weightsEach C.prog (fn.params.toList ++ s.plain.varTypes C.prog) (ds ++ gs)).all (· ≤ reachBytes) = true → X W → W.ShapedOpen C.prog →
      Calls C.prog f args W fun e W' => ∃ v, e = .returned v ∧ s.post enc C.prog fn false true false false W args v W') :
    ReturnsInHanded {} C os f .any (fun w args => (s.pre enc C.prog fn [] false w args ∧ X w) ∧ sizedMet enc C.prog fn (OpenSpec.ofChange s) false w args) (s.post enc C.prog fn false true false false) :=
  returnsInHanded_of_calls ho started noInit witness fun w tape i _ hsh _ hok hpre _ => by
    obtain ⟨⟨⟨ds, gs, before, hw, _⟩, hx⟩, hz⟩ := hpre
    obtain ⟨_, _, _, fn', hfn', _, _, _, _, hval⟩ := hok
    obtain rfl : fn = fn' := Option.some.inj (hfn.symm.trans hfn')
    refine (contract (w.forCall tape i) w.heap.size i.args ds gs before hval (DataW.Whole.of_heap (w' := w.forCall tape i) (by rfl) hw) (hz.weights hw) (hX (w.forCall tape i).memory (w.forCall tape i) (by rfl) hx) hsh).mono ?_
    rintro e W' ⟨v, rfl, hp⟩
    exact ChangeSpec.post_blind hp
/-- Readings of old memory stand behind what only makes memory. -/
theorem below_trodAll {H : Type} {enc : TypeId × Value → H} {P : Program} {W W' : World} (hl : laidOutB P = true) (hb : Below W.heap.size W W') (ts : List TypeId) :
    ∀ (vs : List Value) (ds : List (DataW H)) (ps : List MemPlace), (ts.all fun t => P.readableRec t && decide (t < P.types.size)) = true →
      DataW.TrodAll enc P W 0 (fun _ => true) true ts vs ds ps → (∀ p ∈ ps, p.block < W.heap.size) → DataW.TrodAll enc P W' 0 (fun b => decide (b < W.heap.size)) true ts vs ds ps := by
  induction ts with
  | nil =>
    intro vs ds ps _ h _
    match vs, ds, h with
    | [], [], h => exact h
  | cons t ts ih =>
    intro vs ds ps hr h hlt
    match vs, ds, h with
    | v :: vs, d :: ds, h =>
      obtain ⟨p, q, h1, h2, rfl⟩ := h
      simp only [List.all_cons, Bool.and_eq_true] at hr
      exact ⟨p, q, Below.trod hl hr.1.1 (of_decide_eq_true hr.1.2) h1 hb (fun x hx => hlt x (List.mem_append_left _ hx)), ih vs ds q hr.2 h2 (fun x hx => hlt x (List.mem_append_right _ hx)), rfl⟩
/-- A statement's row, once its call returns true and only makes memory. -/
theorem law_post {H : Type} {enc : TypeId × Value → H} {f : Func} {s : ChangeSpec} {W W' : World} {args : Array Value} {ds gs : List (DataW H)} {before : List MemPlace}
    (hW : DataW.Whole enc Try.prog f.params.toList s.vars false W args.toList ds gs before) (hv : s.vars = []) (hr : f.resultTypes = #[4])
    (ht : (f.params.toList.all fun t => Try.prog.readableRec t && decide (t < Try.prog.types.size)) = true)
    (hfn : s.fn H (ds ++ gs) = { results := [.lit (.bool true)], args := ds }) (hb : Below W.heap.size W W') :
    s.post enc Try.prog f false true false false W args (.bool true) W' := by
  have hlt := hW.lt
  have hW' := hW
  obtain ⟨p, q, hA, hV, rfl, _, _⟩ := hW
  rw [hv] at hV
  obtain ⟨rfl, rfl⟩ := trodVars_none hV
  have hA' := below_trodAll laidOut hb _ _ _ _ ht hA (fun x hx => hlt x (List.mem_append_left _ hx))
  refine ⟨ds, [], _, [], p, [], hW', ?_, ?_, ?_, hb.frame _, fun h => by cases h⟩
  · rw [hfn, hr]; exact trodAll_mk1 (shut_bool Try.underlying4 true)
  · rw [hfn]; exact hA'
  · rw [hfn, hv]; rfl

end Go.Proofs.Ytmbeaagpjpphhaa

namespace Go.Proofs.Ytmbeaagpjpphhaa
open Go Go.ChangeShapes Go.WideShapes Go.ChangeAt Go.RowKit

section
variable {H : Type} {enc : TypeId × Value → H} {P : Program} {w : World} {b0 base : Nat} {spare : Nat → Bool} {held : Bool} {r : Reach} {t : TypeId} {v : Value} {d : DataW H} {p : List MemPlace}

theorem okWide_arr {n : Nat} {e : TypeId} (ht : P.underlying t = some (.array n e)) (h : Value.okWide P w r b0 t v) : ∃ cs, v = .agg cs ∧ cs.size = P.cellsOf t := by
  simp only [Value.okWide, ht] at h
  obtain ⟨cs, h1, h2, _⟩ := h
  exact ⟨cs, h1, h2⟩
/-- A struct of one-cell fields. -/
theorem open_struct {fs : Array Field} (hs : P.underlying t = some (.struct fs)) (hv : Value.okWide P w r b0 t v) (h : DataW.Trod enc P w base spare held t v d p) :
    ∃ (cs : Array Value) (n : Nat), v = .agg cs ∧ cs.size = P.cellsOf t ∧ ∀ (i : Nat) (f : Field), fs[i]? = some f → P.cellsOf f.type = 1 → f.offset < cs.size → ∃ y, DataW.trod enc P w base spare held n f.type [cs.getD f.offset default] = some y := by
  obtain ⟨cs, rfl, hsz⟩ := okWide_struct hs hv
  obtain ⟨fuel, hf⟩ := h
  obtain ⟨xs, n, rfl, _, _, hl, hx⟩ := DataW.trod_struct hs hf
  refine ⟨cs, n, rfl, hsz, fun i f hi h1 ho => ?_⟩
  have hlt : i < fs.size := (Array.getElem?_eq_some_iff.1 hi).1
  have h2 := hx i f hi
  have h3 : i < xs.length := by omega
  rw [h1, List.getElem?_eq_getElem h3] at h2
  refine ⟨xs[i], ?_⟩
  rw [← h2]
  congr 1
  have e : (Value.agg cs).cells.toList = cs.toList := rfl
  rw [e]
  apply List.ext_getElem?
  intro j
  rw [List.getElem?_take, List.getElem?_drop]
  cases j with
  | zero => simp [ho]
  | succ j => simp
/-- An array of one-cell elements. -/
theorem open_arr {k : Nat} {e : TypeId} (hs : P.underlying t = some (.array k e)) (h1 : P.cellsOf e = 1) (hv : Value.okWide P w r b0 t v) (h : DataW.Trod enc P w base spare held t v d p) :
    ∃ (cs : Array Value) (n : Nat), v = .agg cs ∧ cs.size = P.cellsOf t ∧ ∀ i, i < k → i < cs.size → ∃ y, DataW.trod enc P w base spare held n e [cs.getD i default] = some y := by
  obtain ⟨cs, rfl, hsz⟩ := okWide_arr hs hv
  obtain ⟨fuel, hf⟩ := h
  obtain ⟨xs, n, rfl, _, _, hl, hx⟩ := DataW.trod_array hs hf
  refine ⟨cs, n, rfl, hsz, fun i hi ho => ?_⟩
  have h2 := hx i hi
  have h3 : i < xs.length := by omega
  rw [h1, Nat.mul_one, List.getElem?_eq_getElem h3] at h2
  refine ⟨xs[i], ?_⟩
  rw [← h2]
  congr 1
  have e : (Value.agg cs).cells.toList = cs.toList := rfl
  rw [e]
  apply List.ext_getElem?
  intro j
  rw [List.getElem?_take, List.getElem?_drop]
  cases j with
  | zero => simp [ho]
  | succ j => simp
end

theorem arr2 {cs : Array Value} (h : cs.size = 2) : cs = #[cs.getD 0 default, cs.getD 1 default] := by
  obtain ⟨l⟩ := cs
  match l, h with
  | [a, b], _ => rfl
theorem arr3 {cs : Array Value} (h : cs.size = 3) : cs = #[cs.getD 0 default, cs.getD 1 default, cs.getD 2 default] := by
  obtain ⟨l⟩ := cs
  match l, h with
  | [a, b, c], _ => rfl
theorem arr4 {cs : Array Value} (h : cs.size = 4) : cs = #[cs.getD 0 default, cs.getD 1 default, cs.getD 2 default, cs.getD 3 default] := by
  obtain ⟨l⟩ := cs
  match l, h with
  | [a, b, c, d], _ => rfl
theorem arr5 {cs : Array Value} (h : cs.size = 5) : cs = #[cs.getD 0 default, cs.getD 1 default, cs.getD 2 default, cs.getD 3 default, cs.getD 4 default] := by
  obtain ⟨l⟩ := cs
  match l, h with
  | [a, b, c, d, e], _ => rfl

end Go.Proofs.Ytmbeaagpjpphhaa

namespace Go.Proofs.Ytmbeaagpjpphhaa
open Go Go.ChangeShapes Go.WideShapes Go.ChangeAt Go.RowKit
set_option linter.unusedVariables false

theorem string_reach {H : Type} {s : ByteArray} {ts : List TypeId} {ds : List (DataW H)} {j : Nat} {t : TypeId} (hw : (DataW.weightsEach Try.prog ts ds).all (· ≤ reachBytes) = true) (ht : ts[j]? = some t) (hd : ds[j]? = some (.lit (.string s.data.toList))) : s.size ≤ 140737488351232 := by
  have := sized_string hw ht hd
  have e : reachBytes = 140737488351232 := rfl
  rw [size_len]
  omega
end Go.Proofs.Ytmbeaagpjpphhaa

namespace Go.Proofs.Ytmbeaagpjpphhaa
open Go Go.ChangeShapes Go.WideShapes Go.ChangeAt Go.RowKit
set_option linter.unusedVariables false

section
variable {H : Type} {enc : TypeId × Value → H} {P : Program} {w : World} {b0 : Nat} {r : Reach} {t : TypeId} {v : Value} {d : DataW H} {p : List MemPlace}

theorem weights_all {e : TypeId} {d : DataW H} {n : Nat} (hn : n ∈ d.weights P e) : ∀ {l : List (DataW H)}, d ∈ l → n ∈ DataW.weightsAll P e l
  | x :: l, h => by
    simp only [DataW.weightsAll, List.mem_append]
    rcases List.mem_cons.1 h with rfl | h
    · exact .inl hn
    · exact .inr (weights_all hn h)
theorem weights_elem {t e : TypeId} {es sp : List (DataW H)} {d : DataW H} {n : Nat} (ht : P.underlying t = some (.slice e)) (hd : d ∈ es) (hn : n ∈ d.weights P e) : n ∈ (DataW.slice es sp).weights P t := by
  simp only [DataW.weights, ht, List.mem_cons, List.mem_append]
  exact .inr (.inl (weights_all hn hd))
theorem weights_part {e : TypeId} {fs : Array Field} {ys : List (DataW H)} {d : DataW H} {f : Field} {i n : Nat} (ht : P.underlying e = some (.struct fs)) (hf : fs[i]? = some f) (hd : ys[i]? = some d) (hn : n ∈ d.weights P f.type) : n ∈ (DataW.agg ys).weights P e := by
  simp only [DataW.weights, ht]
  exact DataW.weights_mem_each (j := i) (t := f.type) (by simp [Array.getElem?_toList, hf]) hd n hn

/-- A slice of structs. -/
theorem open_rows {t e : TypeId} {fs : Array Field} {m : Nat} (ht : P.underlying t = some (.slice e)) (he : P.underlying e = some (.struct fs)) (hc : P.cellsOf e = m) (hpos : 0 < m)
    (hv : Value.okWide P w r b0 t v) (h : DataW.Trod enc P w 0 (fun _ => true) true t v d p) :
    ∃ (A : Option Addr) (len cap : Nat), v = .slice A len cap ∧ len ≤ cap ∧ (A = none → cap = 0) ∧
      (0 < len → ∃ (g o : Nat) (es sp : List (DataW H)), A = some ⟨g, o, none⟩ ∧ g < w.heap.size ∧ d = .slice es sp ∧ es.length = len ∧
        ∀ j, j < len → ∃ (cs : List Value) (ys : List (DataW H)) (n : Nat), cs.length = m ∧ (∀ i, i < m → w.cell? ⟨g, o + j * m + i, none⟩ = cs[i]?) ∧ es[j]? = some (.agg ys) ∧
          ∀ (i : Nat) (f : Field), fs[i]? = some f → P.cellsOf f.type = 1 → f.offset < m → ∃ c y q, cs[f.offset]? = some c ∧ ys[i]? = some y ∧ DataW.trod enc P w 0 (fun _ => true) true n f.type [c] = some (y, q)) := by
  obtain ⟨A, n0, c0, rfl⟩ := okWide_slice ht hv
  obtain ⟨fuel, hf⟩ := h
  rcases Go.Deep.open_slice ht hf with ⟨h1, h2⟩ | ⟨a, len, cap, m', n, D, Pl, h1, hb, hl, hm, hmm, h2, hx⟩
  · simp only [Value.cells, List.cons.injEq, Value.slice.injEq, and_true] at h1
    obtain ⟨rfl, rfl, rfl⟩ := h1
    exact ⟨none, 0, 0, rfl, Nat.le_refl _, fun _ => rfl, fun h => absurd h (by omega)⟩
  · simp only [Value.cells, List.cons.injEq, Value.slice.injEq, and_true] at h1
    obtain ⟨rfl, rfl, rfl⟩ := h1
    simp only [Prod.mk.injEq] at h2
    refine ⟨some a, n0, c0, rfl, hl, fun h => (by cases h), fun h0 => ?_⟩
    rw [hc] at hx
    simp only [if_true] at hmm
    have key : ∀ j, j < n0 → ∃ cs', w.cells? 0 (a.add (j * m)) m = some cs' ∧ DataW.trod enc P w 0 (fun _ => true) true n e cs' = some (D j, Pl j) := fun j hj => hx j (by omega)
    have hspot : a.spot = none := by
      obtain ⟨cs', k1, _⟩ := key 0 h0
      obtain ⟨_, hlen, hcell⟩ := World.cells?_some k1
      have h1 := hcell 0 hpos
      rw [List.getElem?_eq_getElem (by omega)] at h1
      simpa [Addr.add] using World.cell?_spot h1
    obtain ⟨g, o, s⟩ := a
    simp only at hspot
    subst hspot
    have cellAt : ∀ j, j < n0 → ∀ cs' : List Value, w.cells? 0 ((⟨g, o, none⟩ : Addr).add (j * m)) m = some cs' → cs'.length = m ∧ ∀ i, i < m → w.cell? ⟨g, o + j * m + i, none⟩ = cs'[i]? := by
      intro j hj cs' k1
      obtain ⟨_, hlen, hcell⟩ := World.cells?_some k1
      refine ⟨hlen, fun i hi => ?_⟩
      have h1 := hcell i hi
      rwa [Go.Deep.add_add, Addr.add_lit, ← Nat.add_assoc] at h1
    obtain ⟨cs0, k0, _⟩ := key 0 h0
    obtain ⟨l0, q0⟩ := cellAt 0 h0 cs0 k0
    have q00 := q0 0 hpos
    rw [List.getElem?_eq_getElem (by omega)] at q00
    refine ⟨g, o, _, _, rfl, World.block_lt_of_cell? w _ q00, h2.1, by simp, fun j hj => ?_⟩
    obtain ⟨cs', k1, k2⟩ := key j hj
    obtain ⟨lj, qj⟩ := cellAt j hj cs' k1
    obtain ⟨xs, n', rfl, hx', _, hl', hfd⟩ := DataW.trod_struct he k2
    simp only [Prod.mk.injEq] at hx'
    refine ⟨cs', xs.map (·.1), n', lj, qj, by rw [List.getElem?_map, List.getElem?_range hj]; simp [hx'.1], fun i f hi h1 ho => ?_⟩
    have hlt : i < fs.size := (Array.getElem?_eq_some_iff.1 hi).1
    have h3 := hfd i f hi
    have h4 : i < xs.length := by omega
    rw [h1, List.getElem?_eq_getElem h4] at h3
    refine ⟨cs'[f.offset]'(by omega), xs[i].1, xs[i].2, List.getElem?_eq_getElem _, by rw [List.getElem?_map, List.getElem?_eq_getElem h4]; rfl, ?_⟩
    rw [← Prod.eta xs[i]] at h3
    rw [← h3]
    congr 1
    apply List.ext_getElem?
    intro k
    rw [List.getElem?_take, List.getElem?_drop]
    cases k with
    | zero => simp [List.getElem?_eq_getElem (show f.offset < cs'.length by omega)]
    | succ k => simp
end

end Go.Proofs.Ytmbeaagpjpphhaa

namespace Go.Proofs.Ytmbeaagpjpphhaa
namespace Sw
set_option linter.unusedVariables false

abbrev Rn := Int × Int
def okR (s : Int) (r : Rn) : Bool := decide (r.1 = 0 ∨ r.1 = 1) && decide (1 ≤ r.2) && decide (r.2 ≤ 1099511627776 - s)
def vr : Int → List Rn → Bool
  | _, [] => true
  | s, r :: l => okR s r && vr (s + r.2) l
def vl (l : List Rn) : Bool := decide (l.length ≤ 262144) && vr 0 l
def lg : List Rn → Int
  | [] => 0
  | r :: l => r.2 + lg l
/-- Each run is one: its level is 0 or 1, it has a tick. -/
def gd (l : List Rn) : Prop := ∀ r ∈ l, (r.1 = 0 ∨ r.1 = 1) ∧ 1 ≤ r.2

theorem lg_append (a b : List Rn) : lg (a ++ b) = lg a + lg b := by
  induction a with
  | nil => simp [lg]
  | cons r a ih => simp only [List.cons_append, lg, ih]; omega
theorem lg_one (r : Rn) : lg [r] = r.2 := by simp [lg]
theorem lg_take (l : List Rn) (j : Nat) (hj : j < l.length) : lg (l.take (j + 1)) = lg (l.take j) + l[j].2 := by
  rw [List.take_succ_eq_append_getElem hj, lg_append, lg_one]
theorem gd_nil : gd [] := by intro r h; cases h
theorem gd_cons {r : Rn} {l : List Rn} : gd (r :: l) ↔ ((r.1 = 0 ∨ r.1 = 1) ∧ 1 ≤ r.2) ∧ gd l := by
  unfold gd; simp
theorem gd_append {a b : List Rn} : gd (a ++ b) ↔ gd a ∧ gd b := by
  unfold gd
  constructor
  · exact fun h => ⟨fun r hr => h r (List.mem_append_left _ hr), fun r hr => h r (List.mem_append_right _ hr)⟩
  · rintro ⟨h1, h2⟩ r hr
    rcases List.mem_append.1 hr with h | h
    · exact h1 r h
    · exact h2 r h
theorem gd_take {l : List Rn} (h : gd l) (j : Nat) : gd (l.take j) := fun r hr => h r (List.mem_of_mem_take hr)
theorem gd_drop {l : List Rn} (h : gd l) (j : Nat) : gd (l.drop j) := fun r hr => h r (List.mem_of_mem_drop hr)
theorem gd_len {l : List Rn} (h : gd l) : (l.length : Int) ≤ lg l := by
  induction l with
  | nil => simp [lg]
  | cons r l ih =>
    rw [gd_cons] at h
    have := ih h.2
    simp only [List.length_cons, lg]
    omega
theorem gd_nonneg {l : List Rn} (h : gd l) : 0 ≤ lg l := by have := gd_len h; omega
theorem vr_iff (l : List Rn) (s : Int) (hs : s ≤ 1099511627776) : vr s l = true ↔ gd l ∧ s + lg l ≤ 1099511627776 := by
  induction l generalizing s with
  | nil => simp [vr, lg, gd_nil, hs]
  | cons r l ih =>
    simp only [vr, okR, Bool.and_eq_true, decide_eq_true_eq, gd_cons, lg]
    constructor
    · rintro ⟨⟨⟨h1, h2⟩, h3⟩, h4⟩
      have := (ih (s + r.2) (by omega)).1 h4
      exact ⟨⟨⟨h1, h2⟩, this.1⟩, by omega⟩
    · rintro ⟨⟨⟨h1, h2⟩, h3⟩, h4⟩
      have := gd_nonneg h3
      exact ⟨⟨⟨h1, h2⟩, by omega⟩, (ih (s + r.2) (by omega)).2 ⟨h3, by omega⟩⟩
theorem vl_iff (l : List Rn) : vl l = true ↔ l.length ≤ 262144 ∧ gd l ∧ lg l ≤ 1099511627776 := by
  unfold vl
  rw [Bool.and_eq_true, decide_eq_true_eq, vr_iff l 0 (by omega)]
  simp
theorem vl_nil : vl [] = true := rfl
theorem vr_append (a b : List Rn) (s : Int) : vr s (a ++ b) = (vr s a && vr (s + lg a) b) := by
  induction a generalizing s with
  | nil => simp [vr, lg]
  | cons r a ih => simp only [List.cons_append, vr, lg, ih, Bool.and_assoc, Int.add_assoc]
/-- What the loop of Valid knows: so far good, the sum, the rest. -/
theorem vr_step {l : List Rn} {j : Nat} (hj : j < l.length) (h : vr 0 (l.take j) = true) : vr 0 (l.take (j + 1)) = okR (lg (l.take j)) l[j] := by
  rw [List.take_succ_eq_append_getElem hj, vr_append, h]
  simp [vr]
theorem vr_bad {l : List Rn} {j : Nat} (hj : j < l.length) (h : okR (lg (l.take j)) l[j] = false) : vl l = false := by
  unfold vl
  rw [show l = l.take (j + 1) ++ l.drop (j + 1) from (List.take_append_drop _ _).symm, vr_append, List.take_succ_eq_append_getElem hj, vr_append]
  simp [vr, h]
theorem vr_all {l : List Rn} (hn : l.length ≤ 262144) (h : vr 0 l = true) : vl l = true := by
  unfold vl; rw [h, decide_eq_true hn]; rfl
theorem vr_range {l : List Rn} (h : vr 0 l = true) : 0 ≤ lg l ∧ lg l ≤ 1099511627776 := by
  have := (vr_iff l 0 (by omega)).1 h
  exact ⟨gd_nonneg this.1, by omega⟩
theorem lg_split (l : List Rn) (j : Nat) : lg l = lg (l.take j) + lg (l.drop j) := by
  rw [← lg_append, List.take_append_drop]
/-- Bounds of a prefix of a valid wave. -/
theorem lg_take_range {l : List Rn} (h : vl l = true) (j : Nat) : 0 ≤ lg (l.take j) ∧ lg (l.take j) ≤ 1099511627776 := by
  obtain ⟨_, h2, h3⟩ := (vl_iff l).1 h
  have := gd_nonneg (gd_take h2 j)
  have := gd_nonneg (gd_drop h2 j)
  have := lg_split l j
  omega
theorem el_range {l : List Rn} (h : vl l = true) (j : Nat) (hj : j < l.length) : (l[j].1 = 0 ∨ l[j].1 = 1) ∧ 1 ≤ l[j].2 ∧ l[j].2 ≤ 1099511627776 := by
  obtain ⟨_, h2, h3⟩ := (vl_iff l).1 h
  have h4 := h2 l[j] (List.getElem_mem hj)
  have h5 := (lg_take_range h (j + 1)).2
  have h6 := (lg_take_range h j).1
  rw [lg_take l j hj] at h5
  exact ⟨h4.1, h4.2, by omega⟩

/-! Joining. -/
def pt (o : List Rn) (r : Rn) : List Rn := match o.getLast? with
  | some x => if x.1 = r.1 then o.dropLast ++ [(x.1, x.2 + r.2)] else o ++ [r]
  | none => [r]
def jn (l : List Rn) : List Rn := l.foldl pt []
theorem pt_nil (r : Rn) : pt [] r = [r] := rfl
theorem pt_snoc (o : List Rn) (x r : Rn) : pt (o ++ [x]) r = if x.1 = r.1 then o ++ [(x.1, x.2 + r.2)] else o ++ [x] ++ [r] := by
  unfold pt
  simp
theorem nil_or_snoc (l : List Rn) : l = [] ∨ ∃ o x, l = o ++ [x] := by
  rcases List.eq_nil_or_concat l with h | ⟨o, x, h⟩
  · exact .inl h
  · exact .inr ⟨o, x, by simpa using h⟩
theorem jn_take (l : List Rn) (j : Nat) (hj : j < l.length) : jn (l.take (j + 1)) = pt (jn (l.take j)) l[j] := by
  unfold jn
  rw [List.take_succ_eq_append_getElem hj, List.foldl_append]
  rfl
theorem pt_lg (o : List Rn) (r : Rn) : lg (pt o r) = lg o + r.2 := by
  rcases nil_or_snoc o with rfl | ⟨o, x, rfl⟩
  · simp [pt_nil, lg]
  · rw [pt_snoc]
    split <;> simp [lg_append, lg] <;> omega
theorem pt_gd {o : List Rn} {r : Rn} (ho : gd o) (hr : gd [r]) : gd (pt o r) := by
  rcases nil_or_snoc o with rfl | ⟨o, x, rfl⟩
  · exact hr
  · rw [pt_snoc]
    rw [gd_append] at ho
    split
    · rw [gd_append]
      refine ⟨ho.1, ?_⟩
      have h1 := ho.2 x (by simp)
      have h2 := hr r (by simp)
      intro y hy
      rw [List.mem_singleton] at hy
      subst hy
      exact ⟨h1.1, by show 1 ≤ x.2 + r.2; omega⟩
    · rw [gd_append, gd_append]; exact ⟨ho, hr⟩
theorem pt_len (o : List Rn) (r : Rn) : (pt o r).length ≤ o.length + 1 ∧ o.length ≤ (pt o r).length ∧ 0 < (pt o r).length := by
  rcases nil_or_snoc o with rfl | ⟨o, x, rfl⟩
  · simp [pt_nil]
  · rw [pt_snoc]
    split <;> simp
theorem fold_lg (l o : List Rn) : lg (l.foldl pt o) = lg o + lg l := by
  induction l generalizing o with
  | nil => simp [lg]
  | cons r l ih => simp only [List.foldl_cons, ih, pt_lg, lg]; omega
theorem jn_lg (l : List Rn) : lg (jn l) = lg l := by unfold jn; rw [fold_lg]; simp [lg]
theorem fold_gd (l o : List Rn) (ho : gd o) (hl : gd l) : gd (l.foldl pt o) := by
  induction l generalizing o with
  | nil => exact ho
  | cons r l ih =>
    rw [gd_cons] at hl
    exact ih _ (pt_gd ho (by rw [gd_cons]; exact ⟨hl.1, gd_nil⟩)) hl.2
theorem jn_gd {l : List Rn} (h : gd l) : gd (jn l) := fold_gd l [] gd_nil h
theorem fold_len (l o : List Rn) : (l.foldl pt o).length ≤ o.length + l.length ∧ o.length ≤ (l.foldl pt o).length := by
  induction l generalizing o with
  | nil => simp
  | cons r l ih =>
    have h1 := ih (pt o r)
    have h2 := pt_len o r
    simp only [List.foldl_cons, List.length_cons]
    omega
theorem jn_len (l : List Rn) : (jn l).length ≤ l.length := by have := (fold_len l []).1; unfold jn; simpa using this
theorem jn_pos {l : List Rn} (h : l ≠ []) : 0 < (jn l).length := by
  cases l with
  | nil => exact absurd rfl h
  | cons r l =>
    have h1 := (fold_len l (pt [] r)).2
    have h2 := (pt_len [] r).2.2
    unfold jn
    rw [List.foldl_cons]
    omega
theorem jn_vl {l : List Rn} (h : vl l = true) : vl (jn l) = true := by
  obtain ⟨h1, h2, h3⟩ := (vl_iff l).1 h
  exact (vl_iff _).2 ⟨Nat.le_trans (jn_len l) h1, jn_gd h2, by rw [jn_lg]; exact h3⟩

/-! No two adjacent runs have one level. -/
def al (l : List Rn) : Prop := ∀ (i : Nat) (h : i + 1 < l.length), l[i].1 ≠ l[i + 1].1
theorem al_nil : al [] := fun i h => absurd h (by simp)
theorem al_cons {r s : Rn} {l : List Rn} : al (r :: s :: l) ↔ r.1 ≠ s.1 ∧ al (s :: l) := by
  constructor
  · intro h
    exact ⟨h 0 (by simp), fun i hi => h (i + 1) (by simpa using hi)⟩
  · rintro ⟨h1, h2⟩ i hi
    cases i with
    | zero => exact h1
    | succ i => exact h2 i (by simpa using hi)
theorem al_one (r : Rn) : al [r] := fun i h => absurd h (by simp)
theorem al_tail {r : Rn} {l : List Rn} (h : al (r :: l)) : al l := fun i hi => h (i + 1) (by simpa using hi)
theorem al_snoc {o : List Rn} {x r : Rn} (h : al (o ++ [x])) (hx : x.1 ≠ r.1) : al (o ++ [x] ++ [r]) := by
  induction o with
  | nil => simp only [List.nil_append, List.cons_append]; rw [al_cons]; exact ⟨hx, al_one r⟩
  | cons y o ih =>
    cases o with
    | nil =>
      simp only [List.cons_append, List.nil_append, al_cons] at h ⊢
      exact ⟨h.1, hx, al_one r⟩
    | cons z o =>
      simp only [List.cons_append, al_cons] at h ⊢ ih
      exact ⟨h.1, ih h.2⟩
theorem al_last {o : List Rn} {x y : Rn} (h : al (o ++ [x])) (hx : x.1 = y.1) : al (o ++ [y]) := by
  induction o with
  | nil => exact al_one y
  | cons z o ih =>
    cases o with
    | nil =>
      simp only [List.cons_append, List.nil_append, al_cons] at h ⊢
      exact ⟨by rw [← hx]; exact h.1, al_one y⟩
    | cons u o =>
      simp only [List.cons_append, al_cons] at h ⊢ ih
      exact ⟨h.1, ih h.2⟩
theorem pt_al {o : List Rn} {r : Rn} (h : al o) : al (pt o r) := by
  rcases nil_or_snoc o with rfl | ⟨o, x, rfl⟩
  · exact al_one r
  · rw [pt_snoc]
    split
    · exact al_last h rfl
    · rename_i hx; exact al_snoc h hx
theorem fold_al (l o : List Rn) (h : al o) : al (l.foldl pt o) := by
  induction l generalizing o with
  | nil => exact h
  | cons r l ih => exact ih _ (pt_al h)
theorem jn_al (l : List Rn) : al (jn l) := fold_al l [] al_nil
theorem al_mid {o l : List Rn} {x r : Rn} (h : al (o ++ [x] ++ r :: l)) : x.1 ≠ r.1 := by
  have h1 := h o.length (by simp)
  have e1 : (o ++ [x] ++ r :: l)[o.length]'(by simp) = x := by
    rw [List.getElem_append_left (by simp)]; simp
  have e2 : (o ++ [x] ++ r :: l)[o.length + 1]'(by simp) = r := by
    rw [List.getElem_append_right (by simp)]; simp
  rw [e1, e2] at h1
  exact h1
theorem fold_id (l o : List Rn) (h : al (o ++ l)) : l.foldl pt o = o ++ l := by
  induction l generalizing o with
  | nil => simp
  | cons r l ih =>
    have e : pt o r = o ++ [r] := by
      rcases nil_or_snoc o with rfl | ⟨o, x, rfl⟩
      · rfl
      · rw [pt_snoc, if_neg (al_mid h)]
    rw [List.foldl_cons, e, ih (o ++ [r]) (by simpa using h)]
    simp
theorem jn_id {l : List Rn} (h : al l) : jn l = l := by unfold jn; rw [fold_id l [] (by simpa using h)]; rfl
theorem jn_jn (l : List Rn) : jn (jn l) = jn l := jn_id (jn_al l)

/-! The level at a tick. -/
def atv : List Rn → Int → Int × Bool
  | [], _ => (-1, false)
  | r :: l, k => if k < r.2 then (r.1, true) else atv l (k - r.2)
theorem atv_cons (r : Rn) (l : List Rn) (k : Int) : atv (r :: l) k = if k < r.2 then (r.1, true) else atv l (k - r.2) := rfl
theorem atv_drop {l : List Rn} {j : Nat} (hj : j < l.length) (k : Int) : atv (l.drop j) k = if k < l[j].2 then (l[j].1, true) else atv (l.drop (j + 1)) (k - l[j].2) := by
  rw [List.drop_eq_getElem_cons hj]; rfl
theorem atv_append (a b : List Rn) (k : Int) (ha : gd a) (hk : 0 ≤ k) : atv (a ++ b) k = if k < lg a then atv a k else atv b (k - lg a) := by
  induction a generalizing k with
  | nil => simp only [List.nil_append, lg, Int.sub_zero]; rw [if_neg (by omega)]
  | cons r a ih =>
    rw [gd_cons] at ha
    have := gd_nonneg ha.2
    have e : lg (r :: a) = r.2 + lg a := rfl
    rw [List.cons_append, atv_cons, atv_cons, e]
    by_cases h : k < r.2
    · rw [if_pos h, if_pos h, if_pos (by omega)]
    · rw [if_neg h, if_neg h, ih (k - r.2) ha.2 (by omega)]
      by_cases h2 : k - r.2 < lg a
      · rw [if_pos h2, if_pos (by omega)]
      · rw [if_neg h2, if_neg (by omega)]
        congr 1
        omega
theorem atv_pt (o : List Rn) (r : Rn) (l : List Rn) (k : Int) (ho : gd o) (hr : gd [r]) (hk : 0 ≤ k) : atv (pt o r ++ l) k = atv (o ++ r :: l) k := by
  rcases nil_or_snoc o with rfl | ⟨o, x, rfl⟩
  · rfl
  · rw [pt_snoc]
    rw [gd_append] at ho
    have h1 := ho.2 x (by simp)
    have h2 := hr r (by simp)
    split
    · rename_i e
      rw [List.append_assoc, List.append_assoc, atv_append o _ k ho.1 hk, atv_append o _ k ho.1 hk]
      by_cases h : k < lg o
      · rw [if_pos h, if_pos h]
      · rw [if_neg h, if_neg h]
        generalize k - lg o = q
        simp only [List.cons_append, List.nil_append, atv]
        by_cases g1 : q < x.2
        · rw [if_pos (by omega), if_pos g1]
        · rw [if_neg g1]
          by_cases g2 : q - x.2 < r.2
          · rw [if_pos (by omega), if_pos g2, e]
          · rw [if_neg (by omega), if_neg g2]
            congr 1
            omega
    · rw [List.append_assoc]; rfl
theorem atv_fold (l o : List Rn) (k : Int) (ho : gd o) (hl : gd l) (hk : 0 ≤ k) : atv (l.foldl pt o) k = atv (o ++ l) k := by
  induction l generalizing o with
  | nil => simp
  | cons r l ih =>
    rw [gd_cons] at hl
    have hr : gd [r] := by rw [gd_cons]; exact ⟨hl.1, gd_nil⟩
    rw [List.foldl_cons, ih _ (pt_gd ho hr) hl.2, atv_pt o r l k ho hr hk]
theorem atv_jn {l : List Rn} (k : Int) (hl : gd l) (hk : 0 ≤ k) : atv (jn l) k = atv l k := by
  unfold jn; rw [atv_fold l [] k gd_nil hl hk]; rfl

/-! Inverted. -/
def iv (l : List Rn) : List Rn := l.map fun r => (1 - r.1, r.2)
theorem iv_iv (l : List Rn) : iv (iv l) = l := by
  unfold iv
  rw [List.map_map]
  conv => rhs; rw [← List.map_id l]
  apply List.map_congr_left
  intro r _
  show (1 - (1 - r.1), r.2) = r
  rw [show 1 - (1 - r.1) = r.1 by omega]
theorem iv_lg (l : List Rn) : lg (iv l) = lg l := by
  induction l with
  | nil => rfl
  | cons r l ih => unfold iv at ih ⊢; simp only [List.map_cons, lg, ih]
theorem iv_gd {l : List Rn} (h : gd l) : gd (iv l) := by
  intro y hy
  obtain ⟨r, hr, rfl⟩ := List.mem_map.1 hy
  have := h r hr
  exact ⟨by show 1 - r.1 = 0 ∨ 1 - r.1 = 1; omega, this.2⟩
theorem iv_len (l : List Rn) : (iv l).length = l.length := by simp [iv]
theorem iv_vl {l : List Rn} (h : vl l = true) : vl (iv l) = true := by
  obtain ⟨h1, h2, h3⟩ := (vl_iff l).1 h
  exact (vl_iff _).2 ⟨by rw [iv_len]; exact h1, iv_gd h2, by rw [iv_lg]; exact h3⟩
theorem iv_at (l : List Rn) (k : Int) : atv (iv l) k = if (atv l k).2 = true then (1 - (atv l k).1, true) else (-1, false) := by
  induction l generalizing k with
  | nil => rfl
  | cons r l ih =>
    have e : iv (r :: l) = (1 - r.1, r.2) :: iv l := rfl
    rw [e, atv_cons]
    have e2 := atv_cons r l k
    by_cases h : k < r.2
    · rw [if_pos h] at e2; rw [e2, if_pos h]; rfl
    · rw [if_neg h] at e2; rw [e2, if_neg h, ih]
theorem iv_take (l : List Rn) (j : Nat) (hj : j < l.length) : iv (l.take (j + 1)) = iv (l.take j) ++ [(1 - l[j].1, l[j].2)] := by
  unfold iv
  rw [List.take_succ_eq_append_getElem hj, List.map_append]; rfl
theorem atv_one (l : List Rn) (k : Int) (hl : gd l) : ((atv l k).2 = true ∧ ((atv l k).1 = 0 ∨ (atv l k).1 = 1)) ∨ atv l k = (-1, false) := by
  induction l generalizing k with
  | nil => exact .inr rfl
  | cons r l ih =>
    rw [gd_cons] at hl
    simp only [atv]
    by_cases h : k < r.2
    · rw [if_pos h]; exact .inl ⟨rfl, hl.1.1⟩
    · rw [if_neg h]; exact ih _ hl.2

/-! Of any list: of one that is not a wave, nothing. -/
def cl (l : List Rn) : List Rn := if vl l = true then jn l else []
def lgV (l : List Rn) : Int := if vl l = true then lg l else 0
def atV (l : List Rn) (k : Int) : Int × Bool := if vl l = true ∧ 0 ≤ k then atv l k else (-1, false)
def ivV (l : List Rn) : List Rn := if vl l = true then iv l else []
theorem cl_yes {l : List Rn} (h : vl l = true) : cl l = jn l := by unfold cl; rw [if_pos h]
theorem cl_no {l : List Rn} (h : ¬ vl l = true) : cl l = [] := by unfold cl; rw [if_neg h]
theorem lgV_yes {l : List Rn} (h : vl l = true) : lgV l = lg l := by unfold lgV; rw [if_pos h]
theorem lgV_no {l : List Rn} (h : ¬ vl l = true) : lgV l = 0 := by unfold lgV; rw [if_neg h]
theorem atV_yes {l : List Rn} {k : Int} (h : vl l = true) (hk : 0 ≤ k) : atV l k = atv l k := by unfold atV; rw [if_pos ⟨h, hk⟩]
theorem atV_no {l : List Rn} {k : Int} (h : ¬ (vl l = true ∧ 0 ≤ k)) : atV l k = (-1, false) := by unfold atV; rw [if_neg h]
theorem ivV_yes {l : List Rn} (h : vl l = true) : ivV l = iv l := by unfold ivV; rw [if_pos h]
theorem ivV_no {l : List Rn} (h : ¬ vl l = true) : ivV l = [] := by unfold ivV; rw [if_neg h]
theorem cl_vl (l : List Rn) : vl (cl l) = true := by
  by_cases h : vl l = true
  · rw [cl_yes h]; exact jn_vl h
  · rw [cl_no h]; rfl
theorem cl_len (l : List Rn) : (cl l).length ≤ l.length := by
  by_cases h : vl l = true
  · rw [cl_yes h]; exact jn_len l
  · rw [cl_no h]; simp
theorem cl_al (l : List Rn) : al (cl l) := by
  by_cases h : vl l = true
  · rw [cl_yes h]; exact jn_al l
  · rw [cl_no h]; exact al_nil
theorem cl_cl (l : List Rn) : cl (cl l) = cl l := by rw [cl_yes (cl_vl l), jn_id (cl_al l)]
theorem cl_lg (l : List Rn) : lgV (cl l) = lgV l := by
  rw [lgV_yes (cl_vl l)]
  by_cases h : vl l = true
  · rw [cl_yes h, lgV_yes h, jn_lg]
  · rw [cl_no h, lgV_no h]; rfl
theorem cl_at (l : List Rn) (k : Int) : atV (cl l) k = atV l k := by
  by_cases hk : 0 ≤ k
  · rw [atV_yes (cl_vl l) hk]
    by_cases h : vl l = true
    · rw [cl_yes h, atV_yes h hk, atv_jn k ((vl_iff l).1 h).2.1 hk]
    · rw [cl_no h, atV_no (fun x => h x.1)]; rfl
  · rw [atV_no (fun x => hk x.2), atV_no (fun x => hk x.2)]
theorem ivV_vl (l : List Rn) : vl (ivV l) = true := by
  by_cases h : vl l = true
  · rw [ivV_yes h]; exact iv_vl h
  · rw [ivV_no h]; rfl
theorem ivV_at (l : List Rn) (k : Int) : atV (ivV l) k = if (atV l k).2 = true then (1 - (atV l k).1, true) else (-1, false) := by
  by_cases hk : 0 ≤ k
  · rw [atV_yes (ivV_vl l) hk]
    by_cases h : vl l = true
    · rw [ivV_yes h, atV_yes h hk, iv_at]
    · rw [ivV_no h, atV_no (fun x => h x.1)]; rfl
  · rw [atV_no (fun x => hk x.2), atV_no (fun x => hk x.2)]; rfl
theorem ivV_twice {l : List Rn} (h : vl l = true) : ivV (ivV l) = l := by rw [ivV_yes (ivV_vl l), ivV_yes h, iv_iv]
theorem atV_one (l : List Rn) (k : Int) : ((atV l k).2 = true ∧ ((atV l k).1 = 0 ∨ (atV l k).1 = 1)) ∨ atV l k = (-1, false) := by
  unfold atV
  split
  · rename_i h; exact atv_one l k ((vl_iff l).1 h.1).2.1
  · exact .inr rfl

end Sw
end Go.Proofs.Ytmbeaagpjpphhaa

namespace Go.Proofs.Ytmbeaagpjpphhaa
namespace Sw
set_option linter.unusedVariables false

/-! Parts. -/
def s1 (b : Int) (r : Rn) (f t : Int) : List Rn := if max b f < min (b + r.2) t then [(r.1, min (b + r.2) t - max b f)] else []
def sl : Int → List Rn → Int → Int → List Rn
  | _, [], _, _ => []
  | b, r :: l, f, t => s1 b r f t ++ sl (b + r.2) l f t
theorem sl_cons (b : Int) (r : Rn) (l : List Rn) (f t : Int) : sl b (r :: l) f t = s1 b r f t ++ sl (b + r.2) l f t := rfl
theorem sl_snoc (b : Int) (l : List Rn) (r : Rn) (f t : Int) : sl b (l ++ [r]) f t = sl b l f t ++ s1 (b + lg l) r f t := by
  induction l generalizing b with
  | nil => simp [sl, lg]
  | cons x l ih =>
    have e : lg (x :: l) = x.2 + lg l := rfl
    rw [List.cons_append, sl_cons, sl_cons, ih, e, List.append_assoc, Int.add_assoc]
theorem sl_take (l : List Rn) (j : Nat) (hj : j < l.length) (f t : Int) : sl 0 (l.take (j + 1)) f t = sl 0 (l.take j) f t ++ s1 (lg (l.take j)) l[j] f t := by
  rw [List.take_succ_eq_append_getElem hj, sl_snoc, Int.zero_add]
def slV (l : List Rn) (f t : Int) : List Rn := if vl l = true then sl 0 l f t else []
theorem slV_yes {l : List Rn} {f t : Int} (h : vl l = true) : slV l f t = sl 0 l f t := by unfold slV; rw [if_pos h]
theorem slV_no {l : List Rn} {f t : Int} (h : ¬ vl l = true) : slV l f t = [] := by unfold slV; rw [if_neg h]
theorem s1_len (b : Int) (r : Rn) (f t : Int) : (s1 b r f t).length ≤ 1 := by unfold s1; split <;> simp
theorem sl_len (l : List Rn) (b f t : Int) : (sl b l f t).length ≤ l.length := by
  induction l generalizing b with
  | nil => simp [sl]
  | cons r l ih =>
    rw [sl_cons, List.length_append, List.length_cons]
    have := ih (b + r.2)
    have := s1_len b r f t
    omega
theorem s1_gd {b : Int} {r : Rn} {f t : Int} (h : r.1 = 0 ∨ r.1 = 1) : gd (s1 b r f t) := by
  unfold s1; split
  · rename_i hlt; rw [gd_cons]; exact ⟨⟨h, by show 1 ≤ min (b + r.2) t - max b f; omega⟩, gd_nil⟩
  · exact gd_nil
theorem sl_gd {l : List Rn} {b f t : Int} (h : gd l) : gd (sl b l f t) := by
  induction l generalizing b with
  | nil => exact gd_nil
  | cons r l ih =>
    rw [gd_cons] at h
    rw [sl_cons, gd_append]
    exact ⟨s1_gd h.1.1, ih h.2⟩
theorem s1_lg {b : Int} {r : Rn} {f t : Int} (h : 1 ≤ r.2) : lg (s1 b r f t) ≤ r.2 := by
  unfold s1; split
  · rw [lg_one]; show min (b + r.2) t - max b f ≤ r.2; omega
  · simp only [lg]; omega
theorem sl_lg {l : List Rn} {b f t : Int} (h : gd l) : lg (sl b l f t) ≤ lg l := by
  induction l generalizing b with
  | nil => exact Int.le_refl _
  | cons r l ih =>
    rw [gd_cons] at h
    have := @s1_lg b r f t h.1.2
    have := @ih (b + r.2) h.2
    rw [sl_cons, lg_append]
    show _ ≤ r.2 + lg l
    omega
theorem slV_len (l : List Rn) (f t : Int) : (slV l f t).length ≤ l.length := by
  by_cases h : vl l = true
  · rw [slV_yes h]; exact sl_len l 0 f t
  · rw [slV_no h]; simp
theorem slV_vl (l : List Rn) (f t : Int) : vl (slV l f t) = true := by
  by_cases h : vl l = true
  · rw [slV_yes h]
    obtain ⟨h1, h2, h3⟩ := (vl_iff l).1 h
    exact (vl_iff _).2 ⟨Nat.le_trans (sl_len l 0 f t) h1, sl_gd h2, Int.le_trans (sl_lg h2) h3⟩
  · rw [slV_no h]; rfl
/-- The two parts, side by side. -/
theorem sl_late (l : List Rn) (b at' L : Int) (hl : gd l) (h : at' ≤ b) (hL : b + lg l ≤ L) : sl b l 0 at' = [] ∧ sl b l at' L = l := by
  induction l generalizing b with
  | nil => exact ⟨rfl, rfl⟩
  | cons r l ih =>
    rw [gd_cons] at hl
    have e : lg (r :: l) = r.2 + lg l := rfl
    rw [e] at hL
    have h0 := gd_nonneg hl.2
    obtain ⟨i1, i2⟩ := ih (b + r.2) hl.2 (by omega) (by omega)
    rw [sl_cons, sl_cons, i1, i2]
    unfold s1
    rw [if_neg (by omega), if_pos (by omega)]
    refine ⟨rfl, ?_⟩
    show (r.1, min (b + r.2) L - max b at') :: l = r :: l
    rw [show min (b + r.2) L - max b at' = r.2 by omega]
theorem sl_two (l : List Rn) (o : List Rn) (b at' L : Int) (hl : gd l) (hb : 0 ≤ b) (hL : b + lg l ≤ L) :
    (sl b l 0 at' ++ sl b l at' L).foldl pt o = l.foldl pt o ∧ (sl b l 0 at').length + (sl b l at' L).length ≤ l.length + 1 := by
  induction l generalizing b o with
  | nil => exact ⟨rfl, by simp [sl]⟩
  | cons r l ih =>
    by_cases c1 : at' ≤ b
    · obtain ⟨i1, i2⟩ := sl_late (r :: l) b at' L hl c1 hL
      rw [i1, i2]
      exact ⟨rfl, by simp⟩
    rw [gd_cons] at hl
    have e : lg (r :: l) = r.2 + lg l := rfl
    rw [e] at hL
    have h0 := gd_nonneg hl.2
    by_cases c2 : b + r.2 ≤ at'
    · obtain ⟨i1, i2⟩ := ih (pt o r) (b + r.2) hl.2 (by omega) (by omega)
      rw [sl_cons, sl_cons]
      have e1 : s1 b r 0 at' = [r] := by
        unfold s1; rw [if_pos (by omega), show min (b + r.2) at' - max b 0 = r.2 by omega]
      have e2 : s1 b r at' L = [] := by unfold s1; rw [if_neg (by omega)]
      rw [e1, e2]
      refine ⟨?_, by simp only [List.length_append, List.length_cons, List.length_nil]; omega⟩
      rw [List.nil_append, List.append_assoc, List.foldl_append]
      exact i1
    · obtain ⟨i1, i2⟩ := sl_late l (b + r.2) at' L hl.2 (by omega) (by omega)
      rw [sl_cons, sl_cons, i1, i2]
      have e1 : s1 b r 0 at' = [(r.1, at' - b)] := by
        unfold s1; rw [if_pos (by omega), show min (b + r.2) at' - max b 0 = at' - b by omega]
      have e2 : s1 b r at' L = [(r.1, b + r.2 - at')] := by
        unfold s1; rw [if_pos (by omega), show min (b + r.2) L - max b at' = b + r.2 - at' by omega]
      rw [e1, e2]
      refine ⟨?_, by simp only [List.length_append, List.length_cons, List.length_nil]; omega⟩
      show l.foldl pt (pt (pt o (r.1, at' - b)) (r.1, b + r.2 - at')) = l.foldl pt (pt o r)
      congr 1
      rcases nil_or_snoc o with rfl | ⟨o, x, rfl⟩
      · show pt ([] ++ [(r.1, at' - b)]) (r.1, b + r.2 - at') = _
        rw [pt_snoc, if_pos rfl]
        show [(r.1, at' - b + (b + r.2 - at'))] = [r]
        rw [show at' - b + (b + r.2 - at') = r.2 by omega]
      · rw [pt_snoc, pt_snoc]
        by_cases hx : x.1 = r.1
        · rw [if_pos hx, if_pos hx, pt_snoc, if_pos hx]
          show o ++ [(x.1, x.2 + (at' - b) + (b + r.2 - at'))] = _
          rw [show x.2 + (at' - b) + (b + r.2 - at') = x.2 + r.2 by omega]
        · rw [if_neg hx, if_neg hx, pt_snoc, if_pos rfl]
          show _ ++ [(r.1, at' - b + (b + r.2 - at'))] = _
          rw [show at' - b + (b + r.2 - at') = r.2 by omega]

/-! Two waves, one after the other. -/
def jnR (a b : List Rn) : List Rn × Int :=
  if ¬ (vl a = true ∧ vl b = true) then ([], 1)
  else if 262144 < a.length + b.length then ([], 6)
  else if 1099511627776 < lgV a + lgV b then ([], 2)
  else (jn (a ++ b), 0)
theorem jnR_1 {a b : List Rn} (h : ¬ (vl a = true ∧ vl b = true)) : jnR a b = ([], 1) := by unfold jnR; rw [if_pos h]
theorem jnR_6 {a b : List Rn} (h : vl a = true ∧ vl b = true) (h6 : 262144 < a.length + b.length) : jnR a b = ([], 6) := by unfold jnR; rw [if_neg (fun x => x h), if_pos h6]
theorem jnR_2 {a b : List Rn} (h : vl a = true ∧ vl b = true) (h6 : ¬ 262144 < a.length + b.length) (h2 : 1099511627776 < lgV a + lgV b) : jnR a b = ([], 2) := by unfold jnR; rw [if_neg (fun x => x h), if_neg h6, if_pos h2]
theorem jnR_0 {a b : List Rn} (h : vl a = true ∧ vl b = true) (h6 : ¬ 262144 < a.length + b.length) (h2 : ¬ 1099511627776 < lgV a + lgV b) : jnR a b = (jn (a ++ b), 0) := by unfold jnR; rw [if_neg (fun x => x h), if_neg h6, if_neg h2]
theorem jnR_len (a b : List Rn) : (jnR a b).1.length ≤ 262144 := by
  unfold jnR
  split
  · simp
  · split
    · simp
    · split
      · simp
      · rename_i h _
        have := jn_len (a ++ b)
        rw [List.length_append] at this
        show (jn (a ++ b)).length ≤ 262144
        omega
theorem lgV_range (l : List Rn) : 0 ≤ lgV l ∧ lgV l ≤ 1099511627776 := by
  by_cases h : vl l = true
  · rw [lgV_yes h]
    obtain ⟨_, h2, h3⟩ := (vl_iff l).1 h
    exact ⟨gd_nonneg h2, h3⟩
  · rw [lgV_no h]; omega
/-- P8.3 and P8.4: the two parts make the whole. -/
theorem parts {l : List Rn} (at' : Int) (h : vl l = true) (hn : l.length < 262144) : jnR (slV l 0 at') (slV l at' (lgV l)) = (cl l, 0) := by
  obtain ⟨h1, h2, h3⟩ := (vl_iff l).1 h
  have h0 := gd_nonneg h2
  obtain ⟨k1, k2⟩ := sl_two l [] 0 at' (lg l) h2 (Int.le_refl _) (by omega)
  have e1 : lg (sl 0 l 0 at') + lg (sl 0 l at' (lg l)) = lg l := by
    have e2 : jn (sl 0 l 0 at' ++ sl 0 l at' (lg l)) = jn l := k1
    have e3 := jn_lg (sl 0 l 0 at' ++ sl 0 l at' (lg l))
    rw [e2, jn_lg, lg_append] at e3
    exact e3.symm
  rw [lgV_yes h]
  have hv := And.intro (slV_vl l 0 at') (slV_vl l at' (lg l))
  have g1 : lgV (slV l 0 at') = lg (sl 0 l 0 at') := by rw [lgV_yes hv.1, slV_yes h]
  have g2 : lgV (slV l at' (lg l)) = lg (sl 0 l at' (lg l)) := by rw [lgV_yes hv.2, slV_yes h]
  rw [jnR_0 hv (by rw [slV_yes h, slV_yes h]; omega) (by rw [g1, g2]; omega), slV_yes h, slV_yes h, cl_yes h]
  unfold jn
  rw [k1]

/-! Edges. -/
def eg : Int → List Rn → List Int
  | _, [] => []
  | b, r :: l => b :: eg (b + r.2) l
theorem eg_cons (b : Int) (r : Rn) (l : List Rn) : eg b (r :: l) = b :: eg (b + r.2) l := rfl
theorem eg_snoc (b : Int) (l : List Rn) (r : Rn) : eg b (l ++ [r]) = eg b l ++ [b + lg l] := by
  induction l generalizing b with
  | nil => simp [eg, lg]
  | cons x l ih =>
    have e : lg (x :: l) = x.2 + lg l := rfl
    rw [List.cons_append, eg_cons, eg_cons, ih, e, List.cons_append, Int.add_assoc]
theorem eg_len (b : Int) (l : List Rn) : (eg b l).length = l.length := by
  induction l generalizing b with
  | nil => rfl
  | cons r l ih => rw [eg_cons, List.length_cons, List.length_cons, ih]
def es (c : List Rn) : List Int := (eg 0 c).drop 1
theorem es_zero (c : List Rn) (h : 0 < c.length) : es (c.take (0 + 1)) = es (c.take 0) := by
  cases c with
  | nil => simp at h
  | cons r c => rfl
theorem es_succ (c : List Rn) (j : Nat) (hj : j < c.length) (h0 : 0 < j) : es (c.take (j + 1)) = es (c.take j) ++ [lg (c.take j)] := by
  unfold es
  rw [List.take_succ_eq_append_getElem hj, eg_snoc, Int.zero_add, List.drop_append_of_le_length (by rw [eg_len, List.length_take]; omega)]
theorem es_len (c : List Rn) : (es c).length = c.length - 1 := by unfold es; rw [List.length_drop, eg_len]
theorem es_len_take (c : List Rn) (j : Nat) : (es (c.take j)).length ≤ c.length := by rw [es_len, List.length_take]; omega

/-! From edges. -/
def le' : Int → List Int → Int
  | b, [] => b
  | _, e :: q => le' e q
def lv : Int → List Int → Int
  | v, [] => v
  | v, _ :: q => lv (1 - v) q
def fp : Int → Int → List Int → List Rn
  | _, _, [] => []
  | v, b, e :: q => (v, e - b) :: fp (1 - v) e q
def oe : Int → List Int → Int → Bool
  | _, [], _ => true
  | b, e :: q, n => decide (b < e) && decide (e < n) && oe e q n
theorem le_snoc (q : List Int) (b e : Int) : le' b (q ++ [e]) = e := by
  induction q generalizing b with
  | nil => rfl
  | cons x q ih => exact ih x
theorem lv_snoc (q : List Int) (v e : Int) : lv v (q ++ [e]) = 1 - lv v q := by
  induction q generalizing v with
  | nil => rfl
  | cons x q ih => exact ih (1 - v)
theorem fp_snoc (q : List Int) (v b e : Int) : fp v b (q ++ [e]) = fp v b q ++ [(lv v q, e - le' b q)] := by
  induction q generalizing v b with
  | nil => rfl
  | cons x q ih => show _ :: fp (1 - v) x (q ++ [e]) = _; rw [ih]; rfl
theorem oe_snoc (q : List Int) (b e n : Int) : oe b (q ++ [e]) n = (oe b q n && (decide (le' b q < e) && decide (e < n))) := by
  induction q generalizing b with
  | nil => show (decide (b < e) && decide (e < n) && true) = (true && (decide (b < e) && decide (e < n))); rw [Bool.and_true, Bool.true_and]
  | cons x q ih => show (_ && oe x (q ++ [e]) n) = _; rw [ih, ← Bool.and_assoc]; rfl
theorem oe_append (q p : List Int) (b n : Int) (h : oe b (q ++ p) n = true) : oe b q n = true := by
  induction q generalizing b with
  | nil => rfl
  | cons x q ih =>
    have h' : (decide (b < x) && decide (x < n) && oe x (q ++ p) n) = true := h
    rw [Bool.and_eq_true] at h'
    show (decide (b < x) && decide (x < n) && oe x q n) = true
    rw [Bool.and_eq_true]
    exact ⟨h'.1, ih x h'.2⟩
theorem lv_one (q : List Int) (v : Int) (h : v = 0 ∨ v = 1) : lv v q = 0 ∨ lv v q = 1 := by
  induction q generalizing v with
  | nil => exact h
  | cons x q ih => exact ih (1 - v) (by omega)
theorem le_range (q : List Int) (b n : Int) (h : oe b q n = true) (hb : b ≤ n) : b ≤ le' b q ∧ le' b q ≤ n := by
  induction q generalizing b with
  | nil => exact ⟨Int.le_refl _, hb⟩
  | cons x q ih =>
    have h' : (decide (b < x) && decide (x < n) && oe x q n) = true := h
    rw [Bool.and_eq_true, Bool.and_eq_true, decide_eq_true_eq, decide_eq_true_eq] at h'
    have := ih x h'.2 (by omega)
    show b ≤ le' x q ∧ le' x q ≤ n
    omega
theorem fp_len (q : List Int) (v b : Int) : (fp v b q).length = q.length := by
  induction q generalizing v b with
  | nil => rfl
  | cons x q ih => show (fp (1 - v) x q).length + 1 = _; rw [ih]; rfl
/-- The whole wave. -/
def fe (v b : Int) (q : List Int) (n : Int) : List Rn := fp v b q ++ (if le' b q < n then [(lv v q, n - le' b q)] else [])
def feR (v : Int) (q : List Int) (n : Int) : List Rn × Int :=
  if ¬ (v = 0 ∨ v = 1) then ([], 1)
  else if n < 0 ∨ 1099511627776 < n then ([], 2)
  else if 262144 ≤ q.length then ([], 6)
  else if oe 0 q n = true then (fe v 0 q n, 0) else ([], 7)
theorem feR_1 {v n : Int} {q : List Int} (h : ¬ (v = 0 ∨ v = 1)) : feR v q n = ([], 1) := by unfold feR; rw [if_pos h]
theorem feR_2 {v n : Int} {q : List Int} (h : v = 0 ∨ v = 1) (h2 : n < 0 ∨ 1099511627776 < n) : feR v q n = ([], 2) := by unfold feR; rw [if_neg (fun x => x h), if_pos h2]
theorem feR_6 {v n : Int} {q : List Int} (h : v = 0 ∨ v = 1) (h2 : ¬ (n < 0 ∨ 1099511627776 < n)) (h6 : 262144 ≤ q.length) : feR v q n = ([], 6) := by unfold feR; rw [if_neg (fun x => x h), if_neg h2, if_pos h6]
theorem feR_7 {v n : Int} {q : List Int} (h : v = 0 ∨ v = 1) (h2 : ¬ (n < 0 ∨ 1099511627776 < n)) (h6 : ¬ 262144 ≤ q.length) (h7 : oe 0 q n = false) : feR v q n = ([], 7) := by unfold feR; rw [if_neg (fun x => x h), if_neg h2, if_neg h6, if_neg (by rw [h7]; exact Bool.false_ne_true)]
theorem feR_0 {v n : Int} {q : List Int} (h : v = 0 ∨ v = 1) (h2 : ¬ (n < 0 ∨ 1099511627776 < n)) (h6 : ¬ 262144 ≤ q.length) (h7 : oe 0 q n = true) : feR v q n = (fe v 0 q n, 0) := by unfold feR; rw [if_neg (fun x => x h), if_neg h2, if_neg h6, if_pos h7]
theorem fe_len (v b : Int) (q : List Int) (n : Int) : (fe v b q n).length ≤ q.length + 1 := by
  unfold fe
  rw [List.length_append, fp_len]
  split <;> simp
theorem feR_len (v : Int) (q : List Int) (n : Int) : (feR v q n).1.length ≤ 262144 := by
  unfold feR
  split
  · simp
  · split
    · simp
    · split
      · simp
      · rename_i h
        split
        · have := fe_len v 0 q n
          show (fe v 0 q n).length ≤ 262144
          omega
        · simp
theorem oe_take {q : List Int} {j : Nat} (hj : j < q.length) {n : Int} (h : oe 0 (q.take j) n = true) : oe 0 (q.take (j + 1)) n = (decide (le' 0 (q.take j) < q[j]) && decide (q[j] < n)) := by
  rw [List.take_succ_eq_append_getElem hj, oe_snoc, h, Bool.true_and]
theorem oe_bad {q : List Int} {j : Nat} {n : Int} (h : oe 0 (q.take j) n = false) : oe 0 q n = false := by
  cases hq : oe 0 q n with
  | false => rfl
  | true =>
    rw [show q = q.take j ++ q.drop j from (List.take_append_drop _ _).symm] at hq
    rw [oe_append _ _ _ _ hq] at h
    exact h
theorem le_take {q : List Int} {j : Nat} (hj : j < q.length) (b : Int) : le' b (q.take (j + 1)) = q[j] := by
  rw [List.take_succ_eq_append_getElem hj, le_snoc]
theorem lv_take {q : List Int} {j : Nat} (hj : j < q.length) (v : Int) : lv v (q.take (j + 1)) = 1 - lv v (q.take j) := by
  rw [List.take_succ_eq_append_getElem hj, lv_snoc]
theorem fp_take {q : List Int} {j : Nat} (hj : j < q.length) (v : Int) : fp v 0 (q.take (j + 1)) = fp v 0 (q.take j) ++ [(lv v (q.take j), q[j] - le' 0 (q.take j))] := by
  rw [List.take_succ_eq_append_getElem hj, fp_snoc]

/-- P8.7: a wave out of its first level, its edges, its length. -/
theorem fe_cons (v b e : Int) (q : List Int) (n : Int) : fe v b (e :: q) n = (v, e - b) :: fe (1 - v) e q n := rfl
theorem fe_eg (c : List Rn) (r : Rn) (b n : Int) (hg : gd (r :: c)) (ha : al (r :: c)) (hn : n = b + lg (r :: c)) :
    fe r.1 b (eg (b + r.2) c) n = r :: c ∧ oe b (eg (b + r.2) c) n = true := by
  induction c generalizing r b with
  | nil =>
    have h1 := (gd_cons.1 hg).1
    have e : lg [r] = r.2 := lg_one r
    rw [e] at hn
    refine ⟨?_, rfl⟩
    show fp r.1 b [] ++ (if le' b [] < n then [(lv r.1 [], n - le' b [])] else []) = [r]
    show [] ++ (if b < n then [(r.1, n - b)] else []) = [r]
    rw [if_pos (by omega), show n - b = r.2 by omega]
    rfl
  | cons s c ih =>
    have h1 := (gd_cons.1 hg)
    have h2 := gd_cons.1 h1.2
    have h3 := al_cons.1 ha
    have hn1 := gd_nonneg h2.2
    have e1 : lg (r :: s :: c) = r.2 + (s.2 + lg c) := rfl
    have e2 : lg (s :: c) = s.2 + lg c := rfl
    rw [e1] at hn
    obtain ⟨i1, i2⟩ := ih s (b + r.2) h1.2 h3.2 (by rw [e2]; omega)
    rw [eg_cons, fe_cons]
    have e3 : s.1 = 1 - r.1 := by
      have := h1.1.1; have := h2.1.1; have := h3.1
      omega
    rw [← e3, i1]
    refine ⟨by rw [show b + r.2 - b = r.2 by omega], ?_⟩
    show (decide (b < b + r.2) && decide (b + r.2 < n) && oe (b + r.2) (eg (b + r.2 + s.2) c) n) = true
    rw [i2, decide_eq_true (by omega), decide_eq_true (by omega)]; rfl
theorem atv_zero (r : Rn) (c : List Rn) (h : 1 ≤ r.2) : atv (r :: c) 0 = (r.1, true) := by rw [atv_cons, if_pos (by omega)]
theorem again {l : List Rn} (h : vl l = true) (h0 : l ≠ []) : (atV l 0).2 = true ∧ feR (atV l 0).1 (es (cl l)) (lgV l) = (cl l, 0) := by
  obtain ⟨h1, h2, h3⟩ := (vl_iff l).1 h
  have hp := jn_pos h0
  have hg := jn_gd h2
  have ha := jn_al l
  have hl := jn_lg l
  have hlen := jn_len l
  rw [← cl_at, cl_yes h, lgV_yes h, atV_yes (jn_vl h) (Int.le_refl _)]
  match jn l, hp, hg, ha, hl, hlen with
  | r :: c, _, hg, ha, hl, hlen =>
    have g1 := (gd_cons.1 hg).1
    rw [atv_zero r c g1.2]
    refine ⟨rfl, ?_⟩
    obtain ⟨i1, i2⟩ := fe_eg c r 0 (lg l) hg ha (by rw [hl]; omega)
    have e : es (r :: c) = eg (0 + r.2) c := rfl
    have hn0 := gd_nonneg hg
    rw [hl] at hn0
    rw [feR_0 g1.1 (by omega) (by rw [es_len, List.length_cons]; simp only [List.length_cons] at hlen; omega) (by rw [e]; exact i2), e]
    show (fe r.1 0 (eg (0 + r.2) c) (lg l), _) = _
    rw [i1]

end Sw
end Go.Proofs.Ytmbeaagpjpphhaa
