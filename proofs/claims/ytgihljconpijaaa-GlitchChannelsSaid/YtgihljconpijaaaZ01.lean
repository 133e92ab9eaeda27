/-
  Small facts of our own that every seat's proofs use: memory that only grows, endings, bytes, and from a walk to a statement's row.
  Waves, plain: runs as pairs of a level and ticks; valid, joined, length, level at a tick, edges, parts, inverted, from edges.
  Waves, plain: parts, edges, from edges, two waves joined.
  Structs and arrays of one-cell parts among a function's arguments, opened part by part.
  Slices of structs of one-cell fields among a function's arguments, opened element by element, with what their weights say.
  Short pulses: the mathematics of filtering, of counting and of clean lists.
  Short pulses: the mathematics of inserting.
  Names and captures, plain: characters, names, runs of whatever levels; valid, joined, length, level at a tick, parts.
  Bits of levels, plain.
  Edges, plain.
  Several waves together, plain.
  Runes of any string: the width, and that no special character lies within a rune of several bytes.
-/
import Derived.Test.YtgihljconpijaaaRows
import Derived.WalkKit
import Derived.WalkSpells
import Derived.WalkLawsBesides
import Derived.Deep.QuietTactic
import Derived.BigQuiet
import Derived.IntWalk
import Derived.Lib.Hide
import Derived.Handy
import Derived.Deep.RegionWith
import Derived.ProofKit
import Derived.LaidMore
import Derived.OpenShut
import Derived.Stop.Joined
import Derived.HandedShaped
import Derived.SevenTiedAt
import Derived.Lib.LaidTab
import Derived.Lib.SmallJoins
import Derived.Carry
import Derived.WalkSmall
import Derived.Lib.Strings
import Derived.SizedLaws
import Derived.Deep.Slices
import Derived.Lib.OthersKept
import Derived.Laws.RangeAny
namespace Go.Proofs.Ytgihljconpijaaa
open Go Go.ChangeShapes Go.WideShapes Go.ChangeAt Go.RowKit

/-! Endings. -/
theorem ret_int {k : IntKind} {a b : Int} (h : a = b) : Ending.returned (.int k a) = .returned (.int k b) := by rw [h]
theorem val_int {k : IntKind} {a b : Int} (h : a = b) : Value.int k a = .int k b := by rw [h]
theorem ret_bool {a b : Bool} (h : a = b) : Ending.returned (.bool a) = .returned (.bool b) := by rw [h]

/-! Memory only grows. -/
theorem le_alloc {B : Nat} {w : World} (h : B ≤ w.heap.size) (o : Obj) : B ≤ (w.alloc o).heap.size := by rw [World.size_alloc]; omega
theorem le_setCell {B : Nat} {w : World} (h : B ≤ w.heap.size) (a : Addr) (v : Value) : B ≤ (w.setCell a v).heap.size := by rw [World.size_setCell]; exact h
theorem le_drew {B : Nat} {w : World} (h : B ≤ w.heap.size) : B ≤ w.drew.heap.size := h
theorem le_drewN {B : Nat} {w : World} (h : B ≤ w.heap.size) (n : Nat) : B ≤ (w.drewN n).heap.size := h
theorem ba (w : World) (o : Obj) : Below w.heap.size w (w.alloc o) := (Below.refl _ _).alloc (Nat.le_refl _) _
theorem bcell {W w1 : World} (hb : Below W.heap.size W w1) : (∀ b o, b < W.heap.size → w1.cell? ⟨b, o, none⟩ = W.cell? ⟨b, o, none⟩) ∧ (∀ b o, b < W.heap.size → w1.frozen? ⟨b, o, none⟩ = W.frozen? ⟨b, o, none⟩) :=
  ⟨fun b o h => hb.cell (p := ⟨b, o, none⟩) h, fun b o h => hb.frozen (p := ⟨b, o, none⟩) h⟩
/-- Two cells of an old block, behind what only makes memory; of a new one. -/
theorem old2 {w w' : World} {b : Nat} {x y : Value} (hb : Below w.heap.size w w') (h : w.cell? ⟨b, 0, none⟩ = some x ∧ w.cell? ⟨b, 1, none⟩ = some y ∧ b < w.heap.size) : w'.cell? ⟨b, 0, none⟩ = some x ∧ w'.cell? ⟨b, 1, none⟩ = some y ∧ b < w'.heap.size :=
  ⟨by rw [hb.cell h.2.2]; exact h.1, by rw [hb.cell h.2.2]; exact h.2.1, Nat.lt_of_lt_of_le h.2.2 hb.size⟩
theorem new2 (w : World) (x y : Value) (T : TypeId) : (w.alloc (.cells #[x, y] T)).cell? ⟨w.heap.size, 0, none⟩ = some x ∧ (w.alloc (.cells #[x, y] T)).cell? ⟨w.heap.size, 1, none⟩ = some y ∧ w.heap.size < (w.alloc (.cells #[x, y] T)).heap.size :=
  ⟨by go_simp, by go_simp, by rw [World.size_alloc]; omega⟩
/-- A result of two cells, stored behind calls. -/
theorem two_set {wa : World} {b : Nat} {u0 u1 v0 v1 : Value} (h0 : wa.cell? ⟨b, 0, none⟩ = some u0) (h1 : wa.cell? ⟨b, 1, none⟩ = some u1) :
    ((wa.setCell ⟨b, 0, none⟩ v0).setCell ⟨b, 1, none⟩ v1).cell? ⟨b, 0, none⟩ = some v0 ∧ ((wa.setCell ⟨b, 0, none⟩ v0).setCell ⟨b, 1, none⟩ v1).cell? ⟨b, 1, none⟩ = some v1 := by
  constructor
  · rw [World.cell?_setCell_other _ _ _ _ (by simp)]; exact World.cell?_setCell_same _ _ _ h0
  · exact World.cell?_setCell_same _ _ _ (by rw [World.cell?_setCell_other _ _ _ _ (by simp)]; exact h1)

/-! Bytes. -/
theorem size_len (s : ByteArray) : s.size = s.data.toList.length := Lib.size_eq s
theorem toList_mk (l : List UInt8) : (⟨l.toArray⟩ : ByteArray).data.toList = l := by simp
theorem size_mk (l : List UInt8) : (⟨l.toArray⟩ : ByteArray).size = l.length := by rw [size_len, toList_mk]
theorem bytes_of (s : ByteArray) : (⟨s.data.toList.toArray⟩ : ByteArray) = s := by cases s; simp
theorem getElem_toList (s : ByteArray) (k : Nat) (h : k < s.size) : s.data.toList[k]'(by simpa using h) = s[k] := rfl
theorem empty_toList {s : ByteArray} (h : s.size = 0) : s.data.toList = [] := by
  rw [← List.length_eq_zero_iff]; simpa using h
theorem take_snoc (s : ByteArray) (k : Nat) (h : k < s.size) : s.data.toList.take (k + 1) = s.data.toList.take k ++ [s[k]] := by
  rw [List.take_succ_eq_append_getElem (by simpa using h)]; rfl

/-! From a walk to a statement's row. -/
theorem own : ownKnob Try.prog.godebug = none := by kernel_rfl
theorem laidOut : laidOutB Try.prog = true := by kernel_rfl
/-- The wrap that keeps both a condition on memory and the world's shape. -/
theorem handed_listed {H : Type} {enc : TypeId × Value → H} {C : Checked} {os : Os} {f : FuncId} {fn : Func} {s : ChangeSpec} {X : World → Prop}
    (hX : ∀ w w' : World, w.heap = w'.heap → X w → X w')
    (ho : ownKnob C.prog.godebug = none) (started : os.Started) (noInit : C.prog.inits.idxOf? f = none) (hfn : C.prog.funcs[f]? = some fn)
    (witness : ∃ (w : World) (tape : Tape) (i : Input), w.os = os ∧ (w.forCall tape i).Shaped C.prog ∧ i.vars = [] ∧ Input.okWide C.prog (w.forCall tape i) .any w.heap.size f i ∧
      ((s.pre enc C.prog fn [] false (w.forCall tape i).memory i.args ∧ X (w.forCall tape i).memory) ∧ sizedMet enc C.prog fn (OpenSpec.ofChange s) false (w.forCall tape i).memory i.args) ∧ Assume.holds {} C.prog (lone (Frame.enter C.prog f i.args .normal) [] (w.forCall tape i)))
    (contract : ∀ (W : World) (base : Nat) (args : Array Value) (ds gs : List (DataW H)) (before : List MemPlace),
      (∀ (j : Nat) t v, fn.params[j]? = some t → args[j]? = some v → Value.okWide C.prog W .any base t v) →
      DataW.Whole enc C.prog fn.params.toList s.vars false W args.toList ds gs before →
      (DataW.weightsEach C.prog (fn.params.toList ++ s.plain.varTypes C.prog) (ds ++ gs)).all (· ≤ reachBytes) = true → X W → W.ShapedOpen C.prog →
      Calls C.prog f args W fun e W' => ∃ v, e = .returned v ∧ s.post enc C.prog fn false true false false W args v W') :
    ReturnsInHanded {} C os f .any (fun w args => (s.pre enc C.prog fn [] false w args ∧ X w) ∧ sizedMet enc C.prog fn (OpenSpec.ofChange s) false w args) (s.post enc C.prog fn false true false false) :=
  returnsInHanded_of_calls ho started noInit witness fun w tape i _ hsh _ hok hpre _ => by
    obtain ⟨⟨⟨ds, gs, before, hw, _⟩, hx⟩, hz⟩ := hpre
    obtain ⟨_, _, _, fn', hfn', _, _, _, _, hval⟩ := hok
    obtain rfl : fn = fn' := Option.some.inj (hfn.symm.trans hfn')
    refine (contract (w.forCall tape i) w.heap.size i.args ds gs before hval (DataW.Whole.of_heap (w' := w.forCall tape i) (by rfl) hw) (hz.weights hw) (hX (w.forCall tape i).memory (w.forCall tape i) (by rfl) hx) hsh).mono ?_
    rintro e W' ⟨v, rfl, hp⟩
    exact ChangeSpec.post_blind hp
/-- Readings of old memory stand behind what only makes memory. -/
theorem below_trodAll {H : Type} {enc : TypeId × Value → H} {P : Program} {W W' : World} (hl : laidOutB P = true) (hb : Below W.heap.size W W') (ts : List TypeId) :
    ∀ (vs : List Value) (ds : List (DataW H)) (ps : List MemPlace), (ts.all fun t => P.readableRec t && decide (t < P.types.size)) = true →
      DataW.TrodAll enc P W 0 (fun _ => true) true ts vs ds ps → (∀ p ∈ ps, p.block < W.heap.size) → DataW.TrodAll enc P W' 0 (fun b => decide (b < W.heap.size)) true ts vs ds ps := by
  induction ts with
  | nil =>
    intro vs ds ps _ h _
    match vs, ds, h with
    | [], [], h => exact h
  | cons t ts ih =>
    intro vs ds ps hr h hlt
    match vs, ds, h with
    | v :: vs, d :: ds, h =>
      obtain ⟨p, q, h1, h2, rfl⟩ := h
      simp only [List.all_cons, Bool.and_eq_true] at hr
      exact ⟨p, q, Below.trod hl hr.1.1 (of_decide_eq_true hr.1.2) h1 hb (fun x hx => hlt x (List.mem_append_left _ hx)), ih vs ds q hr.2 h2 (fun x hx => hlt x (List.mem_append_right _ hx)), rfl⟩
/-- A statement's row, once its call returns true and only makes memory. -/
theorem law_post {H : Type} {enc : TypeId × Value → H} {f : Func} {s : ChangeSpec} {W W' : World} {args : Array Value} {ds gs : List (DataW H)} {before : List MemPlace}
    (hW : DataW.Whole enc Try.prog f.params.toList s.vars false W args.toList ds gs before) (hv : s.vars = []) (hr : f.resultTypes = #[4])
    (ht : (f.params.toList.all fun t => Try.prog.readableRec t && decide (t < Try.prog.types.size)) = true)
    (hfn : s.fn H (ds ++ gs) = { results := [.lit (.bool true)], args := ds }) (hb : Below W.heap.size W W') :
    s.post enc Try.prog f false true false false W args (.bool true) W' := by
  have hlt := hW.lt
  have hW' := hW
  obtain ⟨p, q, hA, hV, rfl, _, _⟩ := hW
  rw [hv] at hV
  obtain ⟨rfl, rfl⟩ := trodVars_none hV
  have hA' := below_trodAll laidOut hb _ _ _ _ ht hA (fun x hx => hlt x (List.mem_append_left _ hx))
  refine ⟨ds, [], _, [], p, [], hW', ?_, ?_, ?_, hb.frame _, fun h => by cases h⟩
  · rw [hfn, hr]; exact trodAll_mk1 (shut_bool Try.underlying4 true)
  · rw [hfn]; exact hA'
  · rw [hfn, hv]; rfl

end Go.Proofs.Ytgihljconpijaaa

namespace Go.Proofs.Ytgihljconpijaaa
set_option linter.unusedVariables false

abbrev Rn := Int × Int
def okR (s : Int) (r : Rn) : Bool := decide (r.1 = 0 ∨ r.1 = 1) && decide (1 ≤ r.2) && decide (r.2 ≤ 1099511627776 - s)
def vr : Int → List Rn → Bool
  | _, [] => true
  | s, r :: l => okR s r && vr (s + r.2) l
def vl (l : List Rn) : Bool := decide (l.length ≤ 262144) && vr 0 l
def lg : List Rn → Int
  | [] => 0
  | r :: l => r.2 + lg l
/-- Each run is one: its level is 0 or 1, it has a tick. -/
def gd (l : List Rn) : Prop := ∀ r ∈ l, (r.1 = 0 ∨ r.1 = 1) ∧ 1 ≤ r.2

theorem lg_append (a b : List Rn) : lg (a ++ b) = lg a + lg b := by
  induction a with
  | nil => simp [lg]
  | cons r a ih => simp only [List.cons_append, lg, ih]; omega
theorem lg_one (r : Rn) : lg [r] = r.2 := by simp [lg]
theorem lg_take (l : List Rn) (j : Nat) (hj : j < l.length) : lg (l.take (j + 1)) = lg (l.take j) + l[j].2 := by
  rw [List.take_succ_eq_append_getElem hj, lg_append, lg_one]
theorem gd_nil : gd [] := by intro r h; cases h
theorem gd_cons {r : Rn} {l : List Rn} : gd (r :: l) ↔ ((r.1 = 0 ∨ r.1 = 1) ∧ 1 ≤ r.2) ∧ gd l := by
  unfold gd; simp
theorem gd_append {a b : List Rn} : gd (a ++ b) ↔ gd a ∧ gd b := by
  unfold gd
  constructor
  · exact fun h => ⟨fun r hr => h r (List.mem_append_left _ hr), fun r hr => h r (List.mem_append_right _ hr)⟩
  · rintro ⟨h1, h2⟩ r hr
    rcases List.mem_append.1 hr with h | h
    · exact h1 r h
    · exact h2 r h
theorem gd_take {l : List Rn} (h : gd l) (j : Nat) : gd (l.take j) := fun r hr => h r (List.mem_of_mem_take hr)
theorem gd_drop {l : List Rn} (h : gd l) (j : Nat) : gd (l.drop j) := fun r hr => h r (List.mem_of_mem_drop hr)
theorem gd_len {l : List Rn} (h : gd l) : (l.length : Int) ≤ lg l := by
  induction l with
  | nil => simp [lg]
  | cons r l ih =>
    rw [gd_cons] at h
    have := ih h.2
    simp only [List.length_cons, lg]
    omega
theorem gd_nonneg {l : List Rn} (h : gd l) : 0 ≤ lg l := by have := gd_len h; omega
theorem vr_iff (l : List Rn) (s : Int) (hs : s ≤ 1099511627776) : vr s l = true ↔ gd l ∧ s + lg l ≤ 1099511627776 := by
  induction l generalizing s with
  | nil => simp [vr, lg, gd_nil, hs]
  | cons r l ih =>
    simp only [vr, okR, Bool.and_eq_true, decide_eq_true_eq, gd_cons, lg]
    constructor
    · rintro ⟨⟨⟨h1, h2⟩, h3⟩, h4⟩
      have := (ih (s + r.2) (by omega)).1 h4
      exact ⟨⟨⟨h1, h2⟩, this.1⟩, by omega⟩
    · rintro ⟨⟨⟨h1, h2⟩, h3⟩, h4⟩
      have := gd_nonneg h3
      exact ⟨⟨⟨h1, h2⟩, by omega⟩, (ih (s + r.2) (by omega)).2 ⟨h3, by omega⟩⟩
theorem vl_iff (l : List Rn) : vl l = true ↔ l.length ≤ 262144 ∧ gd l ∧ lg l ≤ 1099511627776 := by
  unfold vl
  rw [Bool.and_eq_true, decide_eq_true_eq, vr_iff l 0 (by omega)]
  simp
theorem vl_nil : vl [] = true := rfl
theorem vr_append (a b : List Rn) (s : Int) : vr s (a ++ b) = (vr s a && vr (s + lg a) b) := by
  induction a generalizing s with
  | nil => simp [vr, lg]
  | cons r a ih => simp only [List.cons_append, vr, lg, ih, Bool.and_assoc, Int.add_assoc]
/-- What the loop of Valid knows: so far good, the sum, the rest. -/
theorem vr_step {l : List Rn} {j : Nat} (hj : j < l.length) (h : vr 0 (l.take j) = true) : vr 0 (l.take (j + 1)) = okR (lg (l.take j)) l[j] := by
  rw [List.take_succ_eq_append_getElem hj, vr_append, h]
  simp [vr]
theorem vr_bad {l : List Rn} {j : Nat} (hj : j < l.length) (h : okR (lg (l.take j)) l[j] = false) : vl l = false := by
  unfold vl
  rw [show l = l.take (j + 1) ++ l.drop (j + 1) from (List.take_append_drop _ _).symm, vr_append, List.take_succ_eq_append_getElem hj, vr_append]
  simp [vr, h]
theorem vr_all {l : List Rn} (hn : l.length ≤ 262144) (h : vr 0 l = true) : vl l = true := by
  unfold vl; rw [h, decide_eq_true hn]; rfl
theorem vr_range {l : List Rn} (h : vr 0 l = true) : 0 ≤ lg l ∧ lg l ≤ 1099511627776 := by
  have := (vr_iff l 0 (by omega)).1 h
  exact ⟨gd_nonneg this.1, by omega⟩
theorem lg_split (l : List Rn) (j : Nat) : lg l = lg (l.take j) + lg (l.drop j) := by
  rw [← lg_append, List.take_append_drop]
/-- Bounds of a prefix of a valid wave. -/
theorem lg_take_range {l : List Rn} (h : vl l = true) (j : Nat) : 0 ≤ lg (l.take j) ∧ lg (l.take j) ≤ 1099511627776 := by
  obtain ⟨_, h2, h3⟩ := (vl_iff l).1 h
  have := gd_nonneg (gd_take h2 j)
  have := gd_nonneg (gd_drop h2 j)
  have := lg_split l j
  omega
theorem el_range {l : List Rn} (h : vl l = true) (j : Nat) (hj : j < l.length) : (l[j].1 = 0 ∨ l[j].1 = 1) ∧ 1 ≤ l[j].2 ∧ l[j].2 ≤ 1099511627776 := by
  obtain ⟨_, h2, h3⟩ := (vl_iff l).1 h
  have h4 := h2 l[j] (List.getElem_mem hj)
  have h5 := (lg_take_range h (j + 1)).2
  have h6 := (lg_take_range h j).1
  rw [lg_take l j hj] at h5
  exact ⟨h4.1, h4.2, by omega⟩

/-! Joining. -/
def pt (o : List Rn) (r : Rn) : List Rn := match o.getLast? with
  | some x => if x.1 = r.1 then o.dropLast ++ [(x.1, x.2 + r.2)] else o ++ [r]
  | none => [r]
def jn (l : List Rn) : List Rn := l.foldl pt []
theorem pt_nil (r : Rn) : pt [] r = [r] := rfl
theorem pt_snoc (o : List Rn) (x r : Rn) : pt (o ++ [x]) r = if x.1 = r.1 then o ++ [(x.1, x.2 + r.2)] else o ++ [x] ++ [r] := by
  unfold pt
  simp
theorem nil_or_snoc (l : List Rn) : l = [] ∨ ∃ o x, l = o ++ [x] := by
  rcases List.eq_nil_or_concat l with h | ⟨o, x, h⟩
  · exact .inl h
  · exact .inr ⟨o, x, by simpa using h⟩
theorem jn_take (l : List Rn) (j : Nat) (hj : j < l.length) : jn (l.take (j + 1)) = pt (jn (l.take j)) l[j] := by
  unfold jn
  rw [List.take_succ_eq_append_getElem hj, List.foldl_append]
  rfl
theorem pt_lg (o : List Rn) (r : Rn) : lg (pt o r) = lg o + r.2 := by
  rcases nil_or_snoc o with rfl | ⟨o, x, rfl⟩
  · simp [pt_nil, lg]
  · rw [pt_snoc]
    split <;> simp [lg_append, lg] <;> omega
theorem pt_gd {o : List Rn} {r : Rn} (ho : gd o) (hr : gd [r]) : gd (pt o r) := by
  rcases nil_or_snoc o with rfl | ⟨o, x, rfl⟩
  · exact hr
  · rw [pt_snoc]
    rw [gd_append] at ho
    split
    · rw [gd_append]
      refine ⟨ho.1, ?_⟩
      have h1 := ho.2 x (by simp)
      have h2 := hr r (by simp)
      intro y hy
      rw [List.mem_singleton] at hy
      subst hy
      exact ⟨h1.1, by show 1 ≤ x.2 + r.2; omega⟩
    · rw [gd_append, gd_append]; exact ⟨ho, hr⟩
theorem pt_len (o : List Rn) (r : Rn) : (pt o r).length ≤ o.length + 1 ∧ o.length ≤ (pt o r).length ∧ 0 < (pt o r).length := by
  rcases nil_or_snoc o with rfl | ⟨o, x, rfl⟩
  · simp [pt_nil]
  · rw [pt_snoc]
    split <;> simp
theorem fold_lg (l o : List Rn) : lg (l.foldl pt o) = lg o + lg l := by
  induction l generalizing o with
  | nil => simp [lg]
  | cons r l ih => simp only [List.foldl_cons, ih, pt_lg, lg]; omega
theorem jn_lg (l : List Rn) : lg (jn l) = lg l := by unfold jn; rw [fold_lg]; simp [lg]
theorem fold_gd (l o : List Rn) (ho : gd o) (hl : gd l) : gd (l.foldl pt o) := by
  induction l generalizing o with
  | nil => exact ho
  | cons r l ih =>
    rw [gd_cons] at hl
    exact ih _ (pt_gd ho (by rw [gd_cons]; exact ⟨hl.1, gd_nil⟩)) hl.2
theorem jn_gd {l : List Rn} (h : gd l) : gd (jn l) := fold_gd l [] gd_nil h
theorem fold_len (l o : List Rn) : (l.foldl pt o).length ≤ o.length + l.length ∧ o.length ≤ (l.foldl pt o).length := by
  induction l generalizing o with
  | nil => simp
  | cons r l ih =>
    have h1 := ih (pt o r)
    have h2 := pt_len o r
    simp only [List.foldl_cons, List.length_cons]
    omega
theorem jn_len (l : List Rn) : (jn l).length ≤ l.length := by have := (fold_len l []).1; unfold jn; simpa using this
theorem jn_pos {l : List Rn} (h : l ≠ []) : 0 < (jn l).length := by
  cases l with
  | nil => exact absurd rfl h
  | cons r l =>
    have h1 := (fold_len l (pt [] r)).2
    have h2 := (pt_len [] r).2.2
    unfold jn
    rw [List.foldl_cons]
    omega
theorem jn_vl {l : List Rn} (h : vl l = true) : vl (jn l) = true := by
  obtain ⟨h1, h2, h3⟩ := (vl_iff l).1 h
  exact (vl_iff _).2 ⟨Nat.le_trans (jn_len l) h1, jn_gd h2, by rw [jn_lg]; exact h3⟩

/-! No two adjacent runs have one level. -/
def al (l : List Rn) : Prop := ∀ (i : Nat) (h : i + 1 < l.length), l[i].1 ≠ l[i + 1].1
theorem al_nil : al [] := fun i h => absurd h (by simp)
theorem al_cons {r s : Rn} {l : List Rn} : al (r :: s :: l) ↔ r.1 ≠ s.1 ∧ al (s :: l) := by
  constructor
  · intro h
    exact ⟨h 0 (by simp), fun i hi => h (i + 1) (by simpa using hi)⟩
  · rintro ⟨h1, h2⟩ i hi
    cases i with
    | zero => exact h1
    | succ i => exact h2 i (by simpa using hi)
theorem al_one (r : Rn) : al [r] := fun i h => absurd h (by simp)
theorem al_tail {r : Rn} {l : List Rn} (h : al (r :: l)) : al l := fun i hi => h (i + 1) (by simpa using hi)
theorem al_snoc {o : List Rn} {x r : Rn} (h : al (o ++ [x])) (hx : x.1 ≠ r.1) : al (o ++ [x] ++ [r]) := by
  induction o with
  | nil => simp only [List.nil_append, List.cons_append]; rw [al_cons]; exact ⟨hx, al_one r⟩
  | cons y o ih =>
    cases o with
    | nil =>
      simp only [List.cons_append, List.nil_append, al_cons] at h ⊢
      exact ⟨h.1, hx, al_one r⟩
    | cons z o =>
      simp only [List.cons_append, al_cons] at h ⊢ ih
      exact ⟨h.1, ih h.2⟩
theorem al_last {o : List Rn} {x y : Rn} (h : al (o ++ [x])) (hx : x.1 = y.1) : al (o ++ [y]) := by
  induction o with
  | nil => exact al_one y
  | cons z o ih =>
    cases o with
    | nil =>
      simp only [List.cons_append, List.nil_append, al_cons] at h ⊢
      exact ⟨by rw [← hx]; exact h.1, al_one y⟩
    | cons u o =>
      simp only [List.cons_append, al_cons] at h ⊢ ih
      exact ⟨h.1, ih h.2⟩
theorem pt_al {o : List Rn} {r : Rn} (h : al o) : al (pt o r) := by
  rcases nil_or_snoc o with rfl | ⟨o, x, rfl⟩
  · exact al_one r
  · rw [pt_snoc]
    split
    · exact al_last h rfl
    · rename_i hx; exact al_snoc h hx
theorem fold_al (l o : List Rn) (h : al o) : al (l.foldl pt o) := by
  induction l generalizing o with
  | nil => exact h
  | cons r l ih => exact ih _ (pt_al h)
theorem jn_al (l : List Rn) : al (jn l) := fold_al l [] al_nil
theorem al_mid {o l : List Rn} {x r : Rn} (h : al (o ++ [x] ++ r :: l)) : x.1 ≠ r.1 := by
  have h1 := h o.length (by simp)
  have e1 : (o ++ [x] ++ r :: l)[o.length]'(by simp) = x := by
    rw [List.getElem_append_left (by simp)]; simp
  have e2 : (o ++ [x] ++ r :: l)[o.length + 1]'(by simp) = r := by
    rw [List.getElem_append_right (by simp)]; simp
  rw [e1, e2] at h1
  exact h1
theorem fold_id (l o : List Rn) (h : al (o ++ l)) : l.foldl pt o = o ++ l := by
  induction l generalizing o with
  | nil => simp
  | cons r l ih =>
    have e : pt o r = o ++ [r] := by
      rcases nil_or_snoc o with rfl | ⟨o, x, rfl⟩
      · rfl
      · rw [pt_snoc, if_neg (al_mid h)]
    rw [List.foldl_cons, e, ih (o ++ [r]) (by simpa using h)]
    simp
theorem jn_id {l : List Rn} (h : al l) : jn l = l := by unfold jn; rw [fold_id l [] (by simpa using h)]; rfl
theorem jn_jn (l : List Rn) : jn (jn l) = jn l := jn_id (jn_al l)

/-! The level at a tick. -/
def atv : List Rn → Int → Int × Bool
  | [], _ => (-1, false)
  | r :: l, k => if k < r.2 then (r.1, true) else atv l (k - r.2)
theorem atv_cons (r : Rn) (l : List Rn) (k : Int) : atv (r :: l) k = if k < r.2 then (r.1, true) else atv l (k - r.2) := rfl
theorem atv_drop {l : List Rn} {j : Nat} (hj : j < l.length) (k : Int) : atv (l.drop j) k = if k < l[j].2 then (l[j].1, true) else atv (l.drop (j + 1)) (k - l[j].2) := by
  rw [List.drop_eq_getElem_cons hj]; rfl
theorem atv_append (a b : List Rn) (k : Int) (ha : gd a) (hk : 0 ≤ k) : atv (a ++ b) k = if k < lg a then atv a k else atv b (k - lg a) := by
  induction a generalizing k with
  | nil => simp only [List.nil_append, lg, Int.sub_zero]; rw [if_neg (by omega)]
  | cons r a ih =>
    rw [gd_cons] at ha
    have := gd_nonneg ha.2
    have e : lg (r :: a) = r.2 + lg a := rfl
    rw [List.cons_append, atv_cons, atv_cons, e]
    by_cases h : k < r.2
    · rw [if_pos h, if_pos h, if_pos (by omega)]
    · rw [if_neg h, if_neg h, ih (k - r.2) ha.2 (by omega)]
      by_cases h2 : k - r.2 < lg a
      · rw [if_pos h2, if_pos (by omega)]
      · rw [if_neg h2, if_neg (by omega)]
        congr 1
        omega
theorem atv_pt (o : List Rn) (r : Rn) (l : List Rn) (k : Int) (ho : gd o) (hr : gd [r]) (hk : 0 ≤ k) : atv (pt o r ++ l) k = atv (o ++ r :: l) k := by
  rcases nil_or_snoc o with rfl | ⟨o, x, rfl⟩
  · rfl
  · rw [pt_snoc]
    rw [gd_append] at ho
    have h1 := ho.2 x (by simp)
    have h2 := hr r (by simp)
    split
    · rename_i e
      rw [List.append_assoc, List.append_assoc, atv_append o _ k ho.1 hk, atv_append o _ k ho.1 hk]
      by_cases h : k < lg o
      · rw [if_pos h, if_pos h]
      · rw [if_neg h, if_neg h]
        generalize k - lg o = q
        simp only [List.cons_append, List.nil_append, atv]
        by_cases g1 : q < x.2
        · rw [if_pos (by omega), if_pos g1]
        · rw [if_neg g1]
          by_cases g2 : q - x.2 < r.2
          · rw [if_pos (by omega), if_pos g2, e]
          · rw [if_neg (by omega), if_neg g2]
            congr 1
            omega
    · rw [List.append_assoc]; rfl
theorem atv_fold (l o : List Rn) (k : Int) (ho : gd o) (hl : gd l) (hk : 0 ≤ k) : atv (l.foldl pt o) k = atv (o ++ l) k := by
  induction l generalizing o with
  | nil => simp
  | cons r l ih =>
    rw [gd_cons] at hl
    have hr : gd [r] := by rw [gd_cons]; exact ⟨hl.1, gd_nil⟩
    rw [List.foldl_cons, ih _ (pt_gd ho hr) hl.2, atv_pt o r l k ho hr hk]
theorem atv_jn {l : List Rn} (k : Int) (hl : gd l) (hk : 0 ≤ k) : atv (jn l) k = atv l k := by
  unfold jn; rw [atv_fold l [] k gd_nil hl hk]; rfl

/-! Inverted. -/
def iv (l : List Rn) : List Rn := l.map fun r => (1 - r.1, r.2)
theorem iv_iv (l : List Rn) : iv (iv l) = l := by
  unfold iv
  rw [List.map_map]
  conv => rhs; rw [← List.map_id l]
  apply List.map_congr_left
  intro r _
  show (1 - (1 - r.1), r.2) = r
  rw [show 1 - (1 - r.1) = r.1 by omega]
theorem iv_lg (l : List Rn) : lg (iv l) = lg l := by
  induction l with
  | nil => rfl
  | cons r l ih => unfold iv at ih ⊢; simp only [List.map_cons, lg, ih]
theorem iv_gd {l : List Rn} (h : gd l) : gd (iv l) := by
  intro y hy
  obtain ⟨r, hr, rfl⟩ := List.mem_map.1 hy
  have := h r hr
  exact ⟨by show 1 - r.1 = 0 ∨ 1 - r.1 = 1; omega, this.2⟩
theorem iv_len (l : List Rn) : (iv l).length = l.length := by simp [iv]
theorem iv_vl {l : List Rn} (h : vl l = true) : vl (iv l) = true := by
  obtain ⟨h1, h2, h3⟩ := (vl_iff l).1 h
  exact (vl_iff _).2 ⟨by rw [iv_len]; exact h1, iv_gd h2, by rw [iv_lg]; exact h3⟩
theorem iv_at (l : List Rn) (k : Int) : atv (iv l) k = if (atv l k).2 = true then (1 - (atv l k).1, true) else (-1, false) := by
  induction l generalizing k with
  | nil => rfl
  | cons r l ih =>
    have e : iv (r :: l) = (1 - r.1, r.2) :: iv l := rfl
    rw [e, atv_cons]
    have e2 := atv_cons r l k
    by_cases h : k < r.2
    · rw [if_pos h] at e2; rw [e2, if_pos h]; rfl
    · rw [if_neg h] at e2; rw [e2, if_neg h, ih]
theorem iv_take (l : List Rn) (j : Nat) (hj : j < l.length) : iv (l.take (j + 1)) = iv (l.take j) ++ [(1 - l[j].1, l[j].2)] := by
  unfold iv
  rw [List.take_succ_eq_append_getElem hj, List.map_append]; rfl
theorem atv_one (l : List Rn) (k : Int) (hl : gd l) : ((atv l k).2 = true ∧ ((atv l k).1 = 0 ∨ (atv l k).1 = 1)) ∨ atv l k = (-1, false) := by
  induction l generalizing k with
  | nil => exact .inr rfl
  | cons r l ih =>
    rw [gd_cons] at hl
    simp only [atv]
    by_cases h : k < r.2
    · rw [if_pos h]; exact .inl ⟨rfl, hl.1.1⟩
    · rw [if_neg h]; exact ih _ hl.2

/-! Of any list: of one that is not a wave, nothing. -/
def cl (l : List Rn) : List Rn := if vl l = true then jn l else []
def lgV (l : List Rn) : Int := if vl l = true then lg l else 0
def atV (l : List Rn) (k : Int) : Int × Bool := if vl l = true ∧ 0 ≤ k then atv l k else (-1, false)
def ivV (l : List Rn) : List Rn := if vl l = true then iv l else []
theorem cl_yes {l : List Rn} (h : vl l = true) : cl l = jn l := by unfold cl; rw [if_pos h]
theorem cl_no {l : List Rn} (h : ¬ vl l = true) : cl l = [] := by unfold cl; rw [if_neg h]
theorem lgV_yes {l : List Rn} (h : vl l = true) : lgV l = lg l := by unfold lgV; rw [if_pos h]
theorem lgV_no {l : List Rn} (h : ¬ vl l = true) : lgV l = 0 := by unfold lgV; rw [if_neg h]
theorem atV_yes {l : List Rn} {k : Int} (h : vl l = true) (hk : 0 ≤ k) : atV l k = atv l k := by unfold atV; rw [if_pos ⟨h, hk⟩]
theorem atV_no {l : List Rn} {k : Int} (h : ¬ (vl l = true ∧ 0 ≤ k)) : atV l k = (-1, false) := by unfold atV; rw [if_neg h]
theorem ivV_yes {l : List Rn} (h : vl l = true) : ivV l = iv l := by unfold ivV; rw [if_pos h]
theorem ivV_no {l : List Rn} (h : ¬ vl l = true) : ivV l = [] := by unfold ivV; rw [if_neg h]
theorem cl_vl (l : List Rn) : vl (cl l) = true := by
  by_cases h : vl l = true
  · rw [cl_yes h]; exact jn_vl h
  · rw [cl_no h]; rfl
theorem cl_len (l : List Rn) : (cl l).length ≤ l.length := by
  by_cases h : vl l = true
  · rw [cl_yes h]; exact jn_len l
  · rw [cl_no h]; simp
theorem cl_al (l : List Rn) : al (cl l) := by
  by_cases h : vl l = true
  · rw [cl_yes h]; exact jn_al l
  · rw [cl_no h]; exact al_nil
theorem cl_cl (l : List Rn) : cl (cl l) = cl l := by rw [cl_yes (cl_vl l), jn_id (cl_al l)]
theorem cl_lg (l : List Rn) : lgV (cl l) = lgV l := by
  rw [lgV_yes (cl_vl l)]
  by_cases h : vl l = true
  · rw [cl_yes h, lgV_yes h, jn_lg]
  · rw [cl_no h, lgV_no h]; rfl
theorem cl_at (l : List Rn) (k : Int) : atV (cl l) k = atV l k := by
  by_cases hk : 0 ≤ k
  · rw [atV_yes (cl_vl l) hk]
    by_cases h : vl l = true
    · rw [cl_yes h, atV_yes h hk, atv_jn k ((vl_iff l).1 h).2.1 hk]
    · rw [cl_no h, atV_no (fun x => h x.1)]; rfl
  · rw [atV_no (fun x => hk x.2), atV_no (fun x => hk x.2)]
theorem ivV_vl (l : List Rn) : vl (ivV l) = true := by
  by_cases h : vl l = true
  · rw [ivV_yes h]; exact iv_vl h
  · rw [ivV_no h]; rfl
theorem ivV_at (l : List Rn) (k : Int) : atV (ivV l) k = if (atV l k).2 = true then (1 - (atV l k).1, true) else (-1, false) := by
  by_cases hk : 0 ≤ k
  · rw [atV_yes (ivV_vl l) hk]
    by_cases h : vl l = true
    · rw [ivV_yes h, atV_yes h hk, iv_at]
    · rw [ivV_no h, atV_no (fun x => h x.1)]; rfl
  · rw [atV_no (fun x => hk x.2), atV_no (fun x => hk x.2)]; rfl
theorem ivV_twice {l : List Rn} (h : vl l = true) : ivV (ivV l) = l := by rw [ivV_yes (ivV_vl l), ivV_yes h, iv_iv]
theorem atV_one (l : List Rn) (k : Int) : ((atV l k).2 = true ∧ ((atV l k).1 = 0 ∨ (atV l k).1 = 1)) ∨ atV l k = (-1, false) := by
  unfold atV
  split
  · rename_i h; exact atv_one l k ((vl_iff l).1 h.1).2.1
  · exact .inr rfl

end Go.Proofs.Ytgihljconpijaaa

namespace Go.Proofs.Ytgihljconpijaaa
set_option linter.unusedVariables false

/-! Parts. -/
def s1 (b : Int) (r : Rn) (f t : Int) : List Rn := if max b f < min (b + r.2) t then [(r.1, min (b + r.2) t - max b f)] else []
def sl : Int → List Rn → Int → Int → List Rn
  | _, [], _, _ => []
  | b, r :: l, f, t => s1 b r f t ++ sl (b + r.2) l f t
theorem sl_cons (b : Int) (r : Rn) (l : List Rn) (f t : Int) : sl b (r :: l) f t = s1 b r f t ++ sl (b + r.2) l f t := rfl
theorem sl_snoc (b : Int) (l : List Rn) (r : Rn) (f t : Int) : sl b (l ++ [r]) f t = sl b l f t ++ s1 (b + lg l) r f t := by
  induction l generalizing b with
  | nil => simp [sl, lg]
  | cons x l ih =>
    have e : lg (x :: l) = x.2 + lg l := rfl
    rw [List.cons_append, sl_cons, sl_cons, ih, e, List.append_assoc, Int.add_assoc]
theorem sl_take (l : List Rn) (j : Nat) (hj : j < l.length) (f t : Int) : sl 0 (l.take (j + 1)) f t = sl 0 (l.take j) f t ++ s1 (lg (l.take j)) l[j] f t := by
  rw [List.take_succ_eq_append_getElem hj, sl_snoc, Int.zero_add]
def slV (l : List Rn) (f t : Int) : List Rn := if vl l = true then sl 0 l f t else []
theorem slV_yes {l : List Rn} {f t : Int} (h : vl l = true) : slV l f t = sl 0 l f t := by unfold slV; rw [if_pos h]
theorem slV_no {l : List Rn} {f t : Int} (h : ¬ vl l = true) : slV l f t = [] := by unfold slV; rw [if_neg h]
theorem s1_len (b : Int) (r : Rn) (f t : Int) : (s1 b r f t).length ≤ 1 := by unfold s1; split <;> simp
theorem sl_len (l : List Rn) (b f t : Int) : (sl b l f t).length ≤ l.length := by
  induction l generalizing b with
  | nil => simp [sl]
  | cons r l ih =>
    rw [sl_cons, List.length_append, List.length_cons]
    have := ih (b + r.2)
    have := s1_len b r f t
    omega
theorem s1_gd {b : Int} {r : Rn} {f t : Int} (h : r.1 = 0 ∨ r.1 = 1) : gd (s1 b r f t) := by
  unfold s1; split
  · rename_i hlt; rw [gd_cons]; exact ⟨⟨h, by show 1 ≤ min (b + r.2) t - max b f; omega⟩, gd_nil⟩
  · exact gd_nil
theorem sl_gd {l : List Rn} {b f t : Int} (h : gd l) : gd (sl b l f t) := by
  induction l generalizing b with
  | nil => exact gd_nil
  | cons r l ih =>
    rw [gd_cons] at h
    rw [sl_cons, gd_append]
    exact ⟨s1_gd h.1.1, ih h.2⟩
theorem s1_lg {b : Int} {r : Rn} {f t : Int} (h : 1 ≤ r.2) : lg (s1 b r f t) ≤ r.2 := by
  unfold s1; split
  · rw [lg_one]; show min (b + r.2) t - max b f ≤ r.2; omega
  · simp only [lg]; omega
theorem sl_lg {l : List Rn} {b f t : Int} (h : gd l) : lg (sl b l f t) ≤ lg l := by
  induction l generalizing b with
  | nil => exact Int.le_refl _
  | cons r l ih =>
    rw [gd_cons] at h
    have := @s1_lg b r f t h.1.2
    have := @ih (b + r.2) h.2
    rw [sl_cons, lg_append]
    show _ ≤ r.2 + lg l
    omega
theorem slV_len (l : List Rn) (f t : Int) : (slV l f t).length ≤ l.length := by
  by_cases h : vl l = true
  · rw [slV_yes h]; exact sl_len l 0 f t
  · rw [slV_no h]; simp
theorem slV_vl (l : List Rn) (f t : Int) : vl (slV l f t) = true := by
  by_cases h : vl l = true
  · rw [slV_yes h]
    obtain ⟨h1, h2, h3⟩ := (vl_iff l).1 h
    exact (vl_iff _).2 ⟨Nat.le_trans (sl_len l 0 f t) h1, sl_gd h2, Int.le_trans (sl_lg h2) h3⟩
  · rw [slV_no h]; rfl
/-- The two parts, side by side. -/
theorem sl_late (l : List Rn) (b at' L : Int) (hl : gd l) (h : at' ≤ b) (hL : b + lg l ≤ L) : sl b l 0 at' = [] ∧ sl b l at' L = l := by
  induction l generalizing b with
  | nil => exact ⟨rfl, rfl⟩
  | cons r l ih =>
    rw [gd_cons] at hl
    have e : lg (r :: l) = r.2 + lg l := rfl
    rw [e] at hL
    have h0 := gd_nonneg hl.2
    obtain ⟨i1, i2⟩ := ih (b + r.2) hl.2 (by omega) (by omega)
    rw [sl_cons, sl_cons, i1, i2]
    unfold s1
    rw [if_neg (by omega), if_pos (by omega)]
    refine ⟨rfl, ?_⟩
    show (r.1, min (b + r.2) L - max b at') :: l = r :: l
    rw [show min (b + r.2) L - max b at' = r.2 by omega]
theorem sl_two (l : List Rn) (o : List Rn) (b at' L : Int) (hl : gd l) (hb : 0 ≤ b) (hL : b + lg l ≤ L) :
    (sl b l 0 at' ++ sl b l at' L).foldl pt o = l.foldl pt o ∧ (sl b l 0 at').length + (sl b l at' L).length ≤ l.length + 1 := by
  induction l generalizing b o with
  | nil => exact ⟨rfl, by simp [sl]⟩
  | cons r l ih =>
    by_cases c1 : at' ≤ b
    · obtain ⟨i1, i2⟩ := sl_late (r :: l) b at' L hl c1 hL
      rw [i1, i2]
      exact ⟨rfl, by simp⟩
    rw [gd_cons] at hl
    have e : lg (r :: l) = r.2 + lg l := rfl
    rw [e] at hL
    have h0 := gd_nonneg hl.2
    by_cases c2 : b + r.2 ≤ at'
    · obtain ⟨i1, i2⟩ := ih (pt o r) (b + r.2) hl.2 (by omega) (by omega)
      rw [sl_cons, sl_cons]
      have e1 : s1 b r 0 at' = [r] := by
        unfold s1; rw [if_pos (by omega), show min (b + r.2) at' - max b 0 = r.2 by omega]
      have e2 : s1 b r at' L = [] := by unfold s1; rw [if_neg (by omega)]
      rw [e1, e2]
      refine ⟨?_, by simp only [List.length_append, List.length_cons, List.length_nil]; omega⟩
      rw [List.nil_append, List.append_assoc, List.foldl_append]
      exact i1
    · obtain ⟨i1, i2⟩ := sl_late l (b + r.2) at' L hl.2 (by omega) (by omega)
      rw [sl_cons, sl_cons, i1, i2]
      have e1 : s1 b r 0 at' = [(r.1, at' - b)] := by
        unfold s1; rw [if_pos (by omega), show min (b + r.2) at' - max b 0 = at' - b by omega]
      have e2 : s1 b r at' L = [(r.1, b + r.2 - at')] := by
        unfold s1; rw [if_pos (by omega), show min (b + r.2) L - max b at' = b + r.2 - at' by omega]
      rw [e1, e2]
      refine ⟨?_, by simp only [List.length_append, List.length_cons, List.length_nil]; omega⟩
      show l.foldl pt (pt (pt o (r.1, at' - b)) (r.1, b + r.2 - at')) = l.foldl pt (pt o r)
      congr 1
      rcases nil_or_snoc o with rfl | ⟨o, x, rfl⟩
      · show pt ([] ++ [(r.1, at' - b)]) (r.1, b + r.2 - at') = _
        rw [pt_snoc, if_pos rfl]
        show [(r.1, at' - b + (b + r.2 - at'))] = [r]
        rw [show at' - b + (b + r.2 - at') = r.2 by omega]
      · rw [pt_snoc, pt_snoc]
        by_cases hx : x.1 = r.1
        · rw [if_pos hx, if_pos hx, pt_snoc, if_pos hx]
          show o ++ [(x.1, x.2 + (at' - b) + (b + r.2 - at'))] = _
          rw [show x.2 + (at' - b) + (b + r.2 - at') = x.2 + r.2 by omega]
        · rw [if_neg hx, if_neg hx, pt_snoc, if_pos rfl]
          show _ ++ [(r.1, at' - b + (b + r.2 - at'))] = _
          rw [show at' - b + (b + r.2 - at') = r.2 by omega]

/-! Two waves, one after the other. -/
def jnR (a b : List Rn) : List Rn × Int :=
  if ¬ (vl a = true ∧ vl b = true) then ([], 1)
  else if 262144 < a.length + b.length then ([], 6)
  else if 1099511627776 < lgV a + lgV b then ([], 2)
  else (jn (a ++ b), 0)
theorem jnR_1 {a b : List Rn} (h : ¬ (vl a = true ∧ vl b = true)) : jnR a b = ([], 1) := by unfold jnR; rw [if_pos h]
theorem jnR_6 {a b : List Rn} (h : vl a = true ∧ vl b = true) (h6 : 262144 < a.length + b.length) : jnR a b = ([], 6) := by unfold jnR; rw [if_neg (fun x => x h), if_pos h6]
theorem jnR_2 {a b : List Rn} (h : vl a = true ∧ vl b = true) (h6 : ¬ 262144 < a.length + b.length) (h2 : 1099511627776 < lgV a + lgV b) : jnR a b = ([], 2) := by unfold jnR; rw [if_neg (fun x => x h), if_neg h6, if_pos h2]
theorem jnR_0 {a b : List Rn} (h : vl a = true ∧ vl b = true) (h6 : ¬ 262144 < a.length + b.length) (h2 : ¬ 1099511627776 < lgV a + lgV b) : jnR a b = (jn (a ++ b), 0) := by unfold jnR; rw [if_neg (fun x => x h), if_neg h6, if_neg h2]
theorem jnR_len (a b : List Rn) : (jnR a b).1.length ≤ 262144 := by
  unfold jnR
  split
  · simp
  · split
    · simp
    · split
      · simp
      · rename_i h _
        have := jn_len (a ++ b)
        rw [List.length_append] at this
        show (jn (a ++ b)).length ≤ 262144
        omega
theorem lgV_range (l : List Rn) : 0 ≤ lgV l ∧ lgV l ≤ 1099511627776 := by
  by_cases h : vl l = true
  · rw [lgV_yes h]
    obtain ⟨_, h2, h3⟩ := (vl_iff l).1 h
    exact ⟨gd_nonneg h2, h3⟩
  · rw [lgV_no h]; omega
/-- P8.3 and P8.4: the two parts make the whole. -/
theorem parts {l : List Rn} (at' : Int) (h : vl l = true) (hn : l.length < 262144) : jnR (slV l 0 at') (slV l at' (lgV l)) = (cl l, 0) := by
  obtain ⟨h1, h2, h3⟩ := (vl_iff l).1 h
  have h0 := gd_nonneg h2
  obtain ⟨k1, k2⟩ := sl_two l [] 0 at' (lg l) h2 (Int.le_refl _) (by omega)
  have e1 : lg (sl 0 l 0 at') + lg (sl 0 l at' (lg l)) = lg l := by
    have e2 : jn (sl 0 l 0 at' ++ sl 0 l at' (lg l)) = jn l := k1
    have e3 := jn_lg (sl 0 l 0 at' ++ sl 0 l at' (lg l))
    rw [e2, jn_lg, lg_append] at e3
    exact e3.symm
  rw [lgV_yes h]
  have hv := And.intro (slV_vl l 0 at') (slV_vl l at' (lg l))
  have g1 : lgV (slV l 0 at') = lg (sl 0 l 0 at') := by rw [lgV_yes hv.1, slV_yes h]
  have g2 : lgV (slV l at' (lg l)) = lg (sl 0 l at' (lg l)) := by rw [lgV_yes hv.2, slV_yes h]
  rw [jnR_0 hv (by rw [slV_yes h, slV_yes h]; omega) (by rw [g1, g2]; omega), slV_yes h, slV_yes h, cl_yes h]
  unfold jn
  rw [k1]

/-! Edges. -/
def eg : Int → List Rn → List Int
  | _, [] => []
  | b, r :: l => b :: eg (b + r.2) l
theorem eg_cons (b : Int) (r : Rn) (l : List Rn) : eg b (r :: l) = b :: eg (b + r.2) l := rfl
theorem eg_snoc (b : Int) (l : List Rn) (r : Rn) : eg b (l ++ [r]) = eg b l ++ [b + lg l] := by
  induction l generalizing b with
  | nil => simp [eg, lg]
  | cons x l ih =>
    have e : lg (x :: l) = x.2 + lg l := rfl
    rw [List.cons_append, eg_cons, eg_cons, ih, e, List.cons_append, Int.add_assoc]
theorem eg_len (b : Int) (l : List Rn) : (eg b l).length = l.length := by
  induction l generalizing b with
  | nil => rfl
  | cons r l ih => rw [eg_cons, List.length_cons, List.length_cons, ih]
def es (c : List Rn) : List Int := (eg 0 c).drop 1
theorem es_zero (c : List Rn) (h : 0 < c.length) : es (c.take (0 + 1)) = es (c.take 0) := by
  cases c with
  | nil => simp at h
  | cons r c => rfl
theorem es_succ (c : List Rn) (j : Nat) (hj : j < c.length) (h0 : 0 < j) : es (c.take (j + 1)) = es (c.take j) ++ [lg (c.take j)] := by
  unfold es
  rw [List.take_succ_eq_append_getElem hj, eg_snoc, Int.zero_add, List.drop_append_of_le_length (by rw [eg_len, List.length_take]; omega)]
theorem es_len (c : List Rn) : (es c).length = c.length - 1 := by unfold es; rw [List.length_drop, eg_len]
theorem es_len_take (c : List Rn) (j : Nat) : (es (c.take j)).length ≤ c.length := by rw [es_len, List.length_take]; omega

/-! From edges. -/
def le' : Int → List Int → Int
  | b, [] => b
  | _, e :: q => le' e q
def lv : Int → List Int → Int
  | v, [] => v
  | v, _ :: q => lv (1 - v) q
def fp : Int → Int → List Int → List Rn
  | _, _, [] => []
  | v, b, e :: q => (v, e - b) :: fp (1 - v) e q
def oe : Int → List Int → Int → Bool
  | _, [], _ => true
  | b, e :: q, n => decide (b < e) && decide (e < n) && oe e q n
theorem le_snoc (q : List Int) (b e : Int) : le' b (q ++ [e]) = e := by
  induction q generalizing b with
  | nil => rfl
  | cons x q ih => exact ih x
theorem lv_snoc (q : List Int) (v e : Int) : lv v (q ++ [e]) = 1 - lv v q := by
  induction q generalizing v with
  | nil => rfl
  | cons x q ih => exact ih (1 - v)
theorem fp_snoc (q : List Int) (v b e : Int) : fp v b (q ++ [e]) = fp v b q ++ [(lv v q, e - le' b q)] := by
  induction q generalizing v b with
  | nil => rfl
  | cons x q ih => show _ :: fp (1 - v) x (q ++ [e]) = _; rw [ih]; rfl
theorem oe_snoc (q : List Int) (b e n : Int) : oe b (q ++ [e]) n = (oe b q n && (decide (le' b q < e) && decide (e < n))) := by
  induction q generalizing b with
  | nil => show (decide (b < e) && decide (e < n) && true) = (true && (decide (b < e) && decide (e < n))); rw [Bool.and_true, Bool.true_and]
  | cons x q ih => show (_ && oe x (q ++ [e]) n) = _; rw [ih, ← Bool.and_assoc]; rfl
theorem oe_append (q p : List Int) (b n : Int) (h : oe b (q ++ p) n = true) : oe b q n = true := by
  induction q generalizing b with
  | nil => rfl
  | cons x q ih =>
    have h' : (decide (b < x) && decide (x < n) && oe x (q ++ p) n) = true := h
    rw [Bool.and_eq_true] at h'
    show (decide (b < x) && decide (x < n) && oe x q n) = true
    rw [Bool.and_eq_true]
    exact ⟨h'.1, ih x h'.2⟩
theorem lv_one (q : List Int) (v : Int) (h : v = 0 ∨ v = 1) : lv v q = 0 ∨ lv v q = 1 := by
  induction q generalizing v with
  | nil => exact h
  | cons x q ih => exact ih (1 - v) (by omega)
theorem le_range (q : List Int) (b n : Int) (h : oe b q n = true) (hb : b ≤ n) : b ≤ le' b q ∧ le' b q ≤ n := by
  induction q generalizing b with
  | nil => exact ⟨Int.le_refl _, hb⟩
  | cons x q ih =>
    have h' : (decide (b < x) && decide (x < n) && oe x q n) = true := h
    rw [Bool.and_eq_true, Bool.and_eq_true, decide_eq_true_eq, decide_eq_true_eq] at h'
    have := ih x h'.2 (by omega)
    show b ≤ le' x q ∧ le' x q ≤ n
    omega
theorem fp_len (q : List Int) (v b : Int) : (fp v b q).length = q.length := by
  induction q generalizing v b with
  | nil => rfl
  | cons x q ih => show (fp (1 - v) x q).length + 1 = _; rw [ih]; rfl
/-- The whole wave. -/
def fe (v b : Int) (q : List Int) (n : Int) : List Rn := fp v b q ++ (if le' b q < n then [(lv v q, n - le' b q)] else [])
def feR (v : Int) (q : List Int) (n : Int) : List Rn × Int :=
  if ¬ (v = 0 ∨ v = 1) then ([], 1)
  else if n < 0 ∨ 1099511627776 < n then ([], 2)
  else if 262144 ≤ q.length then ([], 6)
  else if oe 0 q n = true then (fe v 0 q n, 0) else ([], 7)
theorem feR_1 {v n : Int} {q : List Int} (h : ¬ (v = 0 ∨ v = 1)) : feR v q n = ([], 1) := by unfold feR; rw [if_pos h]
theorem feR_2 {v n : Int} {q : List Int} (h : v = 0 ∨ v = 1) (h2 : n < 0 ∨ 1099511627776 < n) : feR v q n = ([], 2) := by unfold feR; rw [if_neg (fun x => x h), if_pos h2]
theorem feR_6 {v n : Int} {q : List Int} (h : v = 0 ∨ v = 1) (h2 : ¬ (n < 0 ∨ 1099511627776 < n)) (h6 : 262144 ≤ q.length) : feR v q n = ([], 6) := by unfold feR; rw [if_neg (fun x => x h), if_neg h2, if_pos h6]
theorem feR_7 {v n : Int} {q : List Int} (h : v = 0 ∨ v = 1) (h2 : ¬ (n < 0 ∨ 1099511627776 < n)) (h6 : ¬ 262144 ≤ q.length) (h7 : oe 0 q n = false) : feR v q n = ([], 7) := by unfold feR; rw [if_neg (fun x => x h), if_neg h2, if_neg h6, if_neg (by rw [h7]; exact Bool.false_ne_true)]
theorem feR_0 {v n : Int} {q : List Int} (h : v = 0 ∨ v = 1) (h2 : ¬ (n < 0 ∨ 1099511627776 < n)) (h6 : ¬ 262144 ≤ q.length) (h7 : oe 0 q n = true) : feR v q n = (fe v 0 q n, 0) := by unfold feR; rw [if_neg (fun x => x h), if_neg h2, if_neg h6, if_pos h7]
theorem fe_len (v b : Int) (q : List Int) (n : Int) : (fe v b q n).length ≤ q.length + 1 := by
  unfold fe
  rw [List.length_append, fp_len]
  split <;> simp
theorem feR_len (v : Int) (q : List Int) (n : Int) : (feR v q n).1.length ≤ 262144 := by
  unfold feR
  split
  · simp
  · split
    · simp
    · split
      · simp
      · rename_i h
        split
        · have := fe_len v 0 q n
          show (fe v 0 q n).length ≤ 262144
          omega
        · simp
theorem oe_take {q : List Int} {j : Nat} (hj : j < q.length) {n : Int} (h : oe 0 (q.take j) n = true) : oe 0 (q.take (j + 1)) n = (decide (le' 0 (q.take j) < q[j]) && decide (q[j] < n)) := by
  rw [List.take_succ_eq_append_getElem hj, oe_snoc, h, Bool.true_and]
theorem oe_bad {q : List Int} {j : Nat} {n : Int} (h : oe 0 (q.take j) n = false) : oe 0 q n = false := by
  cases hq : oe 0 q n with
  | false => rfl
  | true =>
    rw [show q = q.take j ++ q.drop j from (List.take_append_drop _ _).symm] at hq
    rw [oe_append _ _ _ _ hq] at h
    exact h
theorem le_take {q : List Int} {j : Nat} (hj : j < q.length) (b : Int) : le' b (q.take (j + 1)) = q[j] := by
  rw [List.take_succ_eq_append_getElem hj, le_snoc]
theorem lv_take {q : List Int} {j : Nat} (hj : j < q.length) (v : Int) : lv v (q.take (j + 1)) = 1 - lv v (q.take j) := by
  rw [List.take_succ_eq_append_getElem hj, lv_snoc]
theorem fp_take {q : List Int} {j : Nat} (hj : j < q.length) (v : Int) : fp v 0 (q.take (j + 1)) = fp v 0 (q.take j) ++ [(lv v (q.take j), q[j] - le' 0 (q.take j))] := by
  rw [List.take_succ_eq_append_getElem hj, fp_snoc]

/-- P8.7: a wave out of its first level, its edges, its length. -/
theorem fe_cons (v b e : Int) (q : List Int) (n : Int) : fe v b (e :: q) n = (v, e - b) :: fe (1 - v) e q n := rfl
theorem fe_eg (c : List Rn) (r : Rn) (b n : Int) (hg : gd (r :: c)) (ha : al (r :: c)) (hn : n = b + lg (r :: c)) :
    fe r.1 b (eg (b + r.2) c) n = r :: c ∧ oe b (eg (b + r.2) c) n = true := by
  induction c generalizing r b with
  | nil =>
    have h1 := (gd_cons.1 hg).1
    have e : lg [r] = r.2 := lg_one r
    rw [e] at hn
    refine ⟨?_, rfl⟩
    show fp r.1 b [] ++ (if le' b [] < n then [(lv r.1 [], n - le' b [])] else []) = [r]
    show [] ++ (if b < n then [(r.1, n - b)] else []) = [r]
    rw [if_pos (by omega), show n - b = r.2 by omega]
    rfl
  | cons s c ih =>
    have h1 := (gd_cons.1 hg)
    have h2 := gd_cons.1 h1.2
    have h3 := al_cons.1 ha
    have hn1 := gd_nonneg h2.2
    have e1 : lg (r :: s :: c) = r.2 + (s.2 + lg c) := rfl
    have e2 : lg (s :: c) = s.2 + lg c := rfl
    rw [e1] at hn
    obtain ⟨i1, i2⟩ := ih s (b + r.2) h1.2 h3.2 (by rw [e2]; omega)
    rw [eg_cons, fe_cons]
    have e3 : s.1 = 1 - r.1 := by
      have := h1.1.1; have := h2.1.1; have := h3.1
      omega
    rw [← e3, i1]
    refine ⟨by rw [show b + r.2 - b = r.2 by omega], ?_⟩
    show (decide (b < b + r.2) && decide (b + r.2 < n) && oe (b + r.2) (eg (b + r.2 + s.2) c) n) = true
    rw [i2, decide_eq_true (by omega), decide_eq_true (by omega)]; rfl
theorem atv_zero (r : Rn) (c : List Rn) (h : 1 ≤ r.2) : atv (r :: c) 0 = (r.1, true) := by rw [atv_cons, if_pos (by omega)]
theorem again {l : List Rn} (h : vl l = true) (h0 : l ≠ []) : (atV l 0).2 = true ∧ feR (atV l 0).1 (es (cl l)) (lgV l) = (cl l, 0) := by
  obtain ⟨h1, h2, h3⟩ := (vl_iff l).1 h
  have hp := jn_pos h0
  have hg := jn_gd h2
  have ha := jn_al l
  have hl := jn_lg l
  have hlen := jn_len l
  rw [← cl_at, cl_yes h, lgV_yes h, atV_yes (jn_vl h) (Int.le_refl _)]
  match jn l, hp, hg, ha, hl, hlen with
  | r :: c, _, hg, ha, hl, hlen =>
    have g1 := (gd_cons.1 hg).1
    rw [atv_zero r c g1.2]
    refine ⟨rfl, ?_⟩
    obtain ⟨i1, i2⟩ := fe_eg c r 0 (lg l) hg ha (by rw [hl]; omega)
    have e : es (r :: c) = eg (0 + r.2) c := rfl
    have hn0 := gd_nonneg hg
    rw [hl] at hn0
    rw [feR_0 g1.1 (by omega) (by rw [es_len, List.length_cons]; simp only [List.length_cons] at hlen; omega) (by rw [e]; exact i2), e]
    show (fe r.1 0 (eg (0 + r.2) c) (lg l), _) = _
    rw [i1]

end Go.Proofs.Ytgihljconpijaaa

namespace Go.Proofs.Ytgihljconpijaaa
open Go Go.ChangeShapes Go.WideShapes Go.ChangeAt Go.RowKit

section
variable {H : Type} {enc : TypeId × Value → H} {P : Program} {w : World} {b0 base : Nat} {spare : Nat → Bool} {held : Bool} {r : Reach} {t : TypeId} {v : Value} {d : DataW H} {p : List MemPlace}

theorem okWide_arr {n : Nat} {e : TypeId} (ht : P.underlying t = some (.array n e)) (h : Value.okWide P w r b0 t v) : ∃ cs, v = .agg cs ∧ cs.size = P.cellsOf t := by
  simp only [Value.okWide, ht] at h
  obtain ⟨cs, h1, h2, _⟩ := h
  exact ⟨cs, h1, h2⟩
/-- A struct of one-cell fields. -/
theorem open_struct {fs : Array Field} (hs : P.underlying t = some (.struct fs)) (hv : Value.okWide P w r b0 t v) (h : DataW.Trod enc P w base spare held t v d p) :
    ∃ (cs : Array Value) (n : Nat), v = .agg cs ∧ cs.size = P.cellsOf t ∧ ∀ (i : Nat) (f : Field), fs[i]? = some f → P.cellsOf f.type = 1 → f.offset < cs.size → ∃ y, DataW.trod enc P w base spare held n f.type [cs.getD f.offset default] = some y := by
  obtain ⟨cs, rfl, hsz⟩ := okWide_struct hs hv
  obtain ⟨fuel, hf⟩ := h
  obtain ⟨xs, n, rfl, _, _, hl, hx⟩ := DataW.trod_struct hs hf
  refine ⟨cs, n, rfl, hsz, fun i f hi h1 ho => ?_⟩
  have hlt : i < fs.size := (Array.getElem?_eq_some_iff.1 hi).1
  have h2 := hx i f hi
  have h3 : i < xs.length := by omega
  rw [h1, List.getElem?_eq_getElem h3] at h2
  refine ⟨xs[i], ?_⟩
  rw [← h2]
  congr 1
  have e : (Value.agg cs).cells.toList = cs.toList := rfl
  rw [e]
  apply List.ext_getElem?
  intro j
  rw [List.getElem?_take, List.getElem?_drop]
  cases j with
  | zero => simp [ho]
  | succ j => simp
/-- An array of one-cell elements. -/
theorem open_arr {k : Nat} {e : TypeId} (hs : P.underlying t = some (.array k e)) (h1 : P.cellsOf e = 1) (hv : Value.okWide P w r b0 t v) (h : DataW.Trod enc P w base spare held t v d p) :
    ∃ (cs : Array Value) (n : Nat), v = .agg cs ∧ cs.size = P.cellsOf t ∧ ∀ i, i < k → i < cs.size → ∃ y, DataW.trod enc P w base spare held n e [cs.getD i default] = some y := by
  obtain ⟨cs, rfl, hsz⟩ := okWide_arr hs hv
  obtain ⟨fuel, hf⟩ := h
  obtain ⟨xs, n, rfl, _, _, hl, hx⟩ := DataW.trod_array hs hf
  refine ⟨cs, n, rfl, hsz, fun i hi ho => ?_⟩
  have h2 := hx i hi
  have h3 : i < xs.length := by omega
  rw [h1, Nat.mul_one, List.getElem?_eq_getElem h3] at h2
  refine ⟨xs[i], ?_⟩
  rw [← h2]
  congr 1
  have e : (Value.agg cs).cells.toList = cs.toList := rfl
  rw [e]
  apply List.ext_getElem?
  intro j
  rw [List.getElem?_take, List.getElem?_drop]
  cases j with
  | zero => simp [ho]
  | succ j => simp
end

theorem arr2 {cs : Array Value} (h : cs.size = 2) : cs = #[cs.getD 0 default, cs.getD 1 default] := by
  obtain ⟨l⟩ := cs
  match l, h with
  | [a, b], _ => rfl
theorem arr3 {cs : Array Value} (h : cs.size = 3) : cs = #[cs.getD 0 default, cs.getD 1 default, cs.getD 2 default] := by
  obtain ⟨l⟩ := cs
  match l, h with
  | [a, b, c], _ => rfl
theorem arr4 {cs : Array Value} (h : cs.size = 4) : cs = #[cs.getD 0 default, cs.getD 1 default, cs.getD 2 default, cs.getD 3 default] := by
  obtain ⟨l⟩ := cs
  match l, h with
  | [a, b, c, d], _ => rfl
theorem arr5 {cs : Array Value} (h : cs.size = 5) : cs = #[cs.getD 0 default, cs.getD 1 default, cs.getD 2 default, cs.getD 3 default, cs.getD 4 default] := by
  obtain ⟨l⟩ := cs
  match l, h with
  | [a, b, c, d, e], _ => rfl

end Go.Proofs.Ytgihljconpijaaa

namespace Go.Proofs.Ytgihljconpijaaa
open Go Go.ChangeShapes Go.WideShapes Go.ChangeAt Go.RowKit
set_option linter.unusedVariables false

section
variable {H : Type} {enc : TypeId × Value → H} {P : Program} {w : World} {b0 : Nat} {r : Reach} {t : TypeId} {v : Value} {d : DataW H} {p : List MemPlace}

theorem weights_all {e : TypeId} {d : DataW H} {n : Nat} (hn : n ∈ d.weights P e) : ∀ {l : List (DataW H)}, d ∈ l → n ∈ DataW.weightsAll P e l
  | x :: l, h => by
    simp only [DataW.weightsAll, List.mem_append]
    rcases List.mem_cons.1 h with rfl | h
    · exact .inl hn
    · exact .inr (weights_all hn h)
theorem weights_elem {t e : TypeId} {es sp : List (DataW H)} {d : DataW H} {n : Nat} (ht : P.underlying t = some (.slice e)) (hd : d ∈ es) (hn : n ∈ d.weights P e) : n ∈ (DataW.slice es sp).weights P t := by
  simp only [DataW.weights, ht, List.mem_cons, List.mem_append]
  exact .inr (.inl (weights_all hn hd))
theorem weights_part {e : TypeId} {fs : Array Field} {ys : List (DataW H)} {d : DataW H} {f : Field} {i n : Nat} (ht : P.underlying e = some (.struct fs)) (hf : fs[i]? = some f) (hd : ys[i]? = some d) (hn : n ∈ d.weights P f.type) : n ∈ (DataW.agg ys).weights P e := by
  simp only [DataW.weights, ht]
  exact DataW.weights_mem_each (j := i) (t := f.type) (by simp [Array.getElem?_toList, hf]) hd n hn

/-- A slice of structs. -/
theorem open_rows {t e : TypeId} {fs : Array Field} {m : Nat} (ht : P.underlying t = some (.slice e)) (he : P.underlying e = some (.struct fs)) (hc : P.cellsOf e = m) (hpos : 0 < m)
    (hv : Value.okWide P w r b0 t v) (h : DataW.Trod enc P w 0 (fun _ => true) true t v d p) :
    ∃ (A : Option Addr) (len cap : Nat), v = .slice A len cap ∧ len ≤ cap ∧ (A = none → cap = 0) ∧
      (0 < len → ∃ (g o : Nat) (es sp : List (DataW H)), A = some ⟨g, o, none⟩ ∧ g < w.heap.size ∧ d = .slice es sp ∧ es.length = len ∧
        ∀ j, j < len → ∃ (cs : List Value) (ys : List (DataW H)) (n : Nat), cs.length = m ∧ (∀ i, i < m → w.cell? ⟨g, o + j * m + i, none⟩ = cs[i]?) ∧ es[j]? = some (.agg ys) ∧
          ∀ (i : Nat) (f : Field), fs[i]? = some f → P.cellsOf f.type = 1 → f.offset < m → ∃ c y q, cs[f.offset]? = some c ∧ ys[i]? = some y ∧ DataW.trod enc P w 0 (fun _ => true) true n f.type [c] = some (y, q)) := by
  obtain ⟨A, n0, c0, rfl⟩ := okWide_slice ht hv
  obtain ⟨fuel, hf⟩ := h
  rcases Go.Deep.open_slice ht hf with ⟨h1, h2⟩ | ⟨a, len, cap, m', n, D, Pl, h1, hb, hl, hm, hmm, h2, hx⟩
  · simp only [Value.cells, List.cons.injEq, Value.slice.injEq, and_true] at h1
    obtain ⟨rfl, rfl, rfl⟩ := h1
    exact ⟨none, 0, 0, rfl, Nat.le_refl _, fun _ => rfl, fun h => absurd h (by omega)⟩
  · simp only [Value.cells, List.cons.injEq, Value.slice.injEq, and_true] at h1
    obtain ⟨rfl, rfl, rfl⟩ := h1
    simp only [Prod.mk.injEq] at h2
    refine ⟨some a, n0, c0, rfl, hl, fun h => (by cases h), fun h0 => ?_⟩
    rw [hc] at hx
    simp only [if_true] at hmm
    have key : ∀ j, j < n0 → ∃ cs', w.cells? 0 (a.add (j * m)) m = some cs' ∧ DataW.trod enc P w 0 (fun _ => true) true n e cs' = some (D j, Pl j) := fun j hj => hx j (by omega)
    have hspot : a.spot = none := by
      obtain ⟨cs', k1, _⟩ := key 0 h0
      obtain ⟨_, hlen, hcell⟩ := World.cells?_some k1
      have h1 := hcell 0 hpos
      rw [List.getElem?_eq_getElem (by omega)] at h1
      simpa [Addr.add] using World.cell?_spot h1
    obtain ⟨g, o, s⟩ := a
    simp only at hspot
    subst hspot
    have cellAt : ∀ j, j < n0 → ∀ cs' : List Value, w.cells? 0 ((⟨g, o, none⟩ : Addr).add (j * m)) m = some cs' → cs'.length = m ∧ ∀ i, i < m → w.cell? ⟨g, o + j * m + i, none⟩ = cs'[i]? := by
      intro j hj cs' k1
      obtain ⟨_, hlen, hcell⟩ := World.cells?_some k1
      refine ⟨hlen, fun i hi => ?_⟩
      have h1 := hcell i hi
      rwa [Go.Deep.add_add, Addr.add_lit, ← Nat.add_assoc] at h1
    obtain ⟨cs0, k0, _⟩ := key 0 h0
    obtain ⟨l0, q0⟩ := cellAt 0 h0 cs0 k0
    have q00 := q0 0 hpos
    rw [List.getElem?_eq_getElem (by omega)] at q00
    refine ⟨g, o, _, _, rfl, World.block_lt_of_cell? w _ q00, h2.1, by simp, fun j hj => ?_⟩
    obtain ⟨cs', k1, k2⟩ := key j hj
    obtain ⟨lj, qj⟩ := cellAt j hj cs' k1
    obtain ⟨xs, n', rfl, hx', _, hl', hfd⟩ := DataW.trod_struct he k2
    simp only [Prod.mk.injEq] at hx'
    refine ⟨cs', xs.map (·.1), n', lj, qj, by rw [List.getElem?_map, List.getElem?_range hj]; simp [hx'.1], fun i f hi h1 ho => ?_⟩
    have hlt : i < fs.size := (Array.getElem?_eq_some_iff.1 hi).1
    have h3 := hfd i f hi
    have h4 : i < xs.length := by omega
    rw [h1, List.getElem?_eq_getElem h4] at h3
    refine ⟨cs'[f.offset]'(by omega), xs[i].1, xs[i].2, List.getElem?_eq_getElem _, by rw [List.getElem?_map, List.getElem?_eq_getElem h4]; rfl, ?_⟩
    rw [← Prod.eta xs[i]] at h3
    rw [← h3]
    congr 1
    apply List.ext_getElem?
    intro k
    rw [List.getElem?_take, List.getElem?_drop]
    cases k with
    | zero => simp [List.getElem?_eq_getElem (show f.offset < cs'.length by omega)]
    | succ k => simp
end

end Go.Proofs.Ytgihljconpijaaa

namespace Go.Proofs.Ytgihljconpijaaa
set_option linter.unusedVariables false
set_option linter.unusedSimpArgs false

/-- A clean list is made of its levels alone. -/
theorem al_unique {a b : List Rn} (ha : al a) (pa : gd a) (hb : al b) (pb : gd b) (h : ∀ k, 0 ≤ k → atv a k = atv b k) : a = b := by
  induction a generalizing b with
  | nil =>
    cases b with
    | nil => rfl
    | cons s b =>
      rw [gd_cons] at pb
      have := h 0 (by omega)
      rw [atv_cons, if_pos (by omega)] at this
      have := congrArg Prod.snd this
      exact absurd this (by simp [atv])
  | cons r a ih =>
    rw [gd_cons] at pa
    cases b with
    | nil =>
      have := h 0 (by omega)
      rw [atv_cons, if_pos (by omega)] at this
      have := congrArg Prod.snd this
      exact absurd this (by simp [atv])
    | cons s b =>
      rw [gd_cons] at pb
      have e0 := h 0 (by omega)
      rw [atv_cons, if_pos (by omega), atv_cons, if_pos (by omega)] at e0
      have e1 : r.1 = s.1 := (Prod.mk.inj e0).1
      have key : ∀ (x y : Rn) (u v : List Rn), al (x :: u) → gd u → x.1 = y.1 → 1 ≤ x.2 → x.2 < y.2 → (∀ k, 0 ≤ k → atv (x :: u) k = atv (y :: v) k) → False := by
        intro x y u v hu pu exy hx hlt hh
        have e2 := hh x.2 (by omega)
        rw [atv_cons, if_neg (by omega), atv_cons, if_pos hlt] at e2
        cases u with
        | nil => have := congrArg Prod.snd e2; exact absurd this (by simp [atv])
        | cons z u =>
          rw [gd_cons] at pu
          rw [atv_cons, if_pos (by omega)] at e2
          have e3 : z.1 = y.1 := (Prod.mk.inj e2).1
          exact (al_cons.1 hu).1 (by rw [exy, e3])
      have e2 : r.2 = s.2 := by
        rcases Int.lt_trichotomy r.2 s.2 with c | c | c
        · exact absurd (key r s a b ha pa.2 e1 pa.1.2 c h) id
        · exact c
        · exact absurd (key s r b a hb pb.2 e1.symm pb.1.2 c (fun k hk => (h k hk).symm)) id
      have e3 : r = s := Prod.ext e1 e2
      subst e3
      rw [ih (al_tail ha) pa.2 (al_tail hb) pb.2 fun k hk => ?_]
      have e4 := h (k + r.2) (by omega)
      rw [atv_cons, if_neg (by omega), atv_cons, if_neg (by omega)] at e4
      rw [show k + r.2 - r.2 = k by omega] at e4
      exact e4
theorem atv_end {l : List Rn} {k : Int} (hl : gd l) (hk : lg l ≤ k) : atv l k = (-1, false) := by
  induction l generalizing k with
  | nil => rfl
  | cons r l ih =>
    rw [gd_cons] at hl
    have e : lg (r :: l) = r.2 + lg l := rfl
    have := gd_nonneg hl.2
    rw [e] at hk
    rw [atv_cons, if_neg (by omega), ih hl.2 (by omega)]
/-- Clean lists of the same levels up to the same end. -/
theorem al_same {a b : List Rn} {n : Int} (ha : al a) (pa : gd a) (la : lg a = n) (hb : al b) (pb : gd b) (lb : lg b = n) (h : ∀ k, 0 ≤ k → k < n → atv a k = atv b k) : a = b :=
  al_unique ha pa hb pb fun k hk => by
    by_cases hn : k < n
    · exact h k hk hn
    · rw [atv_end pa (by omega), atv_end pb (by omega)]

/-! Filtered. -/
def flP (k : Int) : List Rn → List Rn
  | [] => []
  | [a] => [a]
  | [a, b] => [a, b]
  | a :: b :: c :: t => if b.2 < k then flP k ((a.1, a.2 + b.2 + c.2) :: t) else a :: flP k (b :: c :: t)
termination_by l => l.length
theorem flP_nil (k : Int) : flP k [] = [] := by unfold flP; rfl
theorem flP_one (k : Int) (a : Rn) : flP k [a] = [a] := by unfold flP; rfl
theorem flP_two (k : Int) (a b : Rn) : flP k [a, b] = [a, b] := by unfold flP; rfl
theorem flP_short {k : Int} {a b c : Rn} {t : List Rn} (h : b.2 < k) : flP k (a :: b :: c :: t) = flP k ((a.1, a.2 + b.2 + c.2) :: t) := by rw [flP, if_pos h]
theorem flP_long {k : Int} {a b c : Rn} {t : List Rn} (h : ¬ b.2 < k) : flP k (a :: b :: c :: t) = a :: flP k (b :: c :: t) := by rw [flP, if_neg h]
/-- How many runs that have one behind them are too short. -/
def cn (k : Int) : List Rn → Nat
  | [] => 0
  | [_] => 0
  | x :: y :: t => (if x.2 < k then 1 else 0) + cn k (y :: t)
theorem cn_nil (k : Int) : cn k [] = 0 := rfl
theorem cn_one (k : Int) (a : Rn) : cn k [a] = 0 := rfl
theorem cn_cons (k : Int) (x y : Rn) (t : List Rn) : cn k (x :: y :: t) = (if x.2 < k then 1 else 0) + cn k (y :: t) := rfl
theorem cn_drop (k : Int) (l : List Rn) (j : Nat) (h : j + 1 < l.length) : cn k (l.drop j) = (if l[j].2 < k then 1 else 0) + cn k (l.drop (j + 1)) := by
  rw [List.drop_eq_getElem_cons (show j < l.length by omega), List.drop_eq_getElem_cons h, cn_cons]
theorem cn_end (k : Int) (l : List Rn) (j : Nat) (h : l.length ≤ j + 1) : cn k (l.drop j) = 0 := by
  rcases Nat.lt_or_ge j l.length with h1 | h1
  · rw [List.drop_eq_getElem_cons h1, List.drop_of_length_le h]; rfl
  · rw [List.drop_of_length_le h1]; rfl
theorem cn_le (k : Int) (l : List Rn) : cn k l ≤ l.length := by
  induction l with
  | nil => exact Nat.le_refl _
  | cons x l ih =>
    cases l with
    | nil => exact Nat.zero_le _
    | cons y l => rw [cn_cons, List.length_cons]; split <;> omega
theorem cn_zero {k : Int} {l : List Rn} : cn k l = 0 ↔ ∀ (j : Nat) (h : j + 1 < l.length), ¬ l[j].2 < k := by
  induction l with
  | nil => exact ⟨fun _ j h => absurd h (by simp), fun _ => rfl⟩
  | cons x l ih =>
    cases l with
    | nil => exact ⟨fun _ j h => absurd h (by simp), fun _ => rfl⟩
    | cons y l =>
      rw [cn_cons]
      constructor
      · intro h j hj
        have h1 : ¬ x.2 < k := by intro e; rw [if_pos e] at h; omega
        rw [if_neg h1, Nat.zero_add] at h
        cases j with
        | zero => exact h1
        | succ j => exact ih.1 h j (by simpa using hj)
      · intro h
        have h0 : ¬ x.2 < k := h 0 (by simp)
        rw [if_neg h0, Nat.zero_add]
        exact ih.2 fun j hj => h (j + 1) (by simpa using hj)
theorem flP_all (k : Int) : ∀ (n : Nat) (a : Rn) (r : List Rn), r.length ≤ n → al (a :: r) → gd (a :: r) →
    ∃ h t, flP k (a :: r) = h :: t ∧ h.1 = a.1 ∧ a.2 ≤ h.2 ∧ al (h :: t) ∧ gd (h :: t) ∧ lg (h :: t) = lg (a :: r) ∧ t.length ≤ r.length ∧ cn k t = 0 := by
  intro n
  induction n with
  | zero =>
    intro a r hr ha hg
    have : r = [] := List.eq_nil_of_length_eq_zero (by omega)
    subst this
    exact ⟨a, [], flP_one k a, rfl, Int.le_refl _, ha, hg, rfl, Nat.le_refl _, rfl⟩
  | succ n ih =>
    intro a r hr ha hg
    match r, hr, ha, hg with
    | [], _, ha, hg => exact ⟨a, [], flP_one k a, rfl, Int.le_refl _, ha, hg, rfl, Nat.le_refl _, rfl⟩
    | [b], _, ha, hg => exact ⟨a, [b], flP_two k a b, rfl, Int.le_refl _, ha, hg, rfl, Nat.le_refl _, rfl⟩
    | b :: c :: t, hr, ha, hg =>
      simp only [List.length_cons] at hr
      have g1 := gd_cons.1 hg
      have g2 := gd_cons.1 g1.2
      have g3 := gd_cons.1 g2.2
      have a1 := al_cons.1 ha
      have a2 := al_cons.1 a1.2
      by_cases hb : b.2 < k
      · have eca : c.1 = a.1 := by have := g1.1.1; have := g2.1.1; have := g3.1.1; have := a1.1; have := a2.1; omega
        have al' : al ((a.1, a.2 + b.2 + c.2) :: t) := by
          cases t with
          | nil => exact al_one _
          | cons d t => exact al_cons.2 ⟨by show a.1 ≠ d.1; rw [← eca]; exact (al_cons.1 a2.2).1, (al_cons.1 a2.2).2⟩
        have gd' : gd ((a.1, a.2 + b.2 + c.2) :: t) := gd_cons.2 ⟨⟨g1.1.1, by show 1 ≤ a.2 + b.2 + c.2; omega⟩, g3.2⟩
        obtain ⟨h, t', e, e1, e2, e3, e4, e5, e6, e7⟩ := ih _ _ (by omega) al' gd'
        refine ⟨h, t', by rw [flP_short hb, e], e1, by have : a.2 + b.2 + c.2 ≤ h.2 := e2; omega, e3, e4, ?_, by simp only [List.length_cons]; omega, e7⟩
        rw [e5]
        show a.2 + b.2 + c.2 + lg t = a.2 + (b.2 + (c.2 + lg t))
        omega
      · obtain ⟨h, t', e, e1, e2, e3, e4, e5, e6, e7⟩ := ih b (c :: t) (by simp only [List.length_cons]; omega) a1.2 g1.2
        refine ⟨a, h :: t', by rw [flP_long hb, e], rfl, Int.le_refl _, al_cons.2 ⟨by rw [e1]; exact a1.1, e3⟩, gd_cons.2 ⟨g1.1, e4⟩, ?_, by simp only [List.length_cons] at e6 ⊢; omega, ?_⟩
        · show a.2 + lg (h :: t') = a.2 + lg (b :: c :: t)
          rw [e5]
        · cases t' with
          | nil => rfl
          | cons y t' => rw [cn_cons, if_neg (by omega), e7]
theorem flP_id (k : Int) : ∀ (l : List Rn), cn k (l.drop 1) = 0 → flP k l = l := by
  intro l
  induction l with
  | nil => intro _; exact flP_nil k
  | cons a l ih =>
    intro h
    match l, ih, h with
    | [], _, _ => exact flP_one k a
    | [b], _, _ => exact flP_two k a b
    | b :: c :: t, ih, h =>
      rw [List.drop_one, List.tail_cons, cn_cons] at h
      have hb : ¬ b.2 < k := by intro e; rw [if_pos e] at h; omega
      rw [flP_long hb, ih (by rw [List.drop_one, List.tail_cons]; omega)]
/-- What lies ahead of the first one that is too short is kept. -/
theorem flP_pre (k : Int) : ∀ (P : List Rn) (z : Rn) (t : List Rn), (∀ x ∈ P.drop 1, ¬ x.2 < k) → (P ≠ [] → ¬ z.2 < k) → flP k (P ++ z :: t) = P ++ flP k (z :: t) := by
  intro P
  induction P with
  | nil => intro z t _ _; rfl
  | cons a P ih =>
    intro z t hP hz
    have hz' := hz (by simp)
    rw [List.drop_one, List.tail_cons] at hP
    cases P with
    | nil =>
      cases t with
      | nil => show flP k [a, z] = [a] ++ flP k [z]; rw [flP_two, flP_one]; rfl
      | cons c t => show flP k (a :: z :: c :: t) = a :: flP k (z :: c :: t); rw [flP_long hz']
    | cons b P =>
      have hb := hP b (by simp)
      obtain ⟨c, t', e⟩ : ∃ c t', P ++ z :: t = c :: t' := by cases P <;> exact ⟨_, _, rfl⟩
      have i := ih z t (fun x hx => hP x (by rw [List.drop_one, List.tail_cons] at hx; exact List.mem_cons_of_mem _ hx)) (fun _ => hz')
      show flP k (a :: b :: (P ++ z :: t)) = a :: (b :: P ++ flP k (z :: t))
      rw [← i]
      show flP k (a :: b :: (P ++ z :: t)) = a :: flP k (b :: (P ++ z :: t))
      rw [e, flP_long hb]
theorem flP_len (k : Int) (l : List Rn) (ha : al l) (hg : gd l) : (flP k l).length ≤ l.length := by
  cases l with
  | nil => rw [flP_nil]; exact Nat.le_refl _
  | cons a r =>
    obtain ⟨h, t, e, _, _, _, _, _, e6, _⟩ := flP_all k _ a r (Nat.le_refl _) ha hg
    rw [e, List.length_cons, List.length_cons]; omega
/-- A filtered wave: clean, as long, without short pulses. -/
theorem flP_good (k : Int) {l : List Rn} (hv : vl l = true) : vl (flP k (cl l)) = true ∧ al (flP k (cl l)) ∧ lg (flP k (cl l)) = lg l ∧ cn k ((flP k (cl l)).drop 1) = 0 ∧ (flP k (cl l)).length ≤ l.length := by
  obtain ⟨v1, v2, v3⟩ := (vl_iff l).1 hv
  have e := cl_yes hv
  have ha : al (cl l) := cl_al l
  have hg : gd (cl l) := by rw [e]; exact jn_gd v2
  have hl : lg (cl l) = lg l := by rw [e]; exact jn_lg l
  have hn := cl_len l
  generalize cl l = c at *
  cases c with
  | nil => rw [flP_nil]; exact ⟨rfl, al_nil, hl, rfl, Nat.zero_le _⟩
  | cons a r =>
    obtain ⟨h, t, e, e1, e2, e3, e4, e5, e6, e7⟩ := flP_all k _ a r (Nat.le_refl _) ha hg
    rw [e]
    simp only [List.length_cons] at hn
    exact ⟨(vl_iff _).2 ⟨by simp only [List.length_cons]; omega, e4, by omega⟩, e3, by omega, e7, by simp only [List.length_cons]; omega⟩
/-- The levels of a list of runs, joined where three become one. -/
theorem jn_three {P t : List Rn} {z b d : Rn} (ha : al (P ++ z :: b :: d :: t)) (hg : gd (P ++ z :: b :: d :: t)) :
    jn (P ++ z :: (z.1, b.2) :: d :: t) = P ++ (z.1, z.2 + b.2 + d.2) :: t := by
  have g := (gd_append.1 hg).2
  have g1 := gd_cons.1 g
  have g2 := gd_cons.1 g1.2
  have g3 := gd_cons.1 g2.2
  have a0 : z.1 ≠ b.1 := al_mid (o := P) (l := d :: t) (by simpa using ha)
  have a1 : b.1 ≠ d.1 := al_mid (o := P ++ [z]) (l := t) (by simpa using ha)
  have e1 : z.1 = d.1 := by have := g1.1.1; have := g2.1.1; have := g3.1.1; omega
  have aP : ∀ q : List Rn, al (P ++ z :: q) → al (P ++ [z]) := by
    intro q h i hi
    have := h i (by simp only [List.length_append, List.length_cons, List.length_nil] at hi ⊢; omega)
    have e : P ++ z :: q = (P ++ [z]) ++ q := by simp
    simp only [e] at this
    rw [List.getElem_append_left (by omega), List.getElem_append_left hi] at this
    exact this
  have hP := aP _ ha
  have hT : al ((P ++ [z, b] ++ [d]) ++ t) := by simpa using ha
  have hD : al (P ++ [(z.1, z.2 + b.2 + d.2)] ++ t) := by
    cases t with
    | nil => rw [List.append_nil]; exact al_last hP rfl
    | cons x t =>
      have a2 : d.1 ≠ x.1 := al_mid (o := P ++ [z, b]) (l := t) (by simpa using ha)
      have h3 : al (P ++ [(z.1, z.2 + b.2 + d.2)] ++ [x]) := al_snoc (al_last hP rfl) (by show z.1 ≠ x.1; rw [e1]; exact a2)
      intro i hi
      have key : ∀ (o : List Rn) (u v : Rn) (t : List Rn), al (o ++ [v]) → u.1 = v.1 → al (u :: t) → al (o ++ v :: t) := by
        intro o
        induction o with
        | nil =>
          intro u v t _ e h
          cases t with
          | nil => exact al_one _
          | cons y t => exact al_cons.2 ⟨by rw [← e]; exact (al_cons.1 h).1, (al_cons.1 h).2⟩
        | cons y o ih =>
          intro u v t h e h2
          cases o with
          | nil =>
            simp only [List.cons_append, List.nil_append, al_cons] at h ⊢
            exact ⟨h.1, ih u v t (al_one _) e h2⟩
          | cons w o =>
            simp only [List.cons_append, al_cons] at h ⊢ ih
            exact ⟨h.1, ih u v t h.2 e h2⟩
      have hx : al (x :: t) := by
        intro j hj
        have := ha (P.length + 3 + j) (by simp only [List.length_append, List.length_cons] at hj ⊢; omega)
        have e : P ++ z :: b :: d :: x :: t = (P ++ [z, b, d]) ++ (x :: t) := by simp
        simp only [e] at this
        rw [List.getElem_append_right (by simp), List.getElem_append_right (by simp; omega)] at this
        simp only [List.length_append, List.length_cons, List.length_nil, show P.length + 3 + j + 1 - (P.length + (0 + 1 + 1 + 1)) = j + 1 by omega, show P.length + 3 + j - (P.length + (0 + 1 + 1 + 1)) = j by omega] at this
        exact this
      exact key (P ++ [(z.1, z.2 + b.2 + d.2)]) x x t h3 rfl hx i hi
  unfold jn
  rw [show P ++ z :: (z.1, b.2) :: d :: t = (P ++ [z]) ++ ((z.1, b.2) :: d :: t) by simp, List.foldl_append, fold_id (P ++ [z]) [] (by simpa using hP), List.nil_append, List.foldl_cons, List.foldl_cons, pt_snoc, if_pos rfl, pt_snoc, if_pos e1, fold_id _ _ hD]
  simp
/-- One step of the specification: the first short one of a clean wave is given its neighbors' level. -/
theorem step_flP {k : Int} {P t : List Rn} {z b d : Rn} (ha : al (P ++ z :: b :: d :: t)) (hg : gd (P ++ z :: b :: d :: t)) (hP : ∀ x ∈ P.drop 1, ¬ x.2 < k) (hz : P ≠ [] → ¬ z.2 < k) (hb : b.2 < k) :
    flP k (P ++ z :: b :: d :: t) = flP k (P ++ (z.1, z.2 + b.2 + d.2) :: t) ∧ al (P ++ (z.1, z.2 + b.2 + d.2) :: t) ∧ gd (P ++ (z.1, z.2 + b.2 + d.2) :: t) ∧ lg (P ++ (z.1, z.2 + b.2 + d.2) :: t) = lg (P ++ z :: b :: d :: t) := by
  have g0 := gd_append.1 hg
  have g1 := gd_cons.1 g0.2
  have g2 := gd_cons.1 g1.2
  have g3 := gd_cons.1 g2.2
  refine ⟨?_, ?_, gd_append.2 ⟨g0.1, gd_cons.2 ⟨⟨g1.1.1, by show 1 ≤ z.2 + b.2 + d.2; omega⟩, g3.2⟩⟩, ?_⟩
  · rw [flP_pre k P z _ hP hz, flP_short hb, flP_pre k P (z.1, z.2 + b.2 + d.2) t hP (fun h => by have := hz h; show ¬ z.2 + b.2 + d.2 < k; omega)]
  · rw [← jn_three ha hg]; exact jn_al _
  · rw [lg_append, lg_append]
    show _ + (z.2 + b.2 + d.2 + lg t) = _ + (z.2 + (b.2 + (d.2 + lg t)))
    omega
end Go.Proofs.Ytgihljconpijaaa

namespace Go.Proofs.Ytgihljconpijaaa
set_option linter.unusedVariables false
set_option linter.unusedSimpArgs false

/-! The level by edges. -/
def pf : Int → List Int → Int → Int
  | v, [], _ => v
  | v, e :: q, k => if e ≤ k then pf (1 - v) q k else v
theorem pf_cons (v e : Int) (q : List Int) (k : Int) : pf v (e :: q) k = if e ≤ k then pf (1 - v) q k else v := rfl
theorem pf_neg (q : List Int) (k : Int) : ∀ v : Int, pf (1 - v) q k = 1 - pf v q k := by
  induction q with
  | nil => intro v; rfl
  | cons e q ih =>
    intro v
    rw [pf_cons, pf_cons]
    split
    · exact ih (1 - v)
    · rfl
theorem oe_cons {b e n : Int} {q : List Int} : oe b (e :: q) n = true ↔ b < e ∧ e < n ∧ oe e q n = true := by
  show (decide (b < e) && decide (e < n) && oe e q n) = true ↔ _
  rw [Bool.and_eq_true, Bool.and_eq_true, decide_eq_true_eq, decide_eq_true_eq, and_assoc]
theorem oe_mono {b c n : Int} {q : List Int} (h : oe c q n = true) (hb : b ≤ c) : oe b q n = true := by
  cases q with
  | nil => rfl
  | cons e q => rw [oe_cons] at h ⊢; exact ⟨by omega, h.2⟩
theorem pf_before {b n k : Int} {q : List Int} (h : oe b q n = true) (hk : k ≤ b) (v : Int) : pf v q k = v := by
  cases q with
  | nil => rfl
  | cons e q => rw [oe_cons] at h; rw [pf_cons, if_neg (by omega)]
theorem fe_at {n k : Int} (q : List Int) : ∀ (v b : Int), oe b q n = true → b ≤ k → k < n → atv (fe v b q n) (k - b) = (pf v q k, true) := by
  induction q with
  | nil =>
    intro v b _ h0 h1
    show atv ([] ++ (if b < n then [(v, n - b)] else [])) (k - b) = (v, true)
    rw [if_pos (by omega), List.nil_append, atv_cons, if_pos (by show k - b < n - b; omega)]
  | cons e q ih =>
    intro v b h h0 h1
    rw [oe_cons] at h
    rw [fe_cons, atv_cons, pf_cons]
    by_cases hk : k < e
    · rw [if_pos (by show k - b < e - b; omega), if_neg (by omega)]
    · rw [if_neg (by show ¬ k - b < e - b; omega), if_pos (by omega), show k - b - (v, e - b).2 = k - e by show k - b - (e - b) = _; omega]
      exact ih _ _ h.2.2 (by omega) h1
theorem fe_good {n : Int} (q : List Int) : ∀ (v b : Int), (v = 0 ∨ v = 1) → oe b q n = true → b ≤ n → gd (fe v b q n) ∧ al (fe v b q n) ∧ lg (fe v b q n) = n - b ∧ ∀ x t, fe v b q n = x :: t → x.1 = v := by
  induction q with
  | nil =>
    intro v b hv _ hb
    have e : fe v b [] n = if b < n then [(v, n - b)] else [] := rfl
    rw [e]
    split
    · refine ⟨gd_cons.2 ⟨⟨hv, by show 1 ≤ n - b; omega⟩, gd_nil⟩, al_one _, lg_one _, fun x t h => ?_⟩
      rw [← (List.cons.inj h).1]
    · refine ⟨gd_nil, al_nil, by show (0 : Int) = _; omega, fun x t h => by cases h⟩
  | cons e q ih =>
    intro v b hv h hb
    rw [oe_cons] at h
    obtain ⟨i1, i2, i3, i4⟩ := ih (1 - v) e (by omega) h.2.2 (by omega)
    rw [fe_cons]
    refine ⟨gd_cons.2 ⟨⟨hv, by show 1 ≤ e - b; omega⟩, i1⟩, ?_, ?_, fun x t h => by rw [← (List.cons.inj h).1]⟩
    · generalize fe (1 - v) e q n = X at *
      cases X with
      | nil => exact al_one _
      | cons x t => exact al_cons.2 ⟨by rw [i4 x t rfl]; show v ≠ 1 - v; omega, i2⟩
    · show e - b + lg (fe (1 - v) e q n) = _
      rw [i3]; omega
theorem le_lt {n : Int} (q : List Int) : ∀ b : Int, oe b q n = true → b < n → le' b q < n := by
  induction q with
  | nil => intro b _ h; exact h
  | cons e q ih => intro b h hb; rw [oe_cons] at h; exact ih e h.2.2 h.2.1
theorem fe_length {v b n : Int} {q : List Int} (h : oe b q n = true) (hb : b < n) : (fe v b q n).length = q.length + 1 := by
  unfold fe
  rw [List.length_append, fp_len, if_pos (le_lt q b h hb)]; rfl
/-- A tick turned: left out, or put in. -/
def tn : List Int → Int → List Int
  | [], x => [x]
  | e :: q, x => if e < x then e :: tn q x else if e = x then q else x :: e :: q
theorem tn_nil (x : Int) : tn [] x = [x] := rfl
theorem tn_cons (e : Int) (q : List Int) (x : Int) : tn (e :: q) x = if e < x then e :: tn q x else if e = x then q else x :: e :: q := rfl
theorem tn_len (q : List Int) (x : Int) : (tn q x).length ≤ q.length + 1 := by
  induction q with
  | nil => exact Nat.le_refl _
  | cons e q ih =>
    rw [tn_cons]
    split
    · simp only [List.length_cons]; omega
    · split
      · simp only [List.length_cons]; omega
      · exact Nat.le_refl _
theorem oe_tn {n x : Int} (q : List Int) : ∀ b : Int, oe b q n = true → b < x → x < n → oe b (tn q x) n = true := by
  induction q with
  | nil => intro b _ h1 h2; rw [tn_nil, oe_cons]; exact ⟨h1, h2, rfl⟩
  | cons e q ih =>
    intro b h h1 h2
    have h' := oe_cons.1 h
    rw [tn_cons]
    split
    · rename_i c; exact oe_cons.2 ⟨h'.1, h'.2.1, ih e h'.2.2 c h2⟩
    · split
      · exact oe_mono h'.2.2 (by omega)
      · exact oe_cons.2 ⟨h1, h2, oe_cons.2 ⟨by omega, h'.2⟩⟩
theorem pf_tn {n x k : Int} (q : List Int) : ∀ (v b : Int), oe b q n = true → pf v (tn q x) k = if x ≤ k then 1 - pf v q k else pf v q k := by
  induction q with
  | nil =>
    intro v b _
    rw [tn_nil, pf_cons]; rfl
  | cons e q ih =>
    intro v b h
    have h' := oe_cons.1 h
    rw [tn_cons]
    by_cases c1 : e < x
    · rw [if_pos c1, pf_cons, pf_cons, ih (1 - v) e h'.2.2]
      by_cases c2 : e ≤ k
      · rw [if_pos c2, if_pos c2]
      · rw [if_neg c2, if_neg c2, if_neg (by omega)]
    · rw [if_neg c1]
      by_cases c2 : e = x
      · rw [if_pos c2, pf_cons]
        by_cases c3 : x ≤ k
        · rw [if_pos c3, if_pos (by omega), pf_neg]; omega
        · rw [if_neg c3, if_neg (by omega), pf_before h'.2.2 (by omega)]
      · rw [if_neg c2, pf_cons]
        by_cases c3 : x ≤ k
        · rw [if_pos c3, if_pos c3, pf_neg]
        · rw [if_neg c3, if_neg c3, pf_cons, if_neg (by omega)]
/-- The turned list by the place that a search finds. -/
theorem tn_at {x : Int} (q : List Int) : ∀ i : Nat, i ≤ q.length → (∀ j (h : j < q.length), j < i → q[j] < x) → (∀ h : i < q.length, x ≤ q[i]) →
    tn q x = if h : i < q.length then (if q[i] = x then q.take i ++ q.drop (i + 1) else q.take i ++ x :: q.drop i) else q ++ [x] := by
  induction q with
  | nil => intro i hi _ _; rw [dif_neg (by simp)]; rfl
  | cons e q ih =>
    intro i hi h1 h2
    cases i with
    | zero =>
      have := h2 (by simp)
      simp only [List.getElem_cons_zero] at this
      rw [dif_pos (by simp), tn_cons, if_neg (by omega)]
      simp only [List.getElem_cons_zero, List.take_zero, List.nil_append, List.drop_zero, Nat.zero_add, List.drop_one, List.tail_cons]
    | succ i =>
      have := h1 0 (by simp) (by omega)
      simp only [List.getElem_cons_zero] at this
      simp only [List.length_cons] at hi
      have := ih i (by omega) (fun j hj hji => by have := h1 (j + 1) (by simp only [List.length_cons]; omega) (by omega); simpa using this) (fun h => by have := h2 (by simp only [List.length_cons]; omega); simpa using this)
      rw [tn_cons, if_pos (by omega), this]
      by_cases hq : i < q.length
      · rw [dif_pos hq, dif_pos (by simp only [List.length_cons]; omega)]
        simp only [List.getElem_cons_succ, List.take_succ_cons, List.drop_succ_cons, List.cons_append]
        split <;> rfl
      · rw [dif_neg hq, dif_neg (by simp only [List.length_cons]; omega)]; rfl

/-! The specification's: three parts. -/
theorem sl_lg2 {l : List Rn} {b f t : Int} (h : gd l) : lg (sl b l f t) = max 0 (min (b + lg l) t - max b f) := by
  induction l generalizing b with
  | nil => simp only [sl, lg]; omega
  | cons r l ih =>
    rw [gd_cons] at h
    have h0 := gd_nonneg h.2
    have e : lg (r :: l) = r.2 + lg l := rfl
    rw [sl_cons, lg_append, ih h.2, e]
    unfold s1
    split
    · rw [lg_one]; simp only; omega
    · simp only [lg]; omega
theorem sl_at {l : List Rn} {b f t k : Int} (h : gd l) (hk : 0 ≤ k) (hkt : k < t - max b f) : atv (sl b l f t) k = atv l (max b f + k - b) := by
  induction l generalizing b k with
  | nil => rfl
  | cons r l ih =>
    rw [gd_cons] at h
    rw [sl_cons]
    by_cases c : max b f < b + r.2
    · unfold s1
      rw [if_pos (by omega), List.cons_append, List.nil_append, atv_cons, atv_cons]
      simp only
      by_cases c2 : k < min (b + r.2) t - max b f
      · rw [if_pos c2, if_pos (by omega)]
      · rw [if_neg c2, if_neg (by omega), ih h.2 (by omega) (by omega)]
        congr 1
        omega
    · unfold s1
      rw [if_neg (by omega), List.nil_append, atv_cons, if_neg (by omega), ih h.2 hk (by omega)]
      congr 1
      omega
theorem atv_in {l : List Rn} {k : Int} (hl : gd l) (h0 : 0 ≤ k) (hk : k < lg l) : (atv l k).2 = true ∧ ((atv l k).1 = 0 ∨ (atv l k).1 = 1) := by
  induction l generalizing k with
  | nil => simp only [lg] at hk; omega
  | cons r l ih =>
    rw [gd_cons] at hl
    have e : lg (r :: l) = r.2 + lg l := rfl
    rw [e] at hk
    rw [atv_cons]
    split
    · exact ⟨rfl, hl.1.1⟩
    · exact ih hl.2 (by omega) (by omega)
def outW (l : List Rn) (a t : Int) : List Rn := sl 0 l 0 a ++ iv (sl 0 l a (a + t)) ++ sl 0 l (a + t) (lg l)
theorem out_len (l : List Rn) (a t : Int) : (outW l a t).length ≤ 3 * l.length := by
  unfold outW
  rw [List.length_append, List.length_append, iv_len]
  have := sl_len l 0 0 a; have := sl_len l 0 a (a + t); have := sl_len l 0 (a + t) (lg l)
  omega
theorem out_good {l : List Rn} {a t : Int} (hg : gd l) (h0 : 0 ≤ a) (h1 : 1 ≤ t) (h2 : a + t ≤ lg l) : gd (outW l a t) ∧ lg (outW l a t) = lg l ∧
    ∀ k, 0 ≤ k → k < lg l → atv (outW l a t) k = (if a ≤ k ∧ k < a + t then 1 - (atv l k).1 else (atv l k).1, true) := by
  have g1 : gd (sl 0 l 0 a) := sl_gd hg
  have g2 : gd (iv (sl 0 l a (a + t))) := iv_gd (sl_gd hg)
  have g3 : gd (sl 0 l (a + t) (lg l)) := sl_gd hg
  have e1 : lg (sl 0 l 0 a) = a := by rw [sl_lg2 hg]; omega
  have e2 : lg (iv (sl 0 l a (a + t))) = t := by rw [iv_lg, sl_lg2 hg]; omega
  have e3 : lg (sl 0 l (a + t) (lg l)) = lg l - (a + t) := by rw [sl_lg2 hg]; omega
  unfold outW
  refine ⟨gd_append.2 ⟨gd_append.2 ⟨g1, g2⟩, g3⟩, by rw [lg_append, lg_append, e1, e2, e3]; omega, fun k k0 k1 => ?_⟩
  have hin := atv_in hg k0 k1
  have hp : atv l k = ((atv l k).1, true) := Prod.ext rfl hin.1
  rw [atv_append _ _ k (gd_append.2 ⟨g1, g2⟩) k0, atv_append _ _ k g1 k0, lg_append, e1, e2]
  by_cases c1 : k < a
  · rw [if_pos (by omega), if_pos c1, if_neg (by omega), sl_at hg k0 (by omega), show max 0 0 + k - 0 = k by omega]
    exact hp
  · by_cases c2 : k < a + t
    · rw [if_pos c2, if_neg c1, if_pos (by omega), iv_at, sl_at hg (by omega) (by omega), show max 0 a + (k - a) - 0 = k by omega, if_pos hin.1]
    · rw [if_neg c2, if_neg (by omega), sl_at hg (by omega) (by omega), show max 0 (a + t) + (k - (a + t)) - 0 = k by omega]
      exact hp
/-- Insert: the error or the runs. -/
def inR (l : List Rn) (a t : Int) : List Rn × Int :=
  if vl l = true then (if a < 0 ∨ t < 1 ∨ lg l - a < t then ([], 2) else if 262144 < (jn (outW l a t)).length then ([], 6) else (jn (outW l a t), 0)) else ([], 1)
theorem inR_1 {l : List Rn} {a t : Int} (h : ¬ vl l = true) : inR l a t = ([], 1) := by unfold inR; rw [if_neg h]
theorem inR_2 {l : List Rn} {a t : Int} (h : vl l = true) (h2 : a < 0 ∨ t < 1 ∨ lg l - a < t) : inR l a t = ([], 2) := by unfold inR; rw [if_pos h, if_pos h2]
theorem inR_6 {l : List Rn} {a t : Int} (h : vl l = true) (h2 : ¬ (a < 0 ∨ t < 1 ∨ lg l - a < t)) (h6 : 262144 < (jn (outW l a t)).length) : inR l a t = ([], 6) := by unfold inR; rw [if_pos h, if_neg h2, if_pos h6]
theorem inR_0 {l : List Rn} {a t : Int} (h : vl l = true) (h2 : ¬ (a < 0 ∨ t < 1 ∨ lg l - a < t)) (h6 : ¬ 262144 < (jn (outW l a t)).length) : inR l a t = (jn (outW l a t), 0) := by unfold inR; rw [if_pos h, if_neg h2, if_neg h6]
theorem inR_ok {l : List Rn} {a t : Int} (h : (inR l a t).2 = 0) : vl l = true ∧ 0 ≤ a ∧ 1 ≤ t ∧ a + t ≤ lg l ∧ (jn (outW l a t)).length ≤ 262144 ∧ inR l a t = (jn (outW l a t), 0) := by
  by_cases h1 : vl l = true
  · by_cases h2 : a < 0 ∨ t < 1 ∨ lg l - a < t
    · rw [inR_2 h1 h2] at h; cases h
    · by_cases h6 : 262144 < (jn (outW l a t)).length
      · rw [inR_6 h1 h2 h6] at h; cases h
      · exact ⟨h1, by omega, by omega, by omega, by omega, inR_0 h1 h2 h6⟩
  · rw [inR_1 h1] at h; cases h
theorem inR_no {l : List Rn} {a t : Int} (h : ¬ (inR l a t).2 = 0) : (inR l a t).1 = [] := by
  unfold inR at h ⊢
  split
  · split
    · rfl
    · split
      · rfl
      · rename_i a1 a2 a3; rw [if_pos a1, if_neg a2, if_neg a3] at h; exact absurd rfl h
  · rfl
theorem inR_len (l : List Rn) (a t : Int) : (inR l a t).1.length ≤ 262144 := by
  by_cases h : (inR l a t).2 = 0
  · obtain ⟨_, _, _, _, h5, h6⟩ := inR_ok h; rw [h6]; exact h5
  · rw [inR_no h]; simp
/-- The program's edges make the specification's runs. -/
theorem ins_edges {l : List Rn} {a t v : Int} {q q' : List Int} (h : vl l = true) (h0 : 0 ≤ a) (h1 : 1 ≤ t) (h2 : a + t ≤ lg l)
    (hv : v = if a = 0 then 1 - (atV l 0).1 else (atV l 0).1) (hq : q = if a = 0 then es (cl l) else tn (es (cl l)) a) (hq' : q' = if a + t < lg l then tn q (a + t) else q) :
    feR v q' (lg l) = inR l a t := by
  obtain ⟨v1, v2, v3⟩ := (vl_iff l).1 h
  have hne : l ≠ [] := by rintro rfl; simp only [lg] at h2; omega
  obtain ⟨w1, w2⟩ := again h hne
  rw [lgV_yes h] at w2
  have hv01 := atV_one l 0
  have hlv : (atV l 0).1 = 0 ∨ (atV l 0).1 = 1 := by
    rcases hv01 with h | h
    · exact h.2
    · rw [h] at w1; cases w1
  have hoe : oe 0 (es (cl l)) (lg l) = true ∧ fe (atV l 0).1 0 (es (cl l)) (lg l) = cl l := by
    cases hc : oe 0 (es (cl l)) (lg l) with
    | true =>
      refine ⟨rfl, ?_⟩
      have hn : ¬ 262144 ≤ (es (cl l)).length := by
        intro hh
        rw [feR_6 hlv (by omega) hh] at w2
        exact absurd (show (6 : Int) = 0 from congrArg Prod.snd w2) (by decide)
      rw [feR_0 hlv (by omega) hn hc] at w2
      exact congrArg Prod.fst w2
    | false =>
      by_cases hh : 262144 ≤ (es (cl l)).length
      · rw [feR_6 hlv (by omega) hh] at w2; exact absurd (show (6 : Int) = 0 from congrArg Prod.snd w2) (by decide)
      · rw [feR_7 hlv (by omega) hh hc] at w2; exact absurd (show (7 : Int) = 0 from congrArg Prod.snd w2) (by decide)
  obtain ⟨ho, hf⟩ := hoe
  have hlev : ∀ k, 0 ≤ k → k < lg l → (atv l k).1 = pf (atV l 0).1 (es (cl l)) k := by
    intro k k0 k1
    have e := fe_at (es (cl l)) (atV l 0).1 0 ho k0 k1
    rw [hf, cl_yes h, Int.sub_zero, atv_jn k v2 k0] at e
    rw [e, ← cl_yes h]
  generalize es (cl l) = s at *
  generalize (atV l 0).1 = v0 at *
  have hv' : v = 0 ∨ v = 1 := by rw [hv]; split <;> omega
  have hoq : oe 0 q (lg l) = true := by
    rw [hq]; split
    · exact ho
    · exact oe_tn s 0 ho (by omega) (by omega)
  have hoq' : oe 0 q' (lg l) = true := by
    rw [hq']; split
    · exact oe_tn q 0 hoq (by omega) (by omega)
    · exact hoq
  have hpq : ∀ k, 0 ≤ k → pf v q k = if a ≤ k then 1 - pf v0 s k else pf v0 s k := by
    intro k k0
    rw [hv, hq]
    by_cases ha : a = 0
    · rw [if_pos ha, if_pos ha, pf_neg, if_pos (by omega)]
    · rw [if_neg ha, if_neg ha, pf_tn s v0 0 ho]
  have hpq' : ∀ k, 0 ≤ k → k < lg l → pf v q' k = if a ≤ k ∧ k < a + t then 1 - pf v0 s k else pf v0 s k := by
    intro k k0 k1
    rw [hq']
    by_cases c : a + t < lg l
    · rw [if_pos c, pf_tn q v 0 hoq, hpq k k0]
      by_cases c1 : a ≤ k
      · by_cases c2 : a + t ≤ k
        · rw [if_pos c2, if_pos c1, if_neg (by omega)]; omega
        · rw [if_neg c2, if_pos c1, if_pos (by omega)]
      · rw [if_neg (by omega), if_neg c1, if_neg (by omega)]
    · rw [if_neg c, hpq k k0]
      by_cases c1 : a ≤ k
      · rw [if_pos c1, if_pos (by omega)]
      · rw [if_neg c1, if_neg (by omega)]
  obtain ⟨f1, f2, f3, _⟩ := fe_good q' v 0 hv' hoq' (by omega)
  obtain ⟨o1, o2, o3⟩ := out_good v2 h0 h1 h2
  have hsame : fe v 0 q' (lg l) = jn (outW l a t) := by
    refine al_same f2 f1 f3 (jn_al _) (jn_gd o1) (by rw [jn_lg, o2]; omega) fun k k0 k1 => ?_
    have e := fe_at q' v 0 hoq' k0 (by omega)
    rw [Int.sub_zero] at e k1
    rw [e, atv_jn k o1 k0, o3 k k0 k1, hpq' k k0 k1, hlev k k0 k1]
  have hlen : (jn (outW l a t)).length = q'.length + 1 := by rw [← hsame]; exact fe_length hoq' (by omega)
  by_cases h6 : 262144 ≤ q'.length
  · rw [feR_6 hv' (by omega) h6, inR_6 h (by omega) (by omega)]
  · rw [feR_0 hv' (by omega) h6 hoq', inR_0 h (by omega) (by omega), hsame]
/-- What has been inserted is a clean wave, as long as before. -/
theorem in_good {l : List Rn} {a t : Int} (h : (inR l a t).2 = 0) : vl (inR l a t).1 = true ∧ al (inR l a t).1 ∧ lg (inR l a t).1 = lg l := by
  obtain ⟨h1, h2, h3, h4, h5, h6⟩ := inR_ok h
  obtain ⟨v1, v2, v3⟩ := (vl_iff l).1 h1
  obtain ⟨o1, o2, o3⟩ := out_good v2 h2 h3 h4
  rw [h6]
  exact ⟨(vl_iff _).2 ⟨h5, jn_gd o1, by rw [jn_lg, o2]; exact v3⟩, jn_al _, by rw [jn_lg, o2]⟩
/-- Inserting twice restores the clean wave. -/
theorem in_twice {l : List Rn} {a t : Int} (h : (inR l a t).2 = 0) : inR (inR l a t).1 a t = (cl l, 0) := by
  obtain ⟨g1, g2, g3⟩ := in_good h
  obtain ⟨h1, h2, h3, h4, h5, h6⟩ := inR_ok h
  obtain ⟨v1, v2, v3⟩ := (vl_iff l).1 h1
  obtain ⟨o1, o2, o3⟩ := out_good v2 h2 h3 h4
  rw [h6] at g1 g2 g3 ⊢
  simp only at g1 g2 g3 ⊢
  generalize hm : jn (outW l a t) = m at *
  obtain ⟨m1, m2, m3⟩ := (vl_iff m).1 g1
  obtain ⟨p1, p2, p3⟩ := out_good m2 h2 h3 (by omega)
  have e : jn (outW m a t) = jn l := by
    refine al_same (jn_al _) (jn_gd p1) (jn_lg _) (jn_al _) (jn_gd v2) (by rw [jn_lg, p2, g3]) fun k k0 k1 => ?_
    rw [p2] at k1
    have hl := atv_in v2 k0 (by omega)
    rw [atv_jn k p1 k0, atv_jn k v2 k0, p3 k k0 k1, ← hm, atv_jn k o1 k0, o3 k k0 (by omega)]
    refine Prod.ext ?_ hl.1.symm
    show (if a ≤ k ∧ k < a + t then 1 - (if a ≤ k ∧ k < a + t then 1 - (atv l k).1 else (atv l k).1) else (if a ≤ k ∧ k < a + t then 1 - (atv l k).1 else (atv l k).1)) = (atv l k).1
    split <;> omega
  have hn := jn_len l
  rw [inR_0 g1 (by omega) (by rw [e]; omega), e, cl_yes h1]

/-! A short pulse, inserted far from all edges. -/
theorem cn_append (k : Int) : ∀ (A : List Rn) (z : Rn) (B : List Rn), cn k (A ++ z :: B) = (A.filter fun x => decide (x.2 < k)).length + cn k (z :: B) := by
  intro A
  induction A with
  | nil => intro z B; simp
  | cons a A ih =>
    intro z B
    obtain ⟨y, t, e⟩ : ∃ y t, A ++ z :: B = y :: t := by cases A <;> exact ⟨_, _, rfl⟩
    have i := ih z B
    rw [List.cons_append, List.filter_cons]
    rw [e] at i ⊢
    rw [cn_cons, i]
    by_cases h : a.2 < k
    · simp [h]; omega
    · simp [h]
theorem es_mem {c K : List Rn} {z : Rn} {t : List Rn} (e : c = K ++ z :: t) (hK : K ≠ []) : lg K ∈ es c := by
  have key : ∀ (K : List Rn) (b : Int) (z : Rn) (t : List Rn), b + lg K ∈ eg b (K ++ z :: t) := by
    intro K
    induction K with
    | nil => intro b z t; show b + 0 ∈ b :: _; rw [Int.add_zero]; exact List.mem_cons_self
    | cons y K ih =>
      intro b z t
      show b + (y.2 + lg K) ∈ b :: eg (b + y.2) (K ++ z :: t)
      rw [show b + (y.2 + lg K) = b + y.2 + lg K by omega]
      exact List.mem_cons_of_mem _ (ih _ z t)
  subst e
  cases K with
  | nil => exact absurd rfl hK
  | cons y K =>
    show y.2 + lg K ∈ (0 :: eg (0 + y.2) (K ++ z :: t)).drop 1
    rw [List.drop_one, List.tail_cons, Int.zero_add]
    exact key K y.2 z t
theorem run_of {k : Int} : ∀ (c : List Rn), gd c → 0 ≤ k → k < lg c → ∃ K z t, c = K ++ z :: t ∧ lg K ≤ k ∧ k < lg K + z.2 := by
  intro c
  induction c generalizing k with
  | nil => intro _ _ h; simp only [lg] at h; omega
  | cons r c ih =>
    intro hg h0 h1
    rw [gd_cons] at hg
    have e : lg (r :: c) = r.2 + lg c := rfl
    rw [e] at h1
    by_cases h : k < r.2
    · exact ⟨[], r, c, rfl, by simp only [lg]; omega, by simp only [lg]; omega⟩
    · obtain ⟨K, z, t, e1, e2, e3⟩ := ih (k := k - r.2) hg.2 (by omega) (by omega)
      exact ⟨r :: K, z, t, by rw [e1]; rfl, by show r.2 + lg K ≤ k; omega, by show k < r.2 + lg K + z.2; omega⟩
/-- Far from all edges. -/
def farP (l : List Rn) (a t k : Int) : Prop := 1 ≤ a ∧ 1 ≤ t ∧ a + t + 1 ≤ lg l ∧ ∀ e ∈ es (cl l), ¬ (e ≤ a ∧ a - e < k) ∧ ¬ (a < e ∧ e - a < t) ∧ ¬ (a < e ∧ e - a - t < k)
theorem in_far {l : List Rn} {a t k : Int} (h : vl l = true) (hn : l.length ≤ 200000) (hc : cn k ((cl l).drop 1) = 0) (htk : t < k) (hf : farP l a t k) :
    (inR l a t).2 = 0 ∧ cn k ((cl (inR l a t).1).drop 1) = 1 ∧ flP k (cl (inR l a t).1) = cl l := by
  obtain ⟨v1, v2, v3⟩ := (vl_iff l).1 h
  obtain ⟨f1, f2, f3, f4⟩ := hf
  have hlen := out_len l a t
  have hlj := jn_len (outW l a t)
  have hcl := cl_yes h
  have ca : al (cl l) := cl_al l
  have cg : gd (cl l) := by rw [hcl]; exact jn_gd v2
  have cL : lg (cl l) = lg l := by rw [hcl]; exact jn_lg l
  have hid := flP_id k _ hc
  have hcn := cl_len l
  obtain ⟨o1, o2, o3⟩ := out_good v2 (show 0 ≤ a by omega) f2 (by omega)
  have hat : ∀ q, 0 ≤ q → atv l q = atv (cl l) q := fun q hq => by rw [hcl, atv_jn q v2 hq]
  obtain ⟨K, z, T, e, e1, e2⟩ := run_of (k := a) (cl l) cg (by omega) (by omega)
  have gK := gd_append.1 (by rw [← e]; exact cg : gd (K ++ z :: T))
  have gz := gd_cons.1 gK.2
  have nT := gd_nonneg gz.2
  have nK := gd_nonneg gK.1
  have eL : lg K + (z.2 + lg T) = lg l := by rw [← cL, e, lg_append]; rfl
  have hK : K ≠ [] → k ≤ a - lg K := by
    intro hk
    have := (f4 _ (es_mem e hk)).1
    omega
  have hT : T ≠ [] → k ≤ lg K + z.2 - a - t ∧ t ≤ lg K + z.2 - a := by
    intro hk
    obtain ⟨y, T', rfl⟩ := List.exists_cons_of_ne_nil hk
    have hm : lg (K ++ [z]) ∈ es (cl l) := es_mem (K := K ++ [z]) (z := y) (t := T') (by rw [e]; simp) (by simp)
    rw [lg_append, lg_one] at hm
    have := f4 _ hm
    omega
  have hx : 1 ≤ a - lg K := by
    by_cases hk : K = []
    · subst hk; simp only [lg]; omega
    · have := hK hk; omega
  have hy : 1 ≤ lg K + z.2 - a - t := by
    by_cases hk : T = []
    · subst hk; simp only [lg] at eL; omega
    · have := (hT hk).1; omega
  -- the wave with the pulse
  obtain ⟨m, hm⟩ : ∃ m, m = K ++ (z.1, a - lg K) :: (1 - z.1, t) :: (z.1, lg K + z.2 - a - t) :: T := ⟨_, rfl⟩
  have mg : gd m := by
    rw [hm]
    exact gd_append.2 ⟨gK.1, gd_cons.2 ⟨⟨gz.1.1, hx⟩, gd_cons.2 ⟨⟨by show 1 - z.1 = 0 ∨ 1 - z.1 = 1; omega, f2⟩, gd_cons.2 ⟨⟨gz.1.1, hy⟩, gz.2⟩⟩⟩⟩
  have mL : lg m = lg l := by
    rw [hm, lg_append]
    show lg K + (a - lg K + (t + (lg K + z.2 - a - t + lg T))) = lg l
    omega
  have ma : al m := by
    rw [hm]
    have key : ∀ (o : List Rn) (u v : Rn) (p q : List Rn), al (o ++ u :: p) → u.1 = v.1 → al (v :: q) → al (o ++ v :: q) := by
      intro o
      induction o with
      | nil => intro u v p q _ _ h; exact h
      | cons y o ih =>
        intro u v p q h e h2
        cases o with
        | nil =>
          simp only [List.cons_append, List.nil_append, al_cons] at h ⊢
          exact ⟨by rw [← e]; exact h.1, h2⟩
        | cons w o =>
          simp only [List.cons_append, al_cons] at h ⊢ ih
          exact ⟨h.1, ih u v p q h.2 e h2⟩
    have tail : ∀ (o p : List Rn), al (o ++ p) → al p := by
      intro o
      induction o with
      | nil => intro p h; exact h
      | cons y o ih => intro p h; exact ih p (al_tail h)
    have hzT : al (z :: T) := tail K _ (by rw [← e]; exact ca)
    refine key K z _ T _ (by rw [← e]; exact ca) rfl (al_cons.2 ⟨by show z.1 ≠ 1 - z.1; omega, al_cons.2 ⟨by show 1 - z.1 ≠ z.1; omega, ?_⟩⟩)
    cases T with
    | nil => exact al_one _
    | cons y T => exact al_cons.2 ⟨(al_cons.1 hzT).1, (al_cons.1 hzT).2⟩
  have hjm : jn (outW l a t) = m := by
    refine al_same (jn_al _) (jn_gd o1) (by rw [jn_lg, o2]) ma mg mL fun q q0 q1 => ?_
    have hq : atv l q = atv (K ++ z :: T) q := by rw [hat q q0, e]
    rw [atv_jn q o1 q0, o3 q q0 q1, hm, hq, atv_append _ _ q gK.1 q0, atv_append _ _ q gK.1 q0]
    by_cases c1 : q < lg K
    · rw [if_pos c1, if_pos c1, if_neg (by omega)]
      have := atv_in gK.1 q0 c1
      exact Prod.ext rfl this.1.symm
    · rw [if_neg c1, if_neg c1]
      simp only [atv_cons]
      by_cases c2 : q < a
      · rw [if_neg (show ¬ (a ≤ q ∧ q < a + t) by omega), if_pos (show q - lg K < z.2 by omega), if_pos (show q - lg K < a - lg K by omega)]
      · by_cases c3 : q < a + t
        · rw [if_pos (show a ≤ q ∧ q < a + t by omega), if_pos (show q - lg K < z.2 by omega), if_neg (show ¬ q - lg K < a - lg K by omega), if_pos (show q - lg K - (a - lg K) < t by omega)]
        · by_cases c4 : q - lg K < z.2
          · rw [if_neg (show ¬ (a ≤ q ∧ q < a + t) by omega), if_pos c4, if_neg (show ¬ q - lg K < a - lg K by omega), if_neg (show ¬ q - lg K - (a - lg K) < t by omega), if_pos (show q - lg K - (a - lg K) - t < lg K + z.2 - a - t by omega)]
          · rw [if_neg (show ¬ (a ≤ q ∧ q < a + t) by omega), if_neg c4, if_neg (show ¬ q - lg K < a - lg K by omega), if_neg (show ¬ q - lg K - (a - lg K) < t by omega), if_neg (show ¬ q - lg K - (a - lg K) - t < lg K + z.2 - a - t by omega), show q - lg K - (a - lg K) - t - (lg K + z.2 - a - t) = q - lg K - z.2 by omega]
            have hin := atv_in gz.2 (k := q - lg K - z.2) (by omega) (by omega)
            exact Prod.ext rfl hin.1.symm
  have hml : m.length ≤ 200002 := by
    have e3 : (cl l).length = K.length + (T.length + 1) := by rw [e]; simp
    rw [hm]
    simp only [List.length_append, List.length_cons]
    omega
  have hin : inR l a t = (m, 0) := by rw [inR_0 h (by omega) (by rw [hjm]; omega), hjm]
  have hvm : vl m = true := (vl_iff m).2 ⟨by omega, mg, by rw [mL]; exact v3⟩
  have hcm : cl m = m := by rw [cl_yes hvm, jn_id ma]
  rw [hin]
  simp only
  rw [hcm]
  have hKs : ∀ x ∈ K.drop 1, ¬ x.2 < k := by
    intro x hx'
    cases K with
    | nil => cases hx'
    | cons y K =>
      rw [List.drop_one, List.tail_cons] at hx'
      rw [e, List.cons_append, List.drop_one, List.tail_cons, cn_append] at hc
      intro hlt
      have : 0 < (K.filter fun x => decide (x.2 < k)).length := List.length_pos_of_mem (List.mem_filter.2 ⟨hx', by simpa using hlt⟩)
      omega
  refine ⟨trivial, ?_, ?_⟩
  · have hend : cn k ((z.1, lg K + z.2 - a - t) :: T) = cn k T := by
      cases T with
      | nil => rfl
      | cons y T => rw [cn_cons, if_neg (by have := (hT (by simp)).1; show ¬ lg K + z.2 - a - t < k; omega)]; omega
    rw [hm]
    cases K with
    | nil =>
      rw [List.nil_append, List.drop_one, List.tail_cons, cn_cons, if_pos htk, hend]
      rw [e, List.nil_append, List.drop_one, List.tail_cons] at hc
      rw [hc]
    | cons y K =>
      rw [e, List.cons_append, List.drop_one, List.tail_cons, cn_append] at hc
      rw [List.cons_append, List.drop_one, List.tail_cons, cn_append, cn_cons, if_neg (by have := hK (by simp); show ¬ a - lg (y :: K) < k; omega), cn_cons, if_pos htk, hend]
      have : cn k T = 0 := by
        cases T with
        | nil => rfl
        | cons w T => rw [cn_cons] at hc; omega
      omega
  · rw [hm, flP_pre k K _ _ hKs (fun hk => by have := hK hk; show ¬ a - lg K < k; omega), flP_short htk]
    have ez : ((z.1, a - lg K).1, (z.1, a - lg K).2 + (1 - z.1, t).2 + (z.1, lg K + z.2 - a - t).2) = z := by
      refine Prod.ext rfl ?_
      show a - lg K + t + (lg K + z.2 - a - t) = z.2
      omega
    rw [ez, ← flP_pre k K z T hKs (fun hk => by have := hK hk; omega), ← e]
    exact hid
end Go.Proofs.Ytgihljconpijaaa

namespace Go.Proofs.Ytgihljconpijaaa
namespace Si
set_option linter.unusedVariables false
set_option linter.unusedSimpArgs false

def isLt (c : Nat) : Bool := decide (97 ≤ c ∧ c ≤ 122)
def isDg (c : Nat) : Bool := decide (48 ≤ c ∧ c ≤ 57)
def isIn (c : Nat) : Bool := isLt c || isDg c || decide (c = 95)
theorem isIn_big {c : Nat} (h : 128 ≤ c) : isIn c = false := by unfold isIn isLt isDg; simp; omega
/-- How many characters of a name or a number the list begins with. -/
def wl : List UInt8 → Nat
  | [] => 0
  | c :: r => if isIn c.toNat = true then wl r + 1 else 0
theorem wl_le (l : List UInt8) : wl l ≤ l.length := by
  induction l with
  | nil => exact Nat.le_refl _
  | cons c r ih => simp only [wl]; split <;> simp <;> omega
/-- A name. -/
def nm (l : List UInt8) : Bool :=
  match l with
  | [] => false
  | c :: r => decide ((c :: r).length ≤ 16) && isLt c.toNat && decide (wl (c :: r) = (c :: r).length)
theorem nm_letter (c : UInt8) (r : List UInt8) (h : isLt c.toNat = false) : nm (c :: r) = false := by simp [nm, h]
theorem nm_le {l : List UInt8} (h : nm l = true) : l.length ≤ 16 := by
  cases l with
  | nil => simp
  | cons c r => simp only [nm, Bool.and_eq_true, decide_eq_true_eq] at h; exact h.1.1
def nmB (s : ByteArray) : Bool := nm s.data.toList

/-! Lists of names. -/
def has (l : List ByteArray) (s : ByteArray) : Bool := l.any fun x => decide (x.data.toList = s.data.toList)
theorem eq_of_toList {a b : ByteArray} (h : a.data.toList = b.data.toList) : a = b := by
  have := congrArg List.toArray h
  cases a; cases b
  simpa using this
/-- Some name stands before the place n a second time. -/
def dpT (l : List ByteArray) (n : Nat) : Bool := (List.range n).any fun i => has (l.take i) (l.getD i ⟨#[]⟩)
def ckN (l : List ByteArray) : Int := if 16 < l.length then 6 else if l.length = 0 then 1 else if l.all nmB = false then 4 else if dpT l l.length = true then 9 else 0
theorem ckN_6 {l : List ByteArray} (h : 16 < l.length) : ckN l = 6 := by unfold ckN; rw [if_pos h]
theorem ckN_1 {l : List ByteArray} (h : l.length = 0) : ckN l = 1 := by unfold ckN; rw [if_neg (by omega), if_pos h]
theorem ckN_4 {l : List ByteArray} (h : ¬ 16 < l.length) (h0 : ¬ l.length = 0) (h4 : l.all nmB = false) : ckN l = 4 := by unfold ckN; rw [if_neg h, if_neg h0, if_pos h4]
theorem ckN_9 {l : List ByteArray} (h : ¬ 16 < l.length) (h0 : ¬ l.length = 0) (h4 : l.all nmB = true) (h9 : dpT l l.length = true) : ckN l = 9 := by unfold ckN; rw [if_neg h, if_neg h0, if_neg (by rw [h4]; decide), if_pos h9]
theorem ckN_0 {l : List ByteArray} (h : ¬ 16 < l.length) (h0 : ¬ l.length = 0) (h4 : l.all nmB = true) (h9 : dpT l l.length = false) : ckN l = 0 := by unfold ckN; rw [if_neg h, if_neg h0, if_neg (by rw [h4]; decide), if_neg (by rw [h9]; decide)]
theorem ckN_ok {l : List ByteArray} (h : ckN l = 0) : 0 < l.length ∧ l.length ≤ 16 ∧ l.all nmB = true := by
  unfold ckN at h
  split at h
  · omega
  · split at h
    · omega
    · split at h
      · omega
      · split at h
        · omega
        · rename_i a b c d
          exact ⟨by omega, by omega, by simpa using c⟩
theorem all_at {l : List ByteArray} (h : l.all nmB = true) (j : Nat) (hj : j < l.length) : nmB l[j] = true := List.all_eq_true.1 h _ (List.getElem_mem hj)
theorem all_no {l : List ByteArray} {j : Nat} (hj : j < l.length) (h : nmB l[j] = false) : l.all nmB = false := by
  rw [List.all_eq_false]
  exact ⟨l[j], List.getElem_mem hj, by rw [h]; decide⟩
theorem all_take {l : List ByteArray} {j : Nat} (hj : j < l.length) (h : (l.take j).all nmB = true) (h1 : nmB l[j] = true) : (l.take (j + 1)).all nmB = true := by
  rw [List.take_succ_eq_append_getElem hj, List.all_append, h]
  simp [h1]
theorem dpT_step {l : List ByteArray} {j : Nat} (hj : j < l.length) (h : dpT l j = false) : dpT l (j + 1) = has (l.take j) l[j] := by
  unfold dpT at *
  rw [List.range_succ, List.any_append, h]
  simp [hj]
theorem dpT_yes {l : List ByteArray} {j : Nat} (hj : j < l.length) (h : has (l.take j) l[j] = true) : dpT l l.length = true := by
  unfold dpT
  rw [List.any_eq_true]
  exact ⟨j, List.mem_range.2 hj, by simpa [hj] using h⟩
theorem has_step {l : List ByteArray} {k : Nat} (hk : k < l.length) {s : ByteArray} (h : has (l.take k) s = false) : has (l.take (k + 1)) s = decide (l[k].data.toList = s.data.toList) := by
  unfold has at *
  rw [List.take_succ_eq_append_getElem hk, List.any_append, h]
  simp
theorem has_yes {l : List ByteArray} {i k : Nat} (hk : k < l.length) (hi : k < i) {s : ByteArray} (h : l[k].data.toList = s.data.toList) : has (l.take i) s = true := by
  unfold has
  rw [List.any_eq_true]
  exact ⟨l[k], List.mem_take_iff_getElem.2 ⟨k, by omega, rfl⟩, decide_eq_true h⟩

/-! Runs. -/
abbrev Rn := Int × Int
def okR (m s : Int) (r : Rn) : Bool := decide (0 ≤ r.1 ∧ r.1 ≤ m) && decide (1 ≤ r.2) && decide (r.2 ≤ 1099511627776 - s)
def vr (m : Int) : Int → List Rn → Bool
  | _, [] => true
  | s, r :: l => okR m s r && vr m (s + r.2) l
def lg : List Rn → Int
  | [] => 0
  | r :: l => r.2 + lg l
/-- Each run has a tick. -/
def ps (l : List Rn) : Prop := ∀ r ∈ l, 1 ≤ r.2
/-- Each level is from 0 to m. -/
def lv (m : Int) (l : List Rn) : Prop := ∀ r ∈ l, 0 ≤ r.1 ∧ r.1 ≤ m

theorem lg_append (a b : List Rn) : lg (a ++ b) = lg a + lg b := by
  induction a with
  | nil => simp [lg]
  | cons r a ih => simp only [List.cons_append, lg, ih]; omega
theorem lg_one (r : Rn) : lg [r] = r.2 := by simp [lg]
theorem lg_take (l : List Rn) (j : Nat) (hj : j < l.length) : lg (l.take (j + 1)) = lg (l.take j) + l[j].2 := by
  rw [List.take_succ_eq_append_getElem hj, lg_append, lg_one]
theorem lg_split (l : List Rn) (j : Nat) : lg l = lg (l.take j) + lg (l.drop j) := by
  rw [← lg_append, List.take_append_drop]
theorem ps_nil : ps [] := by intro r h; cases h
theorem ps_cons {r : Rn} {l : List Rn} : ps (r :: l) ↔ 1 ≤ r.2 ∧ ps l := by unfold ps; simp
theorem ps_one {r : Rn} : ps [r] ↔ 1 ≤ r.2 := by unfold ps; simp
theorem ps_append {a b : List Rn} : ps (a ++ b) ↔ ps a ∧ ps b := by
  unfold ps
  constructor
  · exact fun h => ⟨fun r hr => h r (List.mem_append_left _ hr), fun r hr => h r (List.mem_append_right _ hr)⟩
  · rintro ⟨h1, h2⟩ r hr
    rcases List.mem_append.1 hr with h | h
    · exact h1 r h
    · exact h2 r h
theorem ps_take {l : List Rn} (h : ps l) (j : Nat) : ps (l.take j) := fun r hr => h r (List.mem_of_mem_take hr)
theorem ps_drop {l : List Rn} (h : ps l) (j : Nat) : ps (l.drop j) := fun r hr => h r (List.mem_of_mem_drop hr)
theorem ps_len {l : List Rn} (h : ps l) : (l.length : Int) ≤ lg l := by
  induction l with
  | nil => simp [lg]
  | cons r l ih =>
    rw [ps_cons] at h
    have := ih h.2
    simp only [List.length_cons, lg]
    omega
theorem ps_nonneg {l : List Rn} (h : ps l) : 0 ≤ lg l := by have := ps_len h; omega
theorem lv_nil (m : Int) : lv m [] := by intro r h; cases h
theorem lv_cons {m : Int} {r : Rn} {l : List Rn} : lv m (r :: l) ↔ (0 ≤ r.1 ∧ r.1 ≤ m) ∧ lv m l := by unfold lv; simp
theorem vr_iff (m : Int) (l : List Rn) (s : Int) (hs : s ≤ 1099511627776) : vr m s l = true ↔ lv m l ∧ ps l ∧ s + lg l ≤ 1099511627776 := by
  induction l generalizing s with
  | nil => simp [vr, lg, ps_nil, lv_nil, hs]
  | cons r l ih =>
    simp only [vr, okR, Bool.and_eq_true, decide_eq_true_eq, ps_cons, lv_cons, lg]
    constructor
    · rintro ⟨⟨⟨h1, h2⟩, h3⟩, h4⟩
      have := (ih (s + r.2) (by omega)).1 h4
      exact ⟨⟨h1, this.1⟩, ⟨h2, this.2.1⟩, by omega⟩
    · rintro ⟨⟨h1, h1'⟩, ⟨h2, h3⟩, h4⟩
      have := ps_nonneg h3
      exact ⟨⟨⟨h1, h2⟩, by omega⟩, (ih (s + r.2) (by omega)).2 ⟨h1', h3, by omega⟩⟩
theorem vr_append (m : Int) (a b : List Rn) (s : Int) : vr m s (a ++ b) = (vr m s a && vr m (s + lg a) b) := by
  induction a generalizing s with
  | nil => simp [vr, lg]
  | cons r a ih => simp only [List.cons_append, vr, lg, ih, Bool.and_assoc, Int.add_assoc]
theorem vr_step {m : Int} {l : List Rn} {j : Nat} (hj : j < l.length) (h : vr m 0 (l.take j) = true) : vr m 0 (l.take (j + 1)) = okR m (lg (l.take j)) l[j] := by
  rw [List.take_succ_eq_append_getElem hj, vr_append, h]
  simp [vr]
theorem vr_bad {m : Int} {l : List Rn} {j : Nat} (hj : j < l.length) (h : okR m (lg (l.take j)) l[j] = false) : vr m 0 l = false := by
  rw [show l = l.take (j + 1) ++ l.drop (j + 1) from (List.take_append_drop _ _).symm, vr_append, List.take_succ_eq_append_getElem hj, vr_append]
  simp [vr, h]
theorem vr_range {m : Int} {l : List Rn} (h : vr m 0 l = true) : 0 ≤ lg l ∧ lg l ≤ 1099511627776 := by
  have := (vr_iff m l 0 (by omega)).1 h
  exact ⟨ps_nonneg this.2.1, by omega⟩
theorem lg_take_range {m : Int} {l : List Rn} (h : vr m 0 l = true) (j : Nat) : 0 ≤ lg (l.take j) ∧ lg (l.take j) ≤ lg l ∧ lg l ≤ 1099511627776 := by
  obtain ⟨_, h2, h3⟩ := (vr_iff m l 0 (by omega)).1 h
  have := ps_nonneg (ps_take h2 j)
  have := ps_nonneg (ps_drop h2 j)
  have := lg_split l j
  omega
theorem el_range {m : Int} {l : List Rn} (h : vr m 0 l = true) (j : Nat) (hj : j < l.length) : (0 ≤ l[j].1 ∧ l[j].1 ≤ m) ∧ 1 ≤ l[j].2 ∧ l[j].2 ≤ 1099511627776 := by
  obtain ⟨h1, h2, h3⟩ := (vr_iff m l 0 (by omega)).1 h
  have h4 := h1 l[j] (List.getElem_mem hj)
  have h4' := h2 l[j] (List.getElem_mem hj)
  have h5 := (lg_take_range h (j + 1))
  have h6 := (lg_take_range h j).1
  rw [lg_take l j hj] at h5
  exact ⟨h4, h4', by omega⟩

/-! Waves. -/
def vl (l : List Rn) : Bool := decide (l.length ≤ 262144) && vr 1 0 l
theorem vl_big {l : List Rn} (h : 262144 < l.length) : vl l = false := by unfold vl; rw [decide_eq_false (by omega)]; rfl
theorem vl_of {l : List Rn} (h : l.length ≤ 262144) : vl l = vr 1 0 l := by unfold vl; rw [decide_eq_true h]; rfl

/-! Captures. -/
def mk (n : Nat) : Int := 2 ^ n - 1
def ckC (N : List ByteArray) (R : List Rn) : Int := if 262144 < R.length then 6 else if ckN N ≠ 0 then ckN N else if vr (mk N.length) 0 R = true then 0 else 2
theorem ckC_6 {N : List ByteArray} {R : List Rn} (h : 262144 < R.length) : ckC N R = 6 := by unfold ckC; rw [if_pos h]
theorem ckC_n {N : List ByteArray} {R : List Rn} (h : ¬ 262144 < R.length) (h1 : ckN N ≠ 0) : ckC N R = ckN N := by unfold ckC; rw [if_neg h, if_pos h1]
theorem ckC_0 {N : List ByteArray} {R : List Rn} (h : ¬ 262144 < R.length) (h1 : ckN N = 0) (h2 : vr (mk N.length) 0 R = true) : ckC N R = 0 := by unfold ckC; rw [if_neg h, if_neg (fun x => x h1), if_pos h2]
theorem ckC_2 {N : List ByteArray} {R : List Rn} (h : ¬ 262144 < R.length) (h1 : ckN N = 0) (h2 : vr (mk N.length) 0 R = false) : ckC N R = 2 := by unfold ckC; rw [if_neg h, if_neg (fun x => x h1), if_neg (by rw [h2]; decide)]
theorem ckC_ok {N : List ByteArray} {R : List Rn} (h : ckC N R = 0) : R.length ≤ 262144 ∧ ckN N = 0 ∧ 0 < N.length ∧ N.length ≤ 16 ∧ N.all nmB = true ∧ vr (mk N.length) 0 R = true := by
  unfold ckC at h
  split at h
  · omega
  · rename_i a
    split at h
    · rename_i b; exact absurd h b
    · rename_i b
      split at h
      · rename_i c
        have b' : ckN N = 0 := by simpa using b
        obtain ⟨d1, d2, d3⟩ := ckN_ok b'
        exact ⟨by omega, b', d1, d2, d3, c⟩
      · omega
theorem ckN_range (N : List ByteArray) : 0 ≤ ckN N ∧ ckN N ≤ 9 := by unfold ckN; (repeat' split) <;> omega
theorem ckC_range (N : List ByteArray) (R : List Rn) : 0 ≤ ckC N R ∧ ckC N R ≤ 9 := by
  have := ckN_range N
  unfold ckC; (repeat' split) <;> omega
theorem mk_range {n : Nat} (h : n ≤ 16) : 0 ≤ mk n ∧ mk n ≤ 65535 := by
  unfold mk
  have h1 : (2 : Int) ^ n = ((2 ^ n : Nat) : Int) := by push_cast; rfl
  have h2 : 2 ^ n ≤ 2 ^ 16 := Nat.pow_le_pow_right (by omega) h
  have h3 := Nat.two_pow_pos n
  omega
def lgC (N : List ByteArray) (R : List Rn) : Int := if ckC N R = 0 then lg R else 0
theorem lgC_yes {N : List ByteArray} {R : List Rn} (h : ckC N R = 0) : lgC N R = lg R := by unfold lgC; rw [if_pos h]
theorem lgC_no {N : List ByteArray} {R : List Rn} (h : ¬ ckC N R = 0) : lgC N R = 0 := by unfold lgC; rw [if_neg h]

/-! Joining. -/
def pt (o : List Rn) (r : Rn) : List Rn := match o.getLast? with
  | some x => if x.1 = r.1 then o.dropLast ++ [(x.1, x.2 + r.2)] else o ++ [r]
  | none => [r]
def jn (l : List Rn) : List Rn := l.foldl pt []
theorem pt_nil (r : Rn) : pt [] r = [r] := rfl
theorem pt_snoc (o : List Rn) (x r : Rn) : pt (o ++ [x]) r = if x.1 = r.1 then o ++ [(x.1, x.2 + r.2)] else o ++ [x] ++ [r] := by
  unfold pt
  simp
theorem nil_or_snoc (l : List Rn) : l = [] ∨ ∃ o x, l = o ++ [x] := by
  rcases List.eq_nil_or_concat l with h | ⟨o, x, h⟩
  · exact .inl h
  · exact .inr ⟨o, x, by simpa using h⟩
theorem jn_snoc (l : List Rn) (r : Rn) : jn (l ++ [r]) = pt (jn l) r := by unfold jn; rw [List.foldl_append]; rfl
theorem jn_take (l : List Rn) (j : Nat) (hj : j < l.length) : jn (l.take (j + 1)) = pt (jn (l.take j)) l[j] := by
  rw [List.take_succ_eq_append_getElem hj, jn_snoc]
theorem pt_lg (o : List Rn) (r : Rn) : lg (pt o r) = lg o + r.2 := by
  rcases nil_or_snoc o with rfl | ⟨o, x, rfl⟩
  · simp [pt_nil, lg]
  · rw [pt_snoc]
    split <;> simp [lg_append, lg] <;> omega
theorem pt_ps {o : List Rn} {r : Rn} (ho : ps o) (hr : 1 ≤ r.2) : ps (pt o r) := by
  rcases nil_or_snoc o with rfl | ⟨o, x, rfl⟩
  · rw [pt_nil, ps_one]; exact hr
  · rw [pt_snoc]
    rw [ps_append, ps_one] at ho
    split
    · rw [ps_append, ps_one]
      exact ⟨ho.1, by show 1 ≤ x.2 + r.2; omega⟩
    · rw [ps_append, ps_append, ps_one, ps_one]; exact ⟨ho, hr⟩
theorem pt_lv {m : Int} {o : List Rn} {r : Rn} (ho : lv m o) (hr : 0 ≤ r.1 ∧ r.1 ≤ m) : lv m (pt o r) := by
  rcases nil_or_snoc o with rfl | ⟨o, x, rfl⟩
  · intro y hy; rw [pt_nil, List.mem_singleton] at hy; subst hy; exact hr
  · rw [pt_snoc]
    split
    · intro y hy
      rcases List.mem_append.1 hy with h | h
      · exact ho y (List.mem_append_left _ h)
      · rw [List.mem_singleton] at h; subst h; exact ho x (by simp)
    · intro y hy
      rcases List.mem_append.1 hy with h | h
      · exact ho y h
      · rw [List.mem_singleton] at h; subst h; exact hr
theorem pt_len (o : List Rn) (r : Rn) : (pt o r).length ≤ o.length + 1 ∧ o.length ≤ (pt o r).length ∧ 0 < (pt o r).length := by
  rcases nil_or_snoc o with rfl | ⟨o, x, rfl⟩
  · simp [pt_nil]
  · rw [pt_snoc]
    split <;> simp
theorem fold_lg (l o : List Rn) : lg (l.foldl pt o) = lg o + lg l := by
  induction l generalizing o with
  | nil => simp [lg]
  | cons r l ih => simp only [List.foldl_cons, ih, pt_lg, lg]; omega
theorem jn_lg (l : List Rn) : lg (jn l) = lg l := by unfold jn; rw [fold_lg]; simp [lg]
theorem fold_ps (l o : List Rn) (ho : ps o) (hl : ps l) : ps (l.foldl pt o) := by
  induction l generalizing o with
  | nil => exact ho
  | cons r l ih =>
    rw [ps_cons] at hl
    exact ih _ (pt_ps ho hl.1) hl.2
theorem jn_ps {l : List Rn} (h : ps l) : ps (jn l) := fold_ps l [] ps_nil h
theorem fold_lv {m : Int} (l o : List Rn) (ho : lv m o) (hl : lv m l) : lv m (l.foldl pt o) := by
  induction l generalizing o with
  | nil => exact ho
  | cons r l ih =>
    rw [lv_cons] at hl
    exact ih _ (pt_lv ho hl.1) hl.2
theorem jn_lv {m : Int} {l : List Rn} (h : lv m l) : lv m (jn l) := fold_lv l [] (lv_nil m) h
theorem fold_len (l o : List Rn) : (l.foldl pt o).length ≤ o.length + l.length ∧ o.length ≤ (l.foldl pt o).length := by
  induction l generalizing o with
  | nil => simp
  | cons r l ih =>
    have h1 := ih (pt o r)
    have h2 := pt_len o r
    simp only [List.foldl_cons, List.length_cons]
    omega
theorem jn_len (l : List Rn) : (jn l).length ≤ l.length := by have := (fold_len l []).1; unfold jn; simpa using this
theorem jn_vr {m : Int} {l : List Rn} (h : vr m 0 l = true) : vr m 0 (jn l) = true := by
  obtain ⟨h1, h2, h3⟩ := (vr_iff m l 0 (by omega)).1 h
  exact (vr_iff m _ 0 (by omega)).2 ⟨jn_lv h1, jn_ps h2, by rw [jn_lg]; exact h3⟩

/-! No two adjacent runs have one level. -/
def al (l : List Rn) : Prop := ∀ (i : Nat) (h : i + 1 < l.length), l[i].1 ≠ l[i + 1].1
theorem al_nil : al [] := fun i h => absurd h (by simp)
theorem al_cons {r s : Rn} {l : List Rn} : al (r :: s :: l) ↔ r.1 ≠ s.1 ∧ al (s :: l) := by
  constructor
  · intro h
    exact ⟨h 0 (by simp), fun i hi => h (i + 1) (by simpa using hi)⟩
  · rintro ⟨h1, h2⟩ i hi
    cases i with
    | zero => exact h1
    | succ i => exact h2 i (by simpa using hi)
theorem al_one (r : Rn) : al [r] := fun i h => absurd h (by simp)
theorem al_tail {r : Rn} {l : List Rn} (h : al (r :: l)) : al l := fun i hi => h (i + 1) (by simpa using hi)
theorem al_snoc {o : List Rn} {x r : Rn} (h : al (o ++ [x])) (hx : x.1 ≠ r.1) : al (o ++ [x] ++ [r]) := by
  induction o with
  | nil => simp only [List.nil_append, List.cons_append]; rw [al_cons]; exact ⟨hx, al_one r⟩
  | cons y o ih =>
    cases o with
    | nil =>
      simp only [List.cons_append, List.nil_append, al_cons] at h ⊢
      exact ⟨h.1, hx, al_one r⟩
    | cons z o =>
      simp only [List.cons_append, al_cons] at h ⊢ ih
      exact ⟨h.1, ih h.2⟩
theorem al_last {o : List Rn} {x y : Rn} (h : al (o ++ [x])) (hx : x.1 = y.1) : al (o ++ [y]) := by
  induction o with
  | nil => exact al_one y
  | cons z o ih =>
    cases o with
    | nil =>
      simp only [List.cons_append, List.nil_append, al_cons] at h ⊢
      exact ⟨by rw [← hx]; exact h.1, al_one y⟩
    | cons u o =>
      simp only [List.cons_append, al_cons] at h ⊢ ih
      exact ⟨h.1, ih h.2⟩
theorem pt_al {o : List Rn} {r : Rn} (h : al o) : al (pt o r) := by
  rcases nil_or_snoc o with rfl | ⟨o, x, rfl⟩
  · exact al_one r
  · rw [pt_snoc]
    split
    · exact al_last h rfl
    · rename_i hx; exact al_snoc h hx
theorem fold_al (l o : List Rn) (h : al o) : al (l.foldl pt o) := by
  induction l generalizing o with
  | nil => exact h
  | cons r l ih => exact ih _ (pt_al h)
theorem jn_al (l : List Rn) : al (jn l) := fold_al l [] al_nil

/-! The level at a tick. -/
def atv : List Rn → Int → Int × Bool
  | [], _ => (-1, false)
  | r :: l, k => if k < r.2 then (r.1, true) else atv l (k - r.2)
theorem atv_cons (r : Rn) (l : List Rn) (k : Int) : atv (r :: l) k = if k < r.2 then (r.1, true) else atv l (k - r.2) := rfl
theorem atv_drop {l : List Rn} {j : Nat} (hj : j < l.length) (k : Int) : atv (l.drop j) k = if k < l[j].2 then (l[j].1, true) else atv (l.drop (j + 1)) (k - l[j].2) := by
  rw [List.drop_eq_getElem_cons hj]; rfl
theorem atv_append (a b : List Rn) (k : Int) (ha : ps a) (hk : 0 ≤ k) : atv (a ++ b) k = if k < lg a then atv a k else atv b (k - lg a) := by
  induction a generalizing k with
  | nil => simp only [List.nil_append, lg, Int.sub_zero]; rw [if_neg (by omega)]
  | cons r a ih =>
    rw [ps_cons] at ha
    have := ps_nonneg ha.2
    have e : lg (r :: a) = r.2 + lg a := rfl
    rw [List.cons_append, atv_cons, atv_cons, e]
    by_cases h : k < r.2
    · rw [if_pos h, if_pos h, if_pos (by omega)]
    · rw [if_neg h, if_neg h, ih (k - r.2) ha.2 (by omega)]
      by_cases h2 : k - r.2 < lg a
      · rw [if_pos h2, if_pos (by omega)]
      · rw [if_neg h2, if_neg (by omega)]
        congr 1
        omega
theorem atv_pt (o : List Rn) (r : Rn) (l : List Rn) (k : Int) (ho : ps o) (hr : 1 ≤ r.2) (hk : 0 ≤ k) : atv (pt o r ++ l) k = atv (o ++ r :: l) k := by
  rcases nil_or_snoc o with rfl | ⟨o, x, rfl⟩
  · rfl
  · rw [pt_snoc]
    rw [ps_append, ps_one] at ho
    have h1 := ho.2
    split
    · rename_i e
      rw [List.append_assoc, List.append_assoc, atv_append o _ k ho.1 hk, atv_append o _ k ho.1 hk]
      by_cases h : k < lg o
      · rw [if_pos h, if_pos h]
      · rw [if_neg h, if_neg h]
        generalize k - lg o = q
        simp only [List.cons_append, List.nil_append, atv]
        by_cases g1 : q < x.2
        · rw [if_pos (by omega), if_pos g1]
        · rw [if_neg g1]
          by_cases g2 : q - x.2 < r.2
          · rw [if_pos (by omega), if_pos g2, e]
          · rw [if_neg (by omega), if_neg g2]
            congr 1
            omega
    · rw [List.append_assoc]; rfl
theorem atv_fold (l o : List Rn) (k : Int) (ho : ps o) (hl : ps l) (hk : 0 ≤ k) : atv (l.foldl pt o) k = atv (o ++ l) k := by
  induction l generalizing o with
  | nil => simp
  | cons r l ih =>
    rw [ps_cons] at hl
    rw [List.foldl_cons, ih _ (pt_ps ho hl.1) hl.2, atv_pt o r l k ho hl.1 hk]
theorem atv_jn {l : List Rn} (k : Int) (hl : ps l) (hk : 0 ≤ k) : atv (jn l) k = atv l k := by
  unfold jn; rw [atv_fold l [] k ps_nil hl hk]; rfl
theorem atv_end {l : List Rn} {k : Int} (hl : ps l) (hk : lg l ≤ k) : atv l k = (-1, false) := by
  induction l generalizing k with
  | nil => rfl
  | cons r l ih =>
    rw [ps_cons] at hl
    have h0 := ps_nonneg hl.2
    have e : lg (r :: l) = r.2 + lg l := rfl
    rw [e] at hk
    rw [atv_cons, if_neg (by omega)]
    exact ih hl.2 (by omega)
theorem atv_in {l : List Rn} {k : Int} (h0 : 0 ≤ k) (hl : ps l) (hk : k < lg l) : (atv l k).2 = true ∧ ∃ r ∈ l, (atv l k).1 = r.1 := by
  induction l generalizing k with
  | nil => simp only [lg] at hk; omega
  | cons r l ih =>
    rw [ps_cons] at hl
    have e : lg (r :: l) = r.2 + lg l := rfl
    rw [e] at hk
    rw [atv_cons]
    by_cases h : k < r.2
    · rw [if_pos h]; exact ⟨rfl, r, by simp, rfl⟩
    · rw [if_neg h]
      obtain ⟨i1, x, i2, i3⟩ := ih (k := k - r.2) (by omega) hl.2 (by omega)
      exact ⟨i1, x, by simp [i2], i3⟩
/-- A run's ticks. -/
theorem atv_run {l : List Rn} {j : Nat} (hl : ps l) (hj : j < l.length) {k : Int} (h1 : lg (l.take j) ≤ k) (h2 : k < lg (l.take (j + 1))) : atv l k = (l[j].1, true) := by
  have h0 := ps_nonneg (ps_take hl j)
  rw [lg_take l j hj] at h2
  conv => lhs; rw [← List.take_append_drop j l]
  rw [atv_append _ _ k (ps_take hl j) (by omega), if_neg (by omega), atv_drop hj, if_pos (by omega)]
/-- A clean list is made of its levels alone. -/
theorem al_unique {a b : List Rn} (ha : al a) (pa : ps a) (hb : al b) (pb : ps b) (h : ∀ k, 0 ≤ k → atv a k = atv b k) : a = b := by
  induction a generalizing b with
  | nil =>
    cases b with
    | nil => rfl
    | cons s b =>
      rw [ps_cons] at pb
      have := h 0 (by omega)
      rw [atv_cons, if_pos (by omega)] at this
      have := congrArg Prod.snd this
      exact absurd this (by simp [atv])
  | cons r a ih =>
    rw [ps_cons] at pa
    cases b with
    | nil =>
      have := h 0 (by omega)
      rw [atv_cons, if_pos (by omega)] at this
      have := congrArg Prod.snd this
      exact absurd this (by simp [atv])
    | cons s b =>
      rw [ps_cons] at pb
      have e0 := h 0 (by omega)
      rw [atv_cons, if_pos (by omega), atv_cons, if_pos (by omega)] at e0
      have e1 : r.1 = s.1 := (Prod.mk.inj e0).1
      have key : ∀ (x y : Rn) (u v : List Rn), al (x :: u) → ps u → x.1 = y.1 → 1 ≤ x.2 → x.2 < y.2 → (∀ k, 0 ≤ k → atv (x :: u) k = atv (y :: v) k) → False := by
        intro x y u v hu pu exy hx hlt hh
        have e2 := hh x.2 (by omega)
        rw [atv_cons, if_neg (by omega), atv_cons, if_pos hlt] at e2
        cases u with
        | nil => have := congrArg Prod.snd e2; exact absurd this (by simp [atv])
        | cons z u =>
          rw [ps_cons] at pu
          rw [atv_cons, if_pos (by omega)] at e2
          have e3 : z.1 = y.1 := (Prod.mk.inj e2).1
          exact (al_cons.1 hu).1 (by rw [exy, e3])
      have e2 : r.2 = s.2 := by
        rcases Int.lt_trichotomy r.2 s.2 with c | c | c
        · exact absurd (key r s a b ha pa.2 e1 pa.1 c h) id
        · exact c
        · exact absurd (key s r b a hb pb.2 e1.symm pb.1 c (fun k hk => (h k hk).symm)) id
      have e3 : r = s := Prod.ext e1 e2
      subst e3
      rw [ih (al_tail ha) pa.2 (al_tail hb) pb.2 fun k hk => ?_]
      have e4 := h (k + r.2) (by omega)
      rw [atv_cons, if_neg (by omega), atv_cons, if_neg (by omega)] at e4
      rw [show k + r.2 - r.2 = k by omega] at e4
      exact e4
def atC (N : List ByteArray) (R : List Rn) (k : Int) : Int × Bool := if ckC N R = 0 ∧ 0 ≤ k then atv R k else (-1, false)
theorem atC_yes {N : List ByteArray} {R : List Rn} {k : Int} (h : ckC N R = 0) (hk : 0 ≤ k) : atC N R k = atv R k := by unfold atC; rw [if_pos ⟨h, hk⟩]
theorem atC_no {N : List ByteArray} {R : List Rn} {k : Int} (h : ¬ (ckC N R = 0 ∧ 0 ≤ k)) : atC N R k = (-1, false) := by unfold atC; rw [if_neg h]

/-! Parts. -/
def s1 (b : Int) (r : Rn) (f t : Int) : List Rn := if max b f < min (b + r.2) t then [(r.1, min (b + r.2) t - max b f)] else []
def sl : Int → List Rn → Int → Int → List Rn
  | _, [], _, _ => []
  | b, r :: l, f, t => s1 b r f t ++ sl (b + r.2) l f t
theorem sl_cons (b : Int) (r : Rn) (l : List Rn) (f t : Int) : sl b (r :: l) f t = s1 b r f t ++ sl (b + r.2) l f t := rfl
theorem sl_snoc (b : Int) (l : List Rn) (r : Rn) (f t : Int) : sl b (l ++ [r]) f t = sl b l f t ++ s1 (b + lg l) r f t := by
  induction l generalizing b with
  | nil => simp [sl, lg]
  | cons x l ih =>
    have e : lg (x :: l) = x.2 + lg l := rfl
    rw [List.cons_append, sl_cons, sl_cons, ih, e, List.append_assoc, Int.add_assoc]
theorem sl_take (l : List Rn) (j : Nat) (hj : j < l.length) (f t : Int) : sl 0 (l.take (j + 1)) f t = sl 0 (l.take j) f t ++ s1 (lg (l.take j)) l[j] f t := by
  rw [List.take_succ_eq_append_getElem hj, sl_snoc, Int.zero_add]
theorem s1_yes {b : Int} {r : Rn} {f t : Int} (h : max b f < min (b + r.2) t) : s1 b r f t = [(r.1, min (b + r.2) t - max b f)] := by unfold s1; rw [if_pos h]
theorem s1_no {b : Int} {r : Rn} {f t : Int} (h : ¬ max b f < min (b + r.2) t) : s1 b r f t = [] := by unfold s1; rw [if_neg h]
theorem s1_len (b : Int) (r : Rn) (f t : Int) : (s1 b r f t).length ≤ 1 := by unfold s1; split <;> simp
theorem sl_len (l : List Rn) (b f t : Int) : (sl b l f t).length ≤ l.length := by
  induction l generalizing b with
  | nil => simp [sl]
  | cons r l ih =>
    rw [sl_cons, List.length_append, List.length_cons]
    have := ih (b + r.2)
    have := s1_len b r f t
    omega
theorem sl_ps {l : List Rn} {b f t : Int} : ps (sl b l f t) := by
  induction l generalizing b with
  | nil => exact ps_nil
  | cons r l ih =>
    rw [sl_cons, ps_append]
    refine ⟨?_, ih⟩
    unfold s1; split
    · rename_i hlt; rw [ps_one]; show 1 ≤ min (b + r.2) t - max b f; omega
    · exact ps_nil
theorem sl_lv {m : Int} {l : List Rn} {b f t : Int} (h : lv m l) : lv m (sl b l f t) := by
  induction l generalizing b with
  | nil => exact lv_nil m
  | cons r l ih =>
    rw [lv_cons] at h
    rw [sl_cons]
    intro y hy
    rcases List.mem_append.1 hy with h1 | h1
    · unfold s1 at h1
      split at h1
      · rw [List.mem_singleton] at h1; subst h1; exact h.1
      · cases h1
    · exact ih h.2 y h1
theorem sl_lg {l : List Rn} {b f t : Int} (h : ps l) : lg (sl b l f t) = max 0 (min (b + lg l) t - max b f) := by
  induction l generalizing b with
  | nil => simp only [sl, lg]; omega
  | cons r l ih =>
    rw [ps_cons] at h
    have h0 := ps_nonneg h.2
    have e : lg (r :: l) = r.2 + lg l := rfl
    rw [sl_cons, lg_append, ih h.2, e]
    unfold s1
    split
    · rw [lg_one]; simp only; omega
    · simp only [lg]; omega
theorem sl_at {l : List Rn} {b f t k : Int} (h : ps l) (hk : 0 ≤ k) (hkt : k < t - max b f) : atv (sl b l f t) k = atv l (max b f + k - b) := by
  induction l generalizing b k with
  | nil => rfl
  | cons r l ih =>
    rw [ps_cons] at h
    rw [sl_cons]
    by_cases c : max b f < b + r.2
    · rw [s1_yes (by omega), List.cons_append, List.nil_append, atv_cons, atv_cons]
      simp only
      by_cases c2 : k < min (b + r.2) t - max b f
      · rw [if_pos c2, if_pos (by omega)]
      · rw [if_neg c2, if_neg (by omega), ih h.2 (by omega) (by omega)]
        congr 1
        omega
    · rw [s1_no (by omega), List.nil_append, atv_cons, if_neg (by omega), ih h.2 hk (by omega)]
      congr 1
      omega
def prt (R : List Rn) (f t : Int) : List Rn := jn (sl 0 R f t)
theorem prt_nil (f t : Int) : prt [] f t = [] := rfl
theorem prt_yes {R : List Rn} {j : Nat} (hj : j < R.length) {f t : Int} (h : max (lg (R.take j)) f < min (lg (R.take j) + R[j].2) t) : prt (R.take (j + 1)) f t = pt (prt (R.take j) f t) (R[j].1, min (lg (R.take j) + R[j].2) t - max (lg (R.take j)) f) := by
  unfold prt; rw [sl_take R j hj, s1_yes h, jn_snoc]
theorem prt_no {R : List Rn} {j : Nat} (hj : j < R.length) {f t : Int} (h : ¬ max (lg (R.take j)) f < min (lg (R.take j) + R[j].2) t) : prt (R.take (j + 1)) f t = prt (R.take j) f t := by
  unfold prt; rw [sl_take R j hj, s1_no h, List.append_nil]
theorem prt_len (R : List Rn) (f t : Int) : (prt R f t).length ≤ R.length := Nat.le_trans (jn_len _) (sl_len R 0 f t)
theorem prt_vr {m : Int} {R : List Rn} {f t : Int} (h : vr m 0 R = true) (hf : 0 ≤ f) : vr m 0 (prt R f t) = true := by
  obtain ⟨h1, h2, h3⟩ := (vr_iff m R 0 (by omega)).1 h
  refine jn_vr ((vr_iff m _ 0 (by omega)).2 ⟨sl_lv h1, sl_ps, ?_⟩)
  have := ps_nonneg h2
  rw [sl_lg h2]
  omega
theorem prt_lg {R : List Rn} {f t : Int} (h : ps R) (hf : 0 ≤ f) (ht : f < t) (hl : t ≤ lg R) : lg (prt R f t) = t - f := by
  unfold prt; rw [jn_lg, sl_lg h]; omega
theorem prt_at {R : List Rn} {f t k : Int} (h : ps R) (hf : 0 ≤ f) (hk : 0 ≤ k) (hkt : k < t - f) : atv (prt R f t) k = atv R (f + k) := by
  unfold prt
  rw [atv_jn k sl_ps hk, sl_at h hk (by omega)]
  congr 1
  omega
theorem sl_all {l : List Rn} {b t : Int} (h : ps l) (hb : 0 ≤ b) (ht : b + lg l ≤ t) : sl b l 0 t = l := by
  induction l generalizing b with
  | nil => rfl
  | cons r l ih =>
    rw [ps_cons] at h
    have h0 := ps_nonneg h.2
    have e : lg (r :: l) = r.2 + lg l := rfl
    rw [e] at ht
    rw [sl_cons, ih h.2 (by omega) (by omega), s1_yes (by omega)]
    show (r.1, min (b + r.2) t - max b 0) :: l = r :: l
    rw [show min (b + r.2) t - max b 0 = r.2 by omega]
theorem prt_all {m : Int} {R : List Rn} (h : vr m 0 R = true) : prt R 0 1099511627776 = jn R := by
  obtain ⟨h1, h2, h3⟩ := (vr_iff m R 0 (by omega)).1 h
  unfold prt; rw [sl_all h2 (by omega) h3]

end Si
end Go.Proofs.Ytgihljconpijaaa

namespace Go.Proofs.Ytgihljconpijaaa
namespace Si
open Go
set_option linter.unusedVariables false
set_option linter.unusedSimpArgs false

/-- The bit k of a level. -/
def bt (x : Int) (k : Nat) : Int := x / 2 ^ k % 2
theorem bt_01 (x : Int) (k : Nat) : bt x k = 0 ∨ bt x k = 1 := by unfold bt; omega
theorem bt_range (x : Int) (k : Nat) : 0 ≤ bt x k ∧ bt x k ≤ 1 := by have := bt_01 x k; omega
theorem and_one (x : Nat) (hx : x < 9223372036854775808) : bits .and .i64 (x : Int) 1 = ((x % 2 : Nat) : Int) := by
  show IntKind.i64.wrap ((BitVec.ofInt 64 x &&& BitVec.ofInt 64 1).toNat : Int) = _
  have e1 : (BitVec.ofInt 64 (x : Int)).toNat = x := by rw [BitVec.toNat_ofInt]; omega
  have e2 : (BitVec.ofInt 64 (1 : Int)).toNat = 1 := by decide
  rw [BitVec.toNat_and, e1, e2, Nat.and_one_is_mod, IntKind.wrap_i64]
  omega
theorem bt_nat (x k : Nat) : bt (x : Int) k = ((x / 2 ^ k % 2 : Nat) : Int) := by
  unfold bt; simp
/-- 'x >> k & 1' as the model has it. -/
theorem shr_and (x : Int) (k : Nat) (h0 : 0 ≤ x) (h1 : x ≤ 9223372036854775807) : bits .and .i64 (x.fdiv (2 ^ k)) 1 = bt x k := by
  obtain ⟨n, rfl⟩ : ∃ n : Nat, x = n := ⟨x.toNat, by omega⟩
  have e : (n : Int).fdiv (2 ^ k) = ((n / 2 ^ k : Nat) : Int) := by
    rw [Int.fdiv_eq_ediv_of_nonneg _ (Int.pow_nonneg (by omega))]; simp
  have h2 : n / 2 ^ k ≤ n := Nat.div_le_self _ _
  rw [e, and_one _ (by omega), bt_nat]
theorem shr_and2 (x : Int) (k : Nat) (h0 : 0 ≤ x) (h1 : x ≤ 9223372036854775807) : bits .and .i64 (x / 2 ^ k) 1 = bt x k := by
  rw [← shr_and x k h0 h1, Int.fdiv_eq_ediv_of_nonneg _ (Int.pow_nonneg (by omega))]

/-! A channel of runs. -/
def bts (R : List Rn) (k : Nat) : List Rn := R.map fun r => (bt r.1 k, r.2)
theorem bts_lg (R : List Rn) (k : Nat) : lg (bts R k) = lg R := by
  induction R with
  | nil => rfl
  | cons r R ih => unfold bts at ih ⊢; simp only [List.map_cons, lg, ih]
theorem bts_ps {R : List Rn} (h : ps R) (k : Nat) : ps (bts R k) := by
  intro y hy
  obtain ⟨r, hr, rfl⟩ := List.mem_map.1 hy
  exact h r hr
theorem bts_lv (R : List Rn) (k : Nat) : lv 1 (bts R k) := by
  intro y hy
  obtain ⟨r, hr, rfl⟩ := List.mem_map.1 hy
  exact bt_range r.1 k
theorem bts_len (R : List Rn) (k : Nat) : (bts R k).length = R.length := by simp [bts]
theorem bts_take (R : List Rn) (k j : Nat) (hj : j < R.length) : bts (R.take (j + 1)) k = bts (R.take j) k ++ [(bt R[j].1 k, R[j].2)] := by
  unfold bts
  rw [List.take_succ_eq_append_getElem hj, List.map_append]; rfl
theorem bts_at (R : List Rn) (k : Nat) (t : Int) : atv (bts R k) t = if (atv R t).2 = true then (bt (atv R t).1 k, true) else (-1, false) := by
  induction R generalizing t with
  | nil => rfl
  | cons r R ih =>
    have e : bts (r :: R) k = (bt r.1 k, r.2) :: bts R k := rfl
    rw [e, atv_cons]
    have e2 := atv_cons r R t
    by_cases h : t < r.2
    · rw [if_pos h] at e2; rw [e2, if_pos h]; rfl
    · rw [if_neg h] at e2; rw [e2, if_neg h, ih]
def chn (R : List Rn) (k : Nat) : List Rn := jn (bts R k)
theorem chn_take (R : List Rn) (k j : Nat) (hj : j < R.length) : chn (R.take (j + 1)) k = pt (chn (R.take j) k) (bt R[j].1 k, R[j].2) := by
  unfold chn; rw [bts_take R k j hj, jn_snoc]
theorem chn_len (R : List Rn) (k : Nat) : (chn R k).length ≤ R.length := by
  have := jn_len (bts R k)
  rw [bts_len] at this
  exact this
theorem chn_lg (R : List Rn) (k : Nat) : lg (chn R k) = lg R := by unfold chn; rw [jn_lg, bts_lg]
theorem chn_ps {R : List Rn} (h : ps R) (k : Nat) : ps (chn R k) := jn_ps (bts_ps h k)
theorem chn_vr {m : Int} {R : List Rn} (h : vr m 0 R = true) (k : Nat) : vr 1 0 (chn R k) = true := by
  obtain ⟨h1, h2, h3⟩ := (vr_iff m R 0 (by omega)).1 h
  exact (vr_iff 1 _ 0 (by omega)).2 ⟨jn_lv (bts_lv R k), chn_ps h2 k, by rw [chn_lg]; exact h3⟩
theorem chn_at {R : List Rn} (h : ps R) (k : Nat) {t : Int} (h0 : 0 ≤ t) (h1 : t < lg R) : atv (chn R k) t = (bt (atv R t).1 k, true) := by
  unfold chn
  rw [atv_jn t (bts_ps h k) h0, bts_at, if_pos (atv_in h0 h h1).1]

end Si
end Go.Proofs.Ytgihljconpijaaa

namespace Go.Proofs.Ytgihljconpijaaa
namespace Si
open Go
set_option linter.unusedVariables false
set_option linter.unusedSimpArgs false

abbrev Ed := Int × Int × Int
/-- The changes of the channels from i on, f of them, between the levels a and b at the tick t. -/
def cg (a b t : Int) : Nat → Nat → List Ed
  | _, 0 => []
  | i, f + 1 => (if bt a i = bt b i then [] else [(t, ((i : Nat) : Int), bt b i)]) ++ cg a b t (i + 1) f
theorem cg_succ (a b t : Int) (i f : Nat) : cg a b t i (f + 1) = (if bt a i = bt b i then [] else [(t, ((i : Nat) : Int), bt b i)]) ++ cg a b t (i + 1) f := rfl
theorem cg_len (a b t : Int) (i f : Nat) : (cg a b t i f).length ≤ f := by
  induction f generalizing i with
  | zero => simp [cg]
  | succ f ih =>
    rw [cg_succ, List.length_append]
    have := ih (i + 1)
    split <;> simp <;> omega
/-- The changes from a run of level a that ends at t on. -/
def ef (n : Nat) : Int → Int → List Rn → List Ed
  | _, _, [] => []
  | a, t, b :: l => cg a b.1 t 0 n ++ ef n b.1 (t + b.2) l
theorem ef_cons (n : Nat) (a t : Int) (b : Rn) (l : List Rn) : ef n a t (b :: l) = cg a b.1 t 0 n ++ ef n b.1 (t + b.2) l := rfl
def edg (n : Nat) : List Rn → List Ed
  | [] => []
  | a :: l => ef n a.1 a.2 l
theorem ef_len (n : Nat) (a t : Int) (l : List Rn) : (ef n a t l).length ≤ n * l.length := by
  induction l generalizing a t with
  | nil => simp [ef]
  | cons b l ih =>
    rw [ef_cons, List.length_append, List.length_cons, Nat.mul_add, Nat.mul_one]
    have := ih b.1 (t + b.2)
    have := cg_len a b.1 t 0 n
    omega
theorem edg_len (n : Nat) (R : List Rn) : (edg n R).length ≤ n * R.length := by
  cases R with
  | nil => simp [edg]
  | cons a l =>
    have := ef_len n a.1 a.2 l
    rw [List.length_cons, Nat.mul_add]
    show (ef n a.1 a.2 l).length ≤ _
    omega
/-- What is left to be put out before the run j. -/
def rs (n : Nat) (R : List Rn) (j : Nat) : List Ed := if j = 0 then edg n R else ef n (R.getD (j - 1) (0, 0)).1 (lg (R.take j)) (R.drop j)
theorem rs_zero (n : Nat) (R : List Rn) : rs n R 0 = edg n R := rfl
theorem rs_one {n : Nat} {R : List Rn} (h : 0 < R.length) : rs n R 1 = edg n R := by
  cases R with
  | nil => simp at h
  | cons a l =>
    unfold rs
    rw [if_neg (by omega)]
    simp [edg, lg]
theorem rs_step {n : Nat} {R : List Rn} {i : Nat} (h : i + 1 < R.length) : rs n R (i + 1) = cg R[i].1 R[i + 1].1 (lg (R.take (i + 1))) 0 n ++ rs n R (i + 2) := by
  have e : ∀ j, rs n R (j + 1) = ef n (R.getD j (0, 0)).1 (lg (R.take (j + 1))) (R.drop (j + 1)) := fun j => if_neg (by omega)
  rw [e i, e (i + 1), List.drop_eq_getElem_cons h, ef_cons, lg_take R (i + 1) h]
  simp [show i < R.length by omega, h]
theorem rs_end {n : Nat} {R : List Rn} {j : Nat} (h : R.length ≤ j) (hj : 0 < j) : rs n R j = [] := by
  unfold rs
  rw [if_neg (by omega), List.drop_eq_nil_of_le h]; rfl
def edC (N : List ByteArray) (R : List Rn) : List Ed := if ckC N R = 0 then edg N.length R else []
theorem edC_yes {N : List ByteArray} {R : List Rn} (h : ckC N R = 0) : edC N R = edg N.length R := by unfold edC; rw [if_pos h]
theorem edC_no {N : List ByteArray} {R : List Rn} (h : ¬ ckC N R = 0) : edC N R = [] := by unfold edC; rw [if_neg h]

end Si
end Go.Proofs.Ytgihljconpijaaa

namespace Go.Proofs.Ytgihljconpijaaa
namespace Si
open Go
set_option linter.unusedVariables false
set_option linter.unusedSimpArgs false

/-- The levels of all at a tick. -/
def lvl : List (List Rn) → Int → Int
  | [], _ => 0
  | w :: ws, k => (atv w k).1 + 2 * lvl ws k
theorem lvl_append (a b : List (List Rn)) (k : Int) : lvl (a ++ b) k = lvl a k + 2 ^ a.length * lvl b k := by
  induction a with
  | nil => simp [lvl]
  | cons w a ih =>
    have e : (2 : Int) ^ (a.length + 1) = 2 * 2 ^ a.length := by rw [Int.pow_succ]; omega
    simp only [List.cons_append, lvl, ih, List.length_cons, e, Int.mul_add, Int.mul_assoc, Int.add_assoc]
theorem lvl_take (ws : List (List Rn)) (i : Nat) (hi : i < ws.length) (k : Int) : lvl (ws.take (i + 1)) k = lvl (ws.take i) k + (atv ws[i] k).1 * 2 ^ i := by
  rw [List.take_succ_eq_append_getElem hi, lvl_append, List.length_take, Nat.min_eq_left (by omega)]
  simp only [lvl, Int.mul_zero, Int.add_zero]
  rw [Int.mul_comm (2 ^ i)]
def w01 (ws : List (List Rn)) (k : Int) : Prop := ∀ w ∈ ws, (atv w k).1 = 0 ∨ (atv w k).1 = 1
theorem lvl_range {ws : List (List Rn)} {k : Int} (h : w01 ws k) : 0 ≤ lvl ws k ∧ lvl ws k < 2 ^ ws.length := by
  induction ws with
  | nil => simp [lvl]
  | cons w ws ih =>
    have h1 := ih (fun x hx => h x (by simp [hx]))
    have h2 := h w (by simp)
    have e : (2 : Int) ^ (ws.length + 1) = 2 * 2 ^ ws.length := by rw [Int.pow_succ]; omega
    simp only [lvl, List.length_cons, e]
    omega
theorem w01_take {ws : List (List Rn)} {k : Int} (h : w01 ws k) (i : Nat) : w01 (ws.take i) k := fun w hw => h w (List.mem_of_mem_take hw)
/-- 'acc | (b << i)'. -/
theorem or_i64 (a b i : Nat) (ha : a < 2 ^ i) (hb : b ≤ 1) (hi : i ≤ 15) : bits .or .i64 (a : Int) ((b * 2 ^ i : Nat) : Int) = ((a + b * 2 ^ i : Nat) : Int) := by
  have hp : 2 ^ i ≤ 2 ^ 15 := Nat.pow_le_pow_right (by omega) hi
  have hx : b * 2 ^ i ≤ 1 * 2 ^ i := Nat.mul_le_mul_right _ hb
  have ho : a ||| b * 2 ^ i = a + b * 2 ^ i := by
    rw [Nat.mul_comm, Nat.or_comm, ← Nat.two_pow_add_eq_or_of_lt ha, Nat.add_comm]
  show IntKind.i64.wrap ((BitVec.ofInt 64 a ||| BitVec.ofInt 64 ((b * 2 ^ i : Nat) : Int)).toNat : Int) = _
  have e1 : (BitVec.ofInt 64 (a : Int)).toNat = a := by rw [BitVec.toNat_ofInt]; omega
  have e2 : (BitVec.ofInt 64 ((b * 2 ^ i : Nat) : Int)).toNat = b * 2 ^ i := by rw [BitVec.toNat_ofInt]; omega
  rw [BitVec.toNat_or, e1, e2, ho, IntKind.wrap_i64]
  omega
/-- The same, of numbers. -/
theorem or_step {acc b : Int} {i : Nat} (h0 : 0 ≤ acc) (h1 : acc < 2 ^ i) (hb : b = 0 ∨ b = 1) (hi : i ≤ 15) : bits .or .i64 acc (b * 2 ^ i) = acc + b * 2 ^ i := by
  obtain ⟨a, rfl⟩ : ∃ a : Nat, acc = a := ⟨acc.toNat, by omega⟩
  obtain ⟨c, rfl⟩ : ∃ c : Nat, b = c := ⟨b.toNat, by omega⟩
  have e : (2 : Int) ^ i = ((2 ^ i : Nat) : Int) := by simp
  rw [e] at h1 ⊢
  have := or_i64 a c i (by omega) (by omega) hi
  rw [Int.natCast_mul] at this
  rw [this, Int.natCast_add, Int.natCast_mul]

/-! The position of a tick in a wave. -/
def Pz (W : List Rn) (t : Int) (p : Int × Int) : Prop := ∃ j : Nat, p.1 = j ∧ j ≤ W.length ∧ lg (W.take j) + p.2 = t ∧ 0 ≤ p.2 ∧ (∀ h : j < W.length, p.2 < W[j].2) ∧ (j = W.length → p.2 = 0)
theorem Pz_start {W : List Rn} (h : ps W) : Pz W 0 (0, 0) := by
  refine ⟨0, rfl, Nat.zero_le _, rfl, Int.le_refl _, fun hl => ?_, fun _ => rfl⟩
  have := h W[0] (List.getElem_mem hl)
  show (0 : Int) < _
  omega
theorem Pz_in {W : List Rn} {t : Int} {p : Int × Int} (h : Pz W t p) (ht : t < lg W) : ∃ (j : Nat) (hj : j < W.length), p.1 = j ∧ lg (W.take j) + p.2 = t ∧ 0 ≤ p.2 ∧ p.2 < W[j].2 := by
  obtain ⟨j, h1, h2, h3, h4, h5, h6⟩ := h
  have hj : j < W.length := by
    rcases Nat.lt_or_ge j W.length with c | c
    · exact c
    · have e : j = W.length := by omega
      have := h6 e
      rw [e, List.take_length] at h3
      omega
  exact ⟨j, hj, h1, h3, h4, h5 hj⟩
theorem Pz_out {W : List Rn} {t : Int} {p : Int × Int} (hp : ps W) (h : Pz W t p) (ht : p.1 = W.length) : t = lg W := by
  obtain ⟨j, h1, h2, h3, h4, h5, h6⟩ := h
  have e : j = W.length := by omega
  have := h6 e
  rw [e, List.take_length] at h3
  omega
/-- d ticks on, with no end of a run in between. -/
def av (W : List Rn) (d : Int) (p : Int × Int) : Int × Int := if p.2 + d = (W.getD p.1.toNat (0, 0)).2 then (p.1 + 1, 0) else (p.1, p.2 + d)
theorem Pz_step {W : List Rn} {t d : Int} {p : Int × Int} (hp : ps W) (h : Pz W t p) (ht : t < lg W) (hd : 0 ≤ d) (hr : d ≤ (W.getD p.1.toNat (0, 0)).2 - p.2) : Pz W (t + d) (av W d p) := by
  obtain ⟨j, hj, h1, h3, h4, h5⟩ := Pz_in h ht
  have e : W.getD p.1.toNat (0, 0) = W[j] := by rw [h1]; simp [hj]
  unfold av
  rw [e] at hr ⊢
  by_cases c : p.2 + d = W[j].2
  · rw [if_pos c]
    have hl := lg_take W j hj
    refine ⟨j + 1, by show p.1 + 1 = _; omega, by omega, by show lg (W.take (j + 1)) + 0 = _; omega, Int.le_refl _, fun hl => ?_, fun _ => rfl⟩
    have := hp W[j + 1] (List.getElem_mem hl)
    show (0 : Int) < _
    omega
  · rw [if_neg c]
    exact ⟨j, h1, by omega, by show lg (W.take j) + (p.2 + d) = _; omega, by show 0 ≤ p.2 + d; omega, fun hl => by show p.2 + d < _; omega, fun e => by omega⟩
theorem Pz_level {W : List Rn} {t d : Int} {p : Int × Int} (hp : ps W) (h : Pz W t p) (ht : t < lg W) (hr : d ≤ (W.getD p.1.toNat (0, 0)).2 - p.2) {k : Int} (h0 : t ≤ k) (h1 : k < t + d) : atv W k = ((W.getD p.1.toNat (0, 0)).1, true) := by
  obtain ⟨j, hj, e1, h3, h4, h5⟩ := Pz_in h ht
  have e : W.getD p.1.toNat (0, 0) = W[j] := by rw [e1]; simp [hj]
  rw [e] at hr ⊢
  exact atv_run hp hj (by omega) (by rw [lg_take W j hj]; omega)

/-! What is put together up to a tick. -/
def Cb (ws : List (List Rn)) (t : Int) (out : List Rn) : Prop := al out ∧ ps out ∧ lg out = t ∧ ∀ k, 0 ≤ k → k < t → atv out k = (lvl ws k, true)
theorem Cb_start (ws : List (List Rn)) : Cb ws 0 [] := ⟨al_nil, ps_nil, rfl, fun k h0 h1 => by omega⟩
theorem Cb_step {ws : List (List Rn)} {t d L : Int} {out : List Rn} (h : Cb ws t out) (hd : 1 ≤ d) (hL : ∀ k, t ≤ k → k < t + d → lvl ws k = L) : Cb ws (t + d) (pt out (L, d)) := by
  obtain ⟨h1, h2, h3, h4⟩ := h
  refine ⟨pt_al h1, pt_ps h2 hd, by rw [pt_lg, h3], fun k k0 k1 => ?_⟩
  have := atv_pt out (L, d) [] k h2 hd k0
  rw [List.append_nil] at this
  rw [this, atv_append _ _ k h2 k0, h3]
  by_cases c : k < t
  · rw [if_pos c]; exact h4 k k0 c
  · rw [if_neg c, atv_cons, if_pos (by show k - t < d; omega), hL k (by omega) k1]
theorem Cb_unique {ws : List (List Rn)} {t : Int} {a b : List Rn} (ha : Cb ws t a) (hb : Cb ws t b) : a = b := by
  obtain ⟨a1, a2, a3, a4⟩ := ha
  obtain ⟨b1, b2, b3, b4⟩ := hb
  refine al_unique a1 a2 b1 b2 fun k k0 => ?_
  by_cases c : k < t
  · rw [a4 k k0 c, b4 k k0 c]
  · rw [atv_end a2 (by omega), atv_end b2 (by omega)]
/-- The channels of a capture make it. -/
theorem lvl_bits (R : List Rn) (n : Nat) (L t : Int) (h0 : 0 ≤ L) (hL : L < 2 ^ n) (f : Nat → List Rn) (i : Nat) (hf : ∀ k, k < n → atv (f (i + k)) t = (bt (L * 2 ^ i) (i + k), true)) : lvl ((List.range' i n).map f) t = L := by
  induction n generalizing i L with
  | zero => simp [lvl] at hL ⊢; omega
  | succ n ih =>
    have e2 : (2 : Int) ^ (n + 1) = 2 * 2 ^ n := by rw [Int.pow_succ]; omega
    have hb : bt (L * 2 ^ i) (i + 0) = L % 2 := by
      unfold bt
      rw [Nat.add_zero, Int.mul_ediv_cancel _ (by have : (0 : Int) < 2 ^ i := Int.pow_pos (by omega); omega)]
    have := hf 0 (by omega)
    rw [hb] at this
    rw [List.range'_succ, List.map_cons]
    simp only [lvl]
    rw [Nat.add_zero] at this
    rw [this, ih (L / 2) (by omega) (by omega) (i + 1) fun k hk => ?_]
    · simp only; omega
    · have h2 := hf (k + 1) (by omega)
      rw [show i + 1 + k = i + (k + 1) by omega, h2]
      congr 1
      unfold bt
      rw [Int.pow_succ 2 i]
      have e3 : (2 : Int) ^ (i + (k + 1)) = 2 ^ i * (2 * 2 ^ k) := by rw [Int.pow_add, Int.pow_succ]; congr 1; omega
      have e4 : L * 2 ^ i / (2 ^ i * (2 * 2 ^ k)) = L / (2 * 2 ^ k) := by
        rw [Int.mul_comm L]
        exact Int.mul_ediv_mul_of_pos _ _ (Int.pow_pos (by omega))
      have e5 : L / 2 * (2 ^ i * 2) / (2 ^ i * (2 * 2 ^ k)) = L / 2 / 2 ^ k := by
        rw [Int.mul_comm (L / 2), ← Int.mul_assoc (2 ^ i) 2 (2 ^ k)]
        exact Int.mul_ediv_mul_of_pos _ _ (by have : (0 : Int) < 2 ^ i := Int.pow_pos (by omega); omega)
      rw [e3, e4, e5, Int.ediv_ediv_of_nonneg (by omega)]
theorem Cb_chn {m : Int} {R : List Rn} {n : Nat} (hv : vr (mk n) 0 R = true) : Cb ((List.range n).map (chn R)) (lg R) (jn R) := by
  obtain ⟨h1, h2, h3⟩ := (vr_iff _ R 0 (by omega)).1 hv
  refine ⟨jn_al R, jn_ps h2, jn_lg R, fun k k0 k1 => ?_⟩
  rw [atv_jn k h2 k0]
  obtain ⟨a1, r, a2, a3⟩ := atv_in k0 h2 k1
  have hr := h1 r a2
  have e : lvl ((List.range n).map (chn R)) k = (atv R k).1 := by
    rw [List.range_eq_range']
    refine lvl_bits R n _ k (by omega) (by have : mk n = 2 ^ n - 1 := rfl; omega) (chn R) 0 fun i hi => ?_
    rw [chn_at h2 _ k0 k1]
    simp
  rw [e]
  exact Prod.ext rfl a1

/-! Sums of positions. -/
def sj : List (Int × Int) → Int
  | [] => 0
  | p :: l => p.1 + sj l
def sl2 : List (List Rn) → Int
  | [] => 0
  | w :: ws => (w.length : Int) + sl2 ws
theorem sl2_nonneg (ws : List (List Rn)) : 0 ≤ sl2 ws := by
  induction ws with
  | nil => exact Int.le_refl _
  | cons w ws ih => simp only [sl2]; omega

end Si
end Go.Proofs.Ytgihljconpijaaa

namespace Go.Proofs.Ytgihljconpijaaa
namespace Si
open Go.RowKit
set_option linter.unusedVariables false
set_option linter.unusedSimpArgs false

theorem rune_cont (s : ByteArray) (pos : Nat) : (Utf8.decode s pos).2 ≤ 4 ∧ ∀ k, 1 ≤ k → k < (Utf8.decode s pos).2 → pos + k < s.size ∧ 128 ≤ (s.get! (pos + k)).toNat := by
  have key : ∀ k, (decide (pos + k < s.size) && (s.get! (pos + k)).toNat / 64 == 2) = true → pos + k < s.size ∧ 128 ≤ (s.get! (pos + k)).toNat := by
    intro k h
    rw [Bool.and_eq_true, decide_eq_true_eq, beq_iff_eq] at h
    omega
  simp only [Utf8.decode]
  split
  · exact ⟨by omega, fun k h1 h2 => by omega⟩
  split
  · rename_i h
    rw [Bool.and_eq_true] at h
    have k1 := key 1 h.2
    split
    · refine ⟨by omega, fun k h1 h2 => ?_⟩
      obtain rfl : k = 1 := by simp only at h2; omega
      exact k1
    · exact ⟨by simp, fun k h1 h2 => by simp only at h2; omega⟩
  split
  · rename_i h
    rw [Bool.and_eq_true, Bool.and_eq_true] at h
    have k1 := key 1 h.1.2
    have k2 := key 2 h.2
    split
    · refine ⟨by omega, fun k h1 h2 => ?_⟩
      have : k = 1 ∨ k = 2 := by simp only at h2; omega
      rcases this with rfl | rfl
      · exact k1
      · exact k2
    · exact ⟨by simp, fun k h1 h2 => by simp only at h2; omega⟩
  split
  · rename_i h
    rw [Bool.and_eq_true, Bool.and_eq_true, Bool.and_eq_true] at h
    have k1 := key 1 h.1.1.2
    have k2 := key 2 h.1.2
    have k3 := key 3 h.2
    split
    · refine ⟨by omega, fun k h1 h2 => ?_⟩
      have : k = 1 ∨ k = 2 ∨ k = 3 := by simp only at h2; omega
      rcases this with rfl | rfl | rfl
      · exact k1
      · exact k2
      · exact k3
    · exact ⟨by simp, fun k h1 h2 => by simp only at h2; omega⟩
  · exact ⟨by simp, fun k h1 h2 => by simp only at h2; omega⟩

theorem get_lit (s : ByteArray) (k : Nat) (h : k < s.size) : s.get! k = s[k] := by simpa using get_at s k h
/-- A rune that begins with a byte of 128 or more: all its bytes are such. -/
theorem rune_high (s : ByteArray) (pos : Nat) (h : pos < s.size) (ha : 128 ≤ s[pos].toNat) :
    128 ≤ (Utf8.decode s pos).1 ∧ 1 ≤ (Utf8.decode s pos).2 ∧ pos + (Utf8.decode s pos).2 ≤ s.size ∧ ∀ x ∈ (s.data.toList.drop pos).take (Utf8.decode s pos).2, 128 ≤ x.toNat := by
  obtain ⟨d1, d2⟩ := decode_high s pos h ha
  obtain ⟨_, hc⟩ := rune_cont s pos
  generalize (Utf8.decode s pos).2 = n at *
  refine ⟨d1, d2, ?_, ?_⟩
  · by_cases h1 : n = 1
    · omega
    · have := (hc (n - 1) (by omega) (by omega)).1; omega
  · intro x hx
    obtain ⟨j, hj, rfl⟩ := List.mem_iff_getElem.1 hx
    have hj2 : j < n := by rw [List.length_take] at hj; omega
    rw [List.getElem_take, List.getElem_drop]
    by_cases h0 : j = 0
    · subst h0; exact ha
    · obtain ⟨h2, h3⟩ := hc j (by omega) hj2
      rw [get_lit s _ h2] at h3
      exact h3
theorem drop_at (s : ByteArray) (k : Nat) (h : k < s.size) : s.data.toList.drop k = s[k] :: s.data.toList.drop (k + 1) := List.drop_eq_getElem_cons (by simpa using h)
theorem drop_end (s : ByteArray) (k : Nat) (h : ¬ k < s.size) : s.data.toList.drop k = [] := List.drop_eq_nil_of_le (by simp; omega)

end Si
end Go.Proofs.Ytgihljconpijaaa
