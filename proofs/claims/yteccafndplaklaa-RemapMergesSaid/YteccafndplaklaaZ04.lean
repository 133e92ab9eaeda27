/-
  Small facts of our own that every seat's proofs use: memory that only grows, endings, bytes, and from a walk to a statement's row.
  Names and captures, plain: characters, names, runs of whatever levels; valid, joined, length, level at a tick, parts.
  Bits of levels, plain.
  Edges, plain.
  Several waves together, plain.
  Structs and arrays of one-cell parts among a function's arguments, opened part by part.
  Slices of structs of one-cell fields among a function's arguments, opened element by element, with what their weights say.
  Transformations of captures, plain: two lists of runs side by side, a list kept longer, begun later, chosen channels, scaled times.
  Names that stand once, plain: twice, chosen names and their errors, the names of two captures, a renamed one; the laws' levels.
  Runes of any string: the width, and that no special character lies within a rune of several bytes.
-/
import Derived.Test.YteccafndplaklaaRows
import Derived.WalkKit
import Derived.WalkSpells
import Derived.WalkLawsBesides
import Derived.Deep.QuietTactic
import Derived.BigQuiet
import Derived.IntWalk
import Derived.Lib.Hide
import Derived.Handy
import Derived.Deep.RegionWith
import Derived.ProofKit
import Derived.LaidMore
import Derived.OpenShut
import Derived.Stop.Joined
import Derived.HandedShaped
import Derived.SevenTiedAt
import Derived.Lib.LaidTab
import Derived.Lib.SmallJoins
import Derived.Carry
import Derived.WalkSmall
import Derived.Lib.Strings
import Derived.Lib.OthersKept
import Derived.SizedLaws
import Derived.Deep.Slices
import Derived.Laws.RangeAny
namespace Go.Proofs.Yteccafndplaklaa
open Go Go.ChangeShapes Go.WideShapes Go.ChangeAt Go.RowKit

/-! Endings. -/
theorem ret_int {k : IntKind} {a b : Int} (h : a = b) : Ending.returned (.int k a) = .returned (.int k b) := by rw [h]
theorem val_int {k : IntKind} {a b : Int} (h : a = b) : Value.int k a = .int k b := by rw [h]
theorem ret_bool {a b : Bool} (h : a = b) : Ending.returned (.bool a) = .returned (.bool b) := by rw [h]

/-! Memory only grows. -/
theorem le_alloc {B : Nat} {w : World} (h : B ≤ w.heap.size) (o : Obj) : B ≤ (w.alloc o).heap.size := by rw [World.size_alloc]; omega
theorem le_setCell {B : Nat} {w : World} (h : B ≤ w.heap.size) (a : Addr) (v : Value) : B ≤ (w.setCell a v).heap.size := by rw [World.size_setCell]; exact h
theorem le_drew {B : Nat} {w : World} (h : B ≤ w.heap.size) : B ≤ w.drew.heap.size := h
theorem le_drewN {B : Nat} {w : World} (h : B ≤ w.heap.size) (n : Nat) : B ≤ (w.drewN n).heap.size := h
theorem ba (w : World) (o : Obj) : Below w.heap.size w (w.alloc o) := (Below.refl _ _).alloc (Nat.le_refl _) _
theorem bcell {W w1 : World} (hb : Below W.heap.size W w1) : (∀ b o, b < W.heap.size → w1.cell? ⟨b, o, none⟩ = W.cell? ⟨b, o, none⟩) ∧ (∀ b o, b < W.heap.size → w1.frozen? ⟨b, o, none⟩ = W.frozen? ⟨b, o, none⟩) :=
  ⟨fun b o h => hb.cell (p := ⟨b, o, none⟩) h, fun b o h => hb.frozen (p := ⟨b, o, none⟩) h⟩
/-- Two cells of an old block, behind what only makes memory; of a new one. -/
theorem old2 {w w' : World} {b : Nat} {x y : Value} (hb : Below w.heap.size w w') (h : w.cell? ⟨b, 0, none⟩ = some x ∧ w.cell? ⟨b, 1, none⟩ = some y ∧ b < w.heap.size) : w'.cell? ⟨b, 0, none⟩ = some x ∧ w'.cell? ⟨b, 1, none⟩ = some y ∧ b < w'.heap.size :=
  ⟨by rw [hb.cell h.2.2]; exact h.1, by rw [hb.cell h.2.2]; exact h.2.1, Nat.lt_of_lt_of_le h.2.2 hb.size⟩
theorem new2 (w : World) (x y : Value) (T : TypeId) : (w.alloc (.cells #[x, y] T)).cell? ⟨w.heap.size, 0, none⟩ = some x ∧ (w.alloc (.cells #[x, y] T)).cell? ⟨w.heap.size, 1, none⟩ = some y ∧ w.heap.size < (w.alloc (.cells #[x, y] T)).heap.size :=
  ⟨by go_simp, by go_simp, by rw [World.size_alloc]; omega⟩
/-- A result of two cells, stored behind calls. -/
theorem two_set {wa : World} {b : Nat} {u0 u1 v0 v1 : Value} (h0 : wa.cell? ⟨b, 0, none⟩ = some u0) (h1 : wa.cell? ⟨b, 1, none⟩ = some u1) :
    ((wa.setCell ⟨b, 0, none⟩ v0).setCell ⟨b, 1, none⟩ v1).cell? ⟨b, 0, none⟩ = some v0 ∧ ((wa.setCell ⟨b, 0, none⟩ v0).setCell ⟨b, 1, none⟩ v1).cell? ⟨b, 1, none⟩ = some v1 := by
  constructor
  · rw [World.cell?_setCell_other _ _ _ _ (by simp)]; exact World.cell?_setCell_same _ _ _ h0
  · exact World.cell?_setCell_same _ _ _ (by rw [World.cell?_setCell_other _ _ _ _ (by simp)]; exact h1)

/-! Bytes. -/
theorem size_len (s : ByteArray) : s.size = s.data.toList.length := Lib.size_eq s
theorem toList_mk (l : List UInt8) : (⟨l.toArray⟩ : ByteArray).data.toList = l := by simp
theorem size_mk (l : List UInt8) : (⟨l.toArray⟩ : ByteArray).size = l.length := by rw [size_len, toList_mk]
theorem bytes_of (s : ByteArray) : (⟨s.data.toList.toArray⟩ : ByteArray) = s := by cases s; simp
theorem getElem_toList (s : ByteArray) (k : Nat) (h : k < s.size) : s.data.toList[k]'(by simpa using h) = s[k] := rfl
theorem empty_toList {s : ByteArray} (h : s.size = 0) : s.data.toList = [] := by
  rw [← List.length_eq_zero_iff]; simpa using h
theorem take_snoc (s : ByteArray) (k : Nat) (h : k < s.size) : s.data.toList.take (k + 1) = s.data.toList.take k ++ [s[k]] := by
  rw [List.take_succ_eq_append_getElem (by simpa using h)]; rfl

/-! From a walk to a statement's row. -/
theorem own : ownKnob Try.prog.godebug = none := by kernel_rfl
theorem laidOut : laidOutB Try.prog = true := by kernel_rfl
/-- The wrap that keeps both a condition on memory and the world's shape. -/
theorem handed_listed {H : Type} {enc : TypeId × Value → H} {C : Checked} {os : Os} {f : FuncId} {fn : Func} {s : ChangeSpec} {X : World → Prop}
    (hX : ∀ w w' : World, w.heap = w'.heap → X w → X w')
    (ho : ownKnob C.prog.godebug = none) (started : os.Started) (noInit : C.prog.inits.idxOf? f = none) (hfn : C.prog.funcs[f]? = some fn)
    (witness : ∃ (w : World) (tape : Tape) (i : Input), w.os = os ∧ (w.forCall tape i).Shaped C.prog ∧ i.vars = [] ∧ Input.okWide C.prog (w.forCall tape i) .any w.heap.size f i ∧
      ((s.pre enc C.prog fn [] false (w.forCall tape i).memory i.args ∧ X (w.forCall tape i).memory) ∧ sizedMet enc C.prog fn (OpenSpec.ofChange s) false (w.forCall tape i).memory i.args) ∧ Assume.holds {} C.prog (lone (Frame.enter C.prog f i.args .normal) [] (w.forCall tape i)))
    (contract : ∀ (W : World) (base : Nat) (args : Array Value) (ds gs : List (DataW H)) (before : List MemPlace),
      (∀ (j : Nat) t v, fn.params[j]? = some t → args[j]? = some v → Value.okWide C.prog W .any base t v) →
      DataW.Whole enc C.prog fn.params.toList s.vars false W args.toList ds gs before →
      (DataW.weightsEach C.prog (fn.params.toList ++ s.plain.varTypes C.prog) (ds ++ gs)).all (· ≤ reachBytes) = true → X W → W.ShapedOpen C.prog →
      Calls C.prog f args W fun e W' => ∃ v, e = .returned v ∧ s.post enc C.prog fn false true false false W args v W') :
    ReturnsInHanded {} C os f .any (fun w args => (s.pre enc C.prog fn [] false w args ∧ X w) ∧ sizedMet enc C.prog fn (OpenSpec.ofChange s) false w args) (s.post enc C.prog fn false true false false) :=
  returnsInHanded_of_calls ho started noInit witness fun w tape i _ hsh _ hok hpre _ => by
    obtain ⟨⟨⟨ds, gs, before, hw, _⟩, hx⟩, hz⟩ := hpre
    obtain ⟨_, _, _, fn', hfn', _, _, _, _, hval⟩ := hok
    obtain rfl : fn = fn' := Option.some.inj (hfn.symm.trans hfn')
    refine (contract (w.forCall tape i) w.heap.size i.args ds gs before hval (DataW.Whole.of_heap (w' := w.forCall tape i) (by rfl) hw) (hz.weights hw) (hX (w.forCall tape i).memory (w.forCall tape i) (by rfl) hx) hsh).mono ?_
    rintro e W' ⟨v, rfl, hp⟩
    exact ChangeSpec.post_blind hp
/-- Readings of old memory stand behind what only makes memory. -/
theorem below_trodAll {H : Type} {enc : TypeId × Value → H} {P : Program} {W W' : World} (hl : laidOutB P = true) (hb : Below W.heap.size W W') (ts : List TypeId) :
    ∀ (vs : List Value) (ds : List (DataW H)) (ps : List MemPlace), (ts.all fun t => P.readableRec t && decide (t < P.types.size)) = true →
      DataW.TrodAll enc P W 0 (fun _ => true) true ts vs ds ps → (∀ p ∈ ps, p.block < W.heap.size) → DataW.TrodAll enc P W' 0 (fun b => decide (b < W.heap.size)) true ts vs ds ps := by
  induction ts with
  | nil =>
    intro vs ds ps _ h _
    match vs, ds, h with
    | [], [], h => exact h
  | cons t ts ih =>
    intro vs ds ps hr h hlt
    match vs, ds, h with
    | v :: vs, d :: ds, h =>
      obtain ⟨p, q, h1, h2, rfl⟩ := h
      simp only [List.all_cons, Bool.and_eq_true] at hr
      exact ⟨p, q, Below.trod hl hr.1.1 (of_decide_eq_true hr.1.2) h1 hb (fun x hx => hlt x (List.mem_append_left _ hx)), ih vs ds q hr.2 h2 (fun x hx => hlt x (List.mem_append_right _ hx)), rfl⟩
/-- A statement's row, once its call returns true and only makes memory. -/
theorem law_post {H : Type} {enc : TypeId × Value → H} {f : Func} {s : ChangeSpec} {W W' : World} {args : Array Value} {ds gs : List (DataW H)} {before : List MemPlace}
    (hW : DataW.Whole enc Try.prog f.params.toList s.vars false W args.toList ds gs before) (hv : s.vars = []) (hr : f.resultTypes = #[4])
    (ht : (f.params.toList.all fun t => Try.prog.readableRec t && decide (t < Try.prog.types.size)) = true)
    (hfn : s.fn H (ds ++ gs) = { results := [.lit (.bool true)], args := ds }) (hb : Below W.heap.size W W') :
    s.post enc Try.prog f false true false false W args (.bool true) W' := by
  have hlt := hW.lt
  have hW' := hW
  obtain ⟨p, q, hA, hV, rfl, _, _⟩ := hW
  rw [hv] at hV
  obtain ⟨rfl, rfl⟩ := trodVars_none hV
  have hA' := below_trodAll laidOut hb _ _ _ _ ht hA (fun x hx => hlt x (List.mem_append_left _ hx))
  refine ⟨ds, [], _, [], p, [], hW', ?_, ?_, ?_, hb.frame _, fun h => by cases h⟩
  · rw [hfn, hr]; exact trodAll_mk1 (shut_bool Try.underlying4 true)
  · rw [hfn]; exact hA'
  · rw [hfn, hv]; rfl

end Go.Proofs.Yteccafndplaklaa

namespace Go.Proofs.Yteccafndplaklaa
set_option linter.unusedVariables false
set_option linter.unusedSimpArgs false

def isLt (c : Nat) : Bool := decide (97 ≤ c ∧ c ≤ 122)
def isDg (c : Nat) : Bool := decide (48 ≤ c ∧ c ≤ 57)
def isIn (c : Nat) : Bool := isLt c || isDg c || decide (c = 95)
theorem isIn_big {c : Nat} (h : 128 ≤ c) : isIn c = false := by unfold isIn isLt isDg; simp; omega
/-- How many characters of a name or a number the list begins with. -/
def wl : List UInt8 → Nat
  | [] => 0
  | c :: r => if isIn c.toNat = true then wl r + 1 else 0
theorem wl_le (l : List UInt8) : wl l ≤ l.length := by
  induction l with
  | nil => exact Nat.le_refl _
  | cons c r ih => simp only [wl]; split <;> simp <;> omega
/-- A name. -/
def nm (l : List UInt8) : Bool :=
  match l with
  | [] => false
  | c :: r => decide ((c :: r).length ≤ 16) && isLt c.toNat && decide (wl (c :: r) = (c :: r).length)
theorem nm_letter (c : UInt8) (r : List UInt8) (h : isLt c.toNat = false) : nm (c :: r) = false := by simp [nm, h]
theorem nm_le {l : List UInt8} (h : nm l = true) : l.length ≤ 16 := by
  cases l with
  | nil => simp
  | cons c r => simp only [nm, Bool.and_eq_true, decide_eq_true_eq] at h; exact h.1.1
def nmB (s : ByteArray) : Bool := nm s.data.toList

/-! Lists of names. -/
def has (l : List ByteArray) (s : ByteArray) : Bool := l.any fun x => decide (x.data.toList = s.data.toList)
theorem eq_of_toList {a b : ByteArray} (h : a.data.toList = b.data.toList) : a = b := by
  have := congrArg List.toArray h
  cases a; cases b
  simpa using this
/-- Some name stands before the place n a second time. -/
def dpT (l : List ByteArray) (n : Nat) : Bool := (List.range n).any fun i => has (l.take i) (l.getD i ⟨#[]⟩)
def ckN (l : List ByteArray) : Int := if 16 < l.length then 6 else if l.length = 0 then 1 else if l.all nmB = false then 4 else if dpT l l.length = true then 9 else 0
theorem ckN_6 {l : List ByteArray} (h : 16 < l.length) : ckN l = 6 := by unfold ckN; rw [if_pos h]
theorem ckN_1 {l : List ByteArray} (h : l.length = 0) : ckN l = 1 := by unfold ckN; rw [if_neg (by omega), if_pos h]
theorem ckN_4 {l : List ByteArray} (h : ¬ 16 < l.length) (h0 : ¬ l.length = 0) (h4 : l.all nmB = false) : ckN l = 4 := by unfold ckN; rw [if_neg h, if_neg h0, if_pos h4]
theorem ckN_9 {l : List ByteArray} (h : ¬ 16 < l.length) (h0 : ¬ l.length = 0) (h4 : l.all nmB = true) (h9 : dpT l l.length = true) : ckN l = 9 := by unfold ckN; rw [if_neg h, if_neg h0, if_neg (by rw [h4]; decide), if_pos h9]
theorem ckN_0 {l : List ByteArray} (h : ¬ 16 < l.length) (h0 : ¬ l.length = 0) (h4 : l.all nmB = true) (h9 : dpT l l.length = false) : ckN l = 0 := by unfold ckN; rw [if_neg h, if_neg h0, if_neg (by rw [h4]; decide), if_neg (by rw [h9]; decide)]
theorem ckN_ok {l : List ByteArray} (h : ckN l = 0) : 0 < l.length ∧ l.length ≤ 16 ∧ l.all nmB = true := by
  unfold ckN at h
  split at h
  · omega
  · split at h
    · omega
    · split at h
      · omega
      · split at h
        · omega
        · rename_i a b c d
          exact ⟨by omega, by omega, by simpa using c⟩
theorem all_at {l : List ByteArray} (h : l.all nmB = true) (j : Nat) (hj : j < l.length) : nmB l[j] = true := List.all_eq_true.1 h _ (List.getElem_mem hj)
theorem all_no {l : List ByteArray} {j : Nat} (hj : j < l.length) (h : nmB l[j] = false) : l.all nmB = false := by
  rw [List.all_eq_false]
  exact ⟨l[j], List.getElem_mem hj, by rw [h]; decide⟩
theorem all_take {l : List ByteArray} {j : Nat} (hj : j < l.length) (h : (l.take j).all nmB = true) (h1 : nmB l[j] = true) : (l.take (j + 1)).all nmB = true := by
  rw [List.take_succ_eq_append_getElem hj, List.all_append, h]
  simp [h1]
theorem dpT_step {l : List ByteArray} {j : Nat} (hj : j < l.length) (h : dpT l j = false) : dpT l (j + 1) = has (l.take j) l[j] := by
  unfold dpT at *
  rw [List.range_succ, List.any_append, h]
  simp [hj]
theorem dpT_yes {l : List ByteArray} {j : Nat} (hj : j < l.length) (h : has (l.take j) l[j] = true) : dpT l l.length = true := by
  unfold dpT
  rw [List.any_eq_true]
  exact ⟨j, List.mem_range.2 hj, by simpa [hj] using h⟩
theorem has_step {l : List ByteArray} {k : Nat} (hk : k < l.length) {s : ByteArray} (h : has (l.take k) s = false) : has (l.take (k + 1)) s = decide (l[k].data.toList = s.data.toList) := by
  unfold has at *
  rw [List.take_succ_eq_append_getElem hk, List.any_append, h]
  simp
theorem has_yes {l : List ByteArray} {i k : Nat} (hk : k < l.length) (hi : k < i) {s : ByteArray} (h : l[k].data.toList = s.data.toList) : has (l.take i) s = true := by
  unfold has
  rw [List.any_eq_true]
  exact ⟨l[k], List.mem_take_iff_getElem.2 ⟨k, by omega, rfl⟩, decide_eq_true h⟩

/-! Runs. -/
abbrev Rn := Int × Int
def okR (m s : Int) (r : Rn) : Bool := decide (0 ≤ r.1 ∧ r.1 ≤ m) && decide (1 ≤ r.2) && decide (r.2 ≤ 1099511627776 - s)
def vr (m : Int) : Int → List Rn → Bool
  | _, [] => true
  | s, r :: l => okR m s r && vr m (s + r.2) l
def lg : List Rn → Int
  | [] => 0
  | r :: l => r.2 + lg l
/-- Each run has a tick. -/
def ps (l : List Rn) : Prop := ∀ r ∈ l, 1 ≤ r.2
/-- Each level is from 0 to m. -/
def lv (m : Int) (l : List Rn) : Prop := ∀ r ∈ l, 0 ≤ r.1 ∧ r.1 ≤ m

theorem lg_append (a b : List Rn) : lg (a ++ b) = lg a + lg b := by
  induction a with
  | nil => simp [lg]
  | cons r a ih => simp only [List.cons_append, lg, ih]; omega
theorem lg_one (r : Rn) : lg [r] = r.2 := by simp [lg]
theorem lg_take (l : List Rn) (j : Nat) (hj : j < l.length) : lg (l.take (j + 1)) = lg (l.take j) + l[j].2 := by
  rw [List.take_succ_eq_append_getElem hj, lg_append, lg_one]
theorem lg_split (l : List Rn) (j : Nat) : lg l = lg (l.take j) + lg (l.drop j) := by
  rw [← lg_append, List.take_append_drop]
theorem ps_nil : ps [] := by intro r h; cases h
theorem ps_cons {r : Rn} {l : List Rn} : ps (r :: l) ↔ 1 ≤ r.2 ∧ ps l := by unfold ps; simp
theorem ps_one {r : Rn} : ps [r] ↔ 1 ≤ r.2 := by unfold ps; simp
theorem ps_append {a b : List Rn} : ps (a ++ b) ↔ ps a ∧ ps b := by
  unfold ps
  constructor
  · exact fun h => ⟨fun r hr => h r (List.mem_append_left _ hr), fun r hr => h r (List.mem_append_right _ hr)⟩
  · rintro ⟨h1, h2⟩ r hr
    rcases List.mem_append.1 hr with h | h
    · exact h1 r h
    · exact h2 r h
theorem ps_take {l : List Rn} (h : ps l) (j : Nat) : ps (l.take j) := fun r hr => h r (List.mem_of_mem_take hr)
theorem ps_drop {l : List Rn} (h : ps l) (j : Nat) : ps (l.drop j) := fun r hr => h r (List.mem_of_mem_drop hr)
theorem ps_len {l : List Rn} (h : ps l) : (l.length : Int) ≤ lg l := by
  induction l with
  | nil => simp [lg]
  | cons r l ih =>
    rw [ps_cons] at h
    have := ih h.2
    simp only [List.length_cons, lg]
    omega
theorem ps_nonneg {l : List Rn} (h : ps l) : 0 ≤ lg l := by have := ps_len h; omega
theorem lv_nil (m : Int) : lv m [] := by intro r h; cases h
theorem lv_cons {m : Int} {r : Rn} {l : List Rn} : lv m (r :: l) ↔ (0 ≤ r.1 ∧ r.1 ≤ m) ∧ lv m l := by unfold lv; simp
theorem vr_iff (m : Int) (l : List Rn) (s : Int) (hs : s ≤ 1099511627776) : vr m s l = true ↔ lv m l ∧ ps l ∧ s + lg l ≤ 1099511627776 := by
  induction l generalizing s with
  | nil => simp [vr, lg, ps_nil, lv_nil, hs]
  | cons r l ih =>
    simp only [vr, okR, Bool.and_eq_true, decide_eq_true_eq, ps_cons, lv_cons, lg]
    constructor
    · rintro ⟨⟨⟨h1, h2⟩, h3⟩, h4⟩
      have := (ih (s + r.2) (by omega)).1 h4
      exact ⟨⟨h1, this.1⟩, ⟨h2, this.2.1⟩, by omega⟩
    · rintro ⟨⟨h1, h1'⟩, ⟨h2, h3⟩, h4⟩
      have := ps_nonneg h3
      exact ⟨⟨⟨h1, h2⟩, by omega⟩, (ih (s + r.2) (by omega)).2 ⟨h1', h3, by omega⟩⟩
theorem vr_append (m : Int) (a b : List Rn) (s : Int) : vr m s (a ++ b) = (vr m s a && vr m (s + lg a) b) := by
  induction a generalizing s with
  | nil => simp [vr, lg]
  | cons r a ih => simp only [List.cons_append, vr, lg, ih, Bool.and_assoc, Int.add_assoc]
theorem vr_step {m : Int} {l : List Rn} {j : Nat} (hj : j < l.length) (h : vr m 0 (l.take j) = true) : vr m 0 (l.take (j + 1)) = okR m (lg (l.take j)) l[j] := by
  rw [List.take_succ_eq_append_getElem hj, vr_append, h]
  simp [vr]
theorem vr_bad {m : Int} {l : List Rn} {j : Nat} (hj : j < l.length) (h : okR m (lg (l.take j)) l[j] = false) : vr m 0 l = false := by
  rw [show l = l.take (j + 1) ++ l.drop (j + 1) from (List.take_append_drop _ _).symm, vr_append, List.take_succ_eq_append_getElem hj, vr_append]
  simp [vr, h]
theorem vr_range {m : Int} {l : List Rn} (h : vr m 0 l = true) : 0 ≤ lg l ∧ lg l ≤ 1099511627776 := by
  have := (vr_iff m l 0 (by omega)).1 h
  exact ⟨ps_nonneg this.2.1, by omega⟩
theorem lg_take_range {m : Int} {l : List Rn} (h : vr m 0 l = true) (j : Nat) : 0 ≤ lg (l.take j) ∧ lg (l.take j) ≤ lg l ∧ lg l ≤ 1099511627776 := by
  obtain ⟨_, h2, h3⟩ := (vr_iff m l 0 (by omega)).1 h
  have := ps_nonneg (ps_take h2 j)
  have := ps_nonneg (ps_drop h2 j)
  have := lg_split l j
  omega
theorem el_range {m : Int} {l : List Rn} (h : vr m 0 l = true) (j : Nat) (hj : j < l.length) : (0 ≤ l[j].1 ∧ l[j].1 ≤ m) ∧ 1 ≤ l[j].2 ∧ l[j].2 ≤ 1099511627776 := by
  obtain ⟨h1, h2, h3⟩ := (vr_iff m l 0 (by omega)).1 h
  have h4 := h1 l[j] (List.getElem_mem hj)
  have h4' := h2 l[j] (List.getElem_mem hj)
  have h5 := (lg_take_range h (j + 1))
  have h6 := (lg_take_range h j).1
  rw [lg_take l j hj] at h5
  exact ⟨h4, h4', by omega⟩

/-! Waves. -/
def vl (l : List Rn) : Bool := decide (l.length ≤ 262144) && vr 1 0 l
theorem vl_big {l : List Rn} (h : 262144 < l.length) : vl l = false := by unfold vl; rw [decide_eq_false (by omega)]; rfl
theorem vl_of {l : List Rn} (h : l.length ≤ 262144) : vl l = vr 1 0 l := by unfold vl; rw [decide_eq_true h]; rfl

/-! Captures. -/
def mk (n : Nat) : Int := 2 ^ n - 1
def ckC (N : List ByteArray) (R : List Rn) : Int := if 262144 < R.length then 6 else if ckN N ≠ 0 then ckN N else if vr (mk N.length) 0 R = true then 0 else 2
theorem ckC_6 {N : List ByteArray} {R : List Rn} (h : 262144 < R.length) : ckC N R = 6 := by unfold ckC; rw [if_pos h]
theorem ckC_n {N : List ByteArray} {R : List Rn} (h : ¬ 262144 < R.length) (h1 : ckN N ≠ 0) : ckC N R = ckN N := by unfold ckC; rw [if_neg h, if_pos h1]
theorem ckC_0 {N : List ByteArray} {R : List Rn} (h : ¬ 262144 < R.length) (h1 : ckN N = 0) (h2 : vr (mk N.length) 0 R = true) : ckC N R = 0 := by unfold ckC; rw [if_neg h, if_neg (fun x => x h1), if_pos h2]
theorem ckC_2 {N : List ByteArray} {R : List Rn} (h : ¬ 262144 < R.length) (h1 : ckN N = 0) (h2 : vr (mk N.length) 0 R = false) : ckC N R = 2 := by unfold ckC; rw [if_neg h, if_neg (fun x => x h1), if_neg (by rw [h2]; decide)]
theorem ckC_ok {N : List ByteArray} {R : List Rn} (h : ckC N R = 0) : R.length ≤ 262144 ∧ ckN N = 0 ∧ 0 < N.length ∧ N.length ≤ 16 ∧ N.all nmB = true ∧ vr (mk N.length) 0 R = true := by
  unfold ckC at h
  split at h
  · omega
  · rename_i a
    split at h
    · rename_i b; exact absurd h b
    · rename_i b
      split at h
      · rename_i c
        have b' : ckN N = 0 := by simpa using b
        obtain ⟨d1, d2, d3⟩ := ckN_ok b'
        exact ⟨by omega, b', d1, d2, d3, c⟩
      · omega
theorem ckN_range (N : List ByteArray) : 0 ≤ ckN N ∧ ckN N ≤ 9 := by unfold ckN; (repeat' split) <;> omega
theorem ckC_range (N : List ByteArray) (R : List Rn) : 0 ≤ ckC N R ∧ ckC N R ≤ 9 := by
  have := ckN_range N
  unfold ckC; (repeat' split) <;> omega
theorem mk_range {n : Nat} (h : n ≤ 16) : 0 ≤ mk n ∧ mk n ≤ 65535 := by
  unfold mk
  have h1 : (2 : Int) ^ n = ((2 ^ n : Nat) : Int) := by push_cast; rfl
  have h2 : 2 ^ n ≤ 2 ^ 16 := Nat.pow_le_pow_right (by omega) h
  have h3 := Nat.two_pow_pos n
  omega
def lgC (N : List ByteArray) (R : List Rn) : Int := if ckC N R = 0 then lg R else 0
theorem lgC_yes {N : List ByteArray} {R : List Rn} (h : ckC N R = 0) : lgC N R = lg R := by unfold lgC; rw [if_pos h]
theorem lgC_no {N : List ByteArray} {R : List Rn} (h : ¬ ckC N R = 0) : lgC N R = 0 := by unfold lgC; rw [if_neg h]

/-! Joining. -/
def pt (o : List Rn) (r : Rn) : List Rn := match o.getLast? with
  | some x => if x.1 = r.1 then o.dropLast ++ [(x.1, x.2 + r.2)] else o ++ [r]
  | none => [r]
def jn (l : List Rn) : List Rn := l.foldl pt []
theorem pt_nil (r : Rn) : pt [] r = [r] := rfl
theorem pt_snoc (o : List Rn) (x r : Rn) : pt (o ++ [x]) r = if x.1 = r.1 then o ++ [(x.1, x.2 + r.2)] else o ++ [x] ++ [r] := by
  unfold pt
  simp
theorem nil_or_snoc (l : List Rn) : l = [] ∨ ∃ o x, l = o ++ [x] := by
  rcases List.eq_nil_or_concat l with h | ⟨o, x, h⟩
  · exact .inl h
  · exact .inr ⟨o, x, by simpa using h⟩
theorem jn_snoc (l : List Rn) (r : Rn) : jn (l ++ [r]) = pt (jn l) r := by unfold jn; rw [List.foldl_append]; rfl
theorem jn_take (l : List Rn) (j : Nat) (hj : j < l.length) : jn (l.take (j + 1)) = pt (jn (l.take j)) l[j] := by
  rw [List.take_succ_eq_append_getElem hj, jn_snoc]
theorem pt_lg (o : List Rn) (r : Rn) : lg (pt o r) = lg o + r.2 := by
  rcases nil_or_snoc o with rfl | ⟨o, x, rfl⟩
  · simp [pt_nil, lg]
  · rw [pt_snoc]
    split <;> simp [lg_append, lg] <;> omega
theorem pt_ps {o : List Rn} {r : Rn} (ho : ps o) (hr : 1 ≤ r.2) : ps (pt o r) := by
  rcases nil_or_snoc o with rfl | ⟨o, x, rfl⟩
  · rw [pt_nil, ps_one]; exact hr
  · rw [pt_snoc]
    rw [ps_append, ps_one] at ho
    split
    · rw [ps_append, ps_one]
      exact ⟨ho.1, by show 1 ≤ x.2 + r.2; omega⟩
    · rw [ps_append, ps_append, ps_one, ps_one]; exact ⟨ho, hr⟩
theorem pt_lv {m : Int} {o : List Rn} {r : Rn} (ho : lv m o) (hr : 0 ≤ r.1 ∧ r.1 ≤ m) : lv m (pt o r) := by
  rcases nil_or_snoc o with rfl | ⟨o, x, rfl⟩
  · intro y hy; rw [pt_nil, List.mem_singleton] at hy; subst hy; exact hr
  · rw [pt_snoc]
    split
    · intro y hy
      rcases List.mem_append.1 hy with h | h
      · exact ho y (List.mem_append_left _ h)
      · rw [List.mem_singleton] at h; subst h; exact ho x (by simp)
    · intro y hy
      rcases List.mem_append.1 hy with h | h
      · exact ho y h
      · rw [List.mem_singleton] at h; subst h; exact hr
theorem pt_len (o : List Rn) (r : Rn) : (pt o r).length ≤ o.length + 1 ∧ o.length ≤ (pt o r).length ∧ 0 < (pt o r).length := by
  rcases nil_or_snoc o with rfl | ⟨o, x, rfl⟩
  · simp [pt_nil]
  · rw [pt_snoc]
    split <;> simp
theorem fold_lg (l o : List Rn) : lg (l.foldl pt o) = lg o + lg l := by
  induction l generalizing o with
  | nil => simp [lg]
  | cons r l ih => simp only [List.foldl_cons, ih, pt_lg, lg]; omega
theorem jn_lg (l : List Rn) : lg (jn l) = lg l := by unfold jn; rw [fold_lg]; simp [lg]
theorem fold_ps (l o : List Rn) (ho : ps o) (hl : ps l) : ps (l.foldl pt o) := by
  induction l generalizing o with
  | nil => exact ho
  | cons r l ih =>
    rw [ps_cons] at hl
    exact ih _ (pt_ps ho hl.1) hl.2
theorem jn_ps {l : List Rn} (h : ps l) : ps (jn l) := fold_ps l [] ps_nil h
theorem fold_lv {m : Int} (l o : List Rn) (ho : lv m o) (hl : lv m l) : lv m (l.foldl pt o) := by
  induction l generalizing o with
  | nil => exact ho
  | cons r l ih =>
    rw [lv_cons] at hl
    exact ih _ (pt_lv ho hl.1) hl.2
theorem jn_lv {m : Int} {l : List Rn} (h : lv m l) : lv m (jn l) := fold_lv l [] (lv_nil m) h
theorem fold_len (l o : List Rn) : (l.foldl pt o).length ≤ o.length + l.length ∧ o.length ≤ (l.foldl pt o).length := by
  induction l generalizing o with
  | nil => simp
  | cons r l ih =>
    have h1 := ih (pt o r)
    have h2 := pt_len o r
    simp only [List.foldl_cons, List.length_cons]
    omega
theorem jn_len (l : List Rn) : (jn l).length ≤ l.length := by have := (fold_len l []).1; unfold jn; simpa using this
theorem jn_vr {m : Int} {l : List Rn} (h : vr m 0 l = true) : vr m 0 (jn l) = true := by
  obtain ⟨h1, h2, h3⟩ := (vr_iff m l 0 (by omega)).1 h
  exact (vr_iff m _ 0 (by omega)).2 ⟨jn_lv h1, jn_ps h2, by rw [jn_lg]; exact h3⟩

/-! No two adjacent runs have one level. -/
def al (l : List Rn) : Prop := ∀ (i : Nat) (h : i + 1 < l.length), l[i].1 ≠ l[i + 1].1
theorem al_nil : al [] := fun i h => absurd h (by simp)
theorem al_cons {r s : Rn} {l : List Rn} : al (r :: s :: l) ↔ r.1 ≠ s.1 ∧ al (s :: l) := by
  constructor
  · intro h
    exact ⟨h 0 (by simp), fun i hi => h (i + 1) (by simpa using hi)⟩
  · rintro ⟨h1, h2⟩ i hi
    cases i with
    | zero => exact h1
    | succ i => exact h2 i (by simpa using hi)
theorem al_one (r : Rn) : al [r] := fun i h => absurd h (by simp)
theorem al_tail {r : Rn} {l : List Rn} (h : al (r :: l)) : al l := fun i hi => h (i + 1) (by simpa using hi)
theorem al_snoc {o : List Rn} {x r : Rn} (h : al (o ++ [x])) (hx : x.1 ≠ r.1) : al (o ++ [x] ++ [r]) := by
  induction o with
  | nil => simp only [List.nil_append, List.cons_append]; rw [al_cons]; exact ⟨hx, al_one r⟩
  | cons y o ih =>
    cases o with
    | nil =>
      simp only [List.cons_append, List.nil_append, al_cons] at h ⊢
      exact ⟨h.1, hx, al_one r⟩
    | cons z o =>
      simp only [List.cons_append, al_cons] at h ⊢ ih
      exact ⟨h.1, ih h.2⟩
theorem al_last {o : List Rn} {x y : Rn} (h : al (o ++ [x])) (hx : x.1 = y.1) : al (o ++ [y]) := by
  induction o with
  | nil => exact al_one y
  | cons z o ih =>
    cases o with
    | nil =>
      simp only [List.cons_append, List.nil_append, al_cons] at h ⊢
      exact ⟨by rw [← hx]; exact h.1, al_one y⟩
    | cons u o =>
      simp only [List.cons_append, al_cons] at h ⊢ ih
      exact ⟨h.1, ih h.2⟩
theorem pt_al {o : List Rn} {r : Rn} (h : al o) : al (pt o r) := by
  rcases nil_or_snoc o with rfl | ⟨o, x, rfl⟩
  · exact al_one r
  · rw [pt_snoc]
    split
    · exact al_last h rfl
    · rename_i hx; exact al_snoc h hx
theorem fold_al (l o : List Rn) (h : al o) : al (l.foldl pt o) := by
  induction l generalizing o with
  | nil => exact h
  | cons r l ih => exact ih _ (pt_al h)
theorem jn_al (l : List Rn) : al (jn l) := fold_al l [] al_nil

/-! The level at a tick. -/
def atv : List Rn → Int → Int × Bool
  | [], _ => (-1, false)
  | r :: l, k => if k < r.2 then (r.1, true) else atv l (k - r.2)
theorem atv_cons (r : Rn) (l : List Rn) (k : Int) : atv (r :: l) k = if k < r.2 then (r.1, true) else atv l (k - r.2) := rfl
theorem atv_drop {l : List Rn} {j : Nat} (hj : j < l.length) (k : Int) : atv (l.drop j) k = if k < l[j].2 then (l[j].1, true) else atv (l.drop (j + 1)) (k - l[j].2) := by
  rw [List.drop_eq_getElem_cons hj]; rfl
theorem atv_append (a b : List Rn) (k : Int) (ha : ps a) (hk : 0 ≤ k) : atv (a ++ b) k = if k < lg a then atv a k else atv b (k - lg a) := by
  induction a generalizing k with
  | nil => simp only [List.nil_append, lg, Int.sub_zero]; rw [if_neg (by omega)]
  | cons r a ih =>
    rw [ps_cons] at ha
    have := ps_nonneg ha.2
    have e : lg (r :: a) = r.2 + lg a := rfl
    rw [List.cons_append, atv_cons, atv_cons, e]
    by_cases h : k < r.2
    · rw [if_pos h, if_pos h, if_pos (by omega)]
    · rw [if_neg h, if_neg h, ih (k - r.2) ha.2 (by omega)]
      by_cases h2 : k - r.2 < lg a
      · rw [if_pos h2, if_pos (by omega)]
      · rw [if_neg h2, if_neg (by omega)]
        congr 1
        omega
theorem atv_pt (o : List Rn) (r : Rn) (l : List Rn) (k : Int) (ho : ps o) (hr : 1 ≤ r.2) (hk : 0 ≤ k) : atv (pt o r ++ l) k = atv (o ++ r :: l) k := by
  rcases nil_or_snoc o with rfl | ⟨o, x, rfl⟩
  · rfl
  · rw [pt_snoc]
    rw [ps_append, ps_one] at ho
    have h1 := ho.2
    split
    · rename_i e
      rw [List.append_assoc, List.append_assoc, atv_append o _ k ho.1 hk, atv_append o _ k ho.1 hk]
      by_cases h : k < lg o
      · rw [if_pos h, if_pos h]
      · rw [if_neg h, if_neg h]
        generalize k - lg o = q
        simp only [List.cons_append, List.nil_append, atv]
        by_cases g1 : q < x.2
        · rw [if_pos (by omega), if_pos g1]
        · rw [if_neg g1]
          by_cases g2 : q - x.2 < r.2
          · rw [if_pos (by omega), if_pos g2, e]
          · rw [if_neg (by omega), if_neg g2]
            congr 1
            omega
    · rw [List.append_assoc]; rfl
theorem atv_fold (l o : List Rn) (k : Int) (ho : ps o) (hl : ps l) (hk : 0 ≤ k) : atv (l.foldl pt o) k = atv (o ++ l) k := by
  induction l generalizing o with
  | nil => simp
  | cons r l ih =>
    rw [ps_cons] at hl
    rw [List.foldl_cons, ih _ (pt_ps ho hl.1) hl.2, atv_pt o r l k ho hl.1 hk]
theorem atv_jn {l : List Rn} (k : Int) (hl : ps l) (hk : 0 ≤ k) : atv (jn l) k = atv l k := by
  unfold jn; rw [atv_fold l [] k ps_nil hl hk]; rfl
theorem atv_end {l : List Rn} {k : Int} (hl : ps l) (hk : lg l ≤ k) : atv l k = (-1, false) := by
  induction l generalizing k with
  | nil => rfl
  | cons r l ih =>
    rw [ps_cons] at hl
    have h0 := ps_nonneg hl.2
    have e : lg (r :: l) = r.2 + lg l := rfl
    rw [e] at hk
    rw [atv_cons, if_neg (by omega)]
    exact ih hl.2 (by omega)
theorem atv_in {l : List Rn} {k : Int} (h0 : 0 ≤ k) (hl : ps l) (hk : k < lg l) : (atv l k).2 = true ∧ ∃ r ∈ l, (atv l k).1 = r.1 := by
  induction l generalizing k with
  | nil => simp only [lg] at hk; omega
  | cons r l ih =>
    rw [ps_cons] at hl
    have e : lg (r :: l) = r.2 + lg l := rfl
    rw [e] at hk
    rw [atv_cons]
    by_cases h : k < r.2
    · rw [if_pos h]; exact ⟨rfl, r, by simp, rfl⟩
    · rw [if_neg h]
      obtain ⟨i1, x, i2, i3⟩ := ih (k := k - r.2) (by omega) hl.2 (by omega)
      exact ⟨i1, x, by simp [i2], i3⟩
/-- A run's ticks. -/
theorem atv_run {l : List Rn} {j : Nat} (hl : ps l) (hj : j < l.length) {k : Int} (h1 : lg (l.take j) ≤ k) (h2 : k < lg (l.take (j + 1))) : atv l k = (l[j].1, true) := by
  have h0 := ps_nonneg (ps_take hl j)
  rw [lg_take l j hj] at h2
  conv => lhs; rw [← List.take_append_drop j l]
  rw [atv_append _ _ k (ps_take hl j) (by omega), if_neg (by omega), atv_drop hj, if_pos (by omega)]
/-- A clean list is made of its levels alone. -/
theorem al_unique {a b : List Rn} (ha : al a) (pa : ps a) (hb : al b) (pb : ps b) (h : ∀ k, 0 ≤ k → atv a k = atv b k) : a = b := by
  induction a generalizing b with
  | nil =>
    cases b with
    | nil => rfl
    | cons s b =>
      rw [ps_cons] at pb
      have := h 0 (by omega)
      rw [atv_cons, if_pos (by omega)] at this
      have := congrArg Prod.snd this
      exact absurd this (by simp [atv])
  | cons r a ih =>
    rw [ps_cons] at pa
    cases b with
    | nil =>
      have := h 0 (by omega)
      rw [atv_cons, if_pos (by omega)] at this
      have := congrArg Prod.snd this
      exact absurd this (by simp [atv])
    | cons s b =>
      rw [ps_cons] at pb
      have e0 := h 0 (by omega)
      rw [atv_cons, if_pos (by omega), atv_cons, if_pos (by omega)] at e0
      have e1 : r.1 = s.1 := (Prod.mk.inj e0).1
      have key : ∀ (x y : Rn) (u v : List Rn), al (x :: u) → ps u → x.1 = y.1 → 1 ≤ x.2 → x.2 < y.2 → (∀ k, 0 ≤ k → atv (x :: u) k = atv (y :: v) k) → False := by
        intro x y u v hu pu exy hx hlt hh
        have e2 := hh x.2 (by omega)
        rw [atv_cons, if_neg (by omega), atv_cons, if_pos hlt] at e2
        cases u with
        | nil => have := congrArg Prod.snd e2; exact absurd this (by simp [atv])
        | cons z u =>
          rw [ps_cons] at pu
          rw [atv_cons, if_pos (by omega)] at e2
          have e3 : z.1 = y.1 := (Prod.mk.inj e2).1
          exact (al_cons.1 hu).1 (by rw [exy, e3])
      have e2 : r.2 = s.2 := by
        rcases Int.lt_trichotomy r.2 s.2 with c | c | c
        · exact absurd (key r s a b ha pa.2 e1 pa.1 c h) id
        · exact c
        · exact absurd (key s r b a hb pb.2 e1.symm pb.1 c (fun k hk => (h k hk).symm)) id
      have e3 : r = s := Prod.ext e1 e2
      subst e3
      rw [ih (al_tail ha) pa.2 (al_tail hb) pb.2 fun k hk => ?_]
      have e4 := h (k + r.2) (by omega)
      rw [atv_cons, if_neg (by omega), atv_cons, if_neg (by omega)] at e4
      rw [show k + r.2 - r.2 = k by omega] at e4
      exact e4
def atC (N : List ByteArray) (R : List Rn) (k : Int) : Int × Bool := if ckC N R = 0 ∧ 0 ≤ k then atv R k else (-1, false)
theorem atC_yes {N : List ByteArray} {R : List Rn} {k : Int} (h : ckC N R = 0) (hk : 0 ≤ k) : atC N R k = atv R k := by unfold atC; rw [if_pos ⟨h, hk⟩]
theorem atC_no {N : List ByteArray} {R : List Rn} {k : Int} (h : ¬ (ckC N R = 0 ∧ 0 ≤ k)) : atC N R k = (-1, false) := by unfold atC; rw [if_neg h]

/-! Parts. -/
def s1 (b : Int) (r : Rn) (f t : Int) : List Rn := if max b f < min (b + r.2) t then [(r.1, min (b + r.2) t - max b f)] else []
def sl : Int → List Rn → Int → Int → List Rn
  | _, [], _, _ => []
  | b, r :: l, f, t => s1 b r f t ++ sl (b + r.2) l f t
theorem sl_cons (b : Int) (r : Rn) (l : List Rn) (f t : Int) : sl b (r :: l) f t = s1 b r f t ++ sl (b + r.2) l f t := rfl
theorem sl_snoc (b : Int) (l : List Rn) (r : Rn) (f t : Int) : sl b (l ++ [r]) f t = sl b l f t ++ s1 (b + lg l) r f t := by
  induction l generalizing b with
  | nil => simp [sl, lg]
  | cons x l ih =>
    have e : lg (x :: l) = x.2 + lg l := rfl
    rw [List.cons_append, sl_cons, sl_cons, ih, e, List.append_assoc, Int.add_assoc]
theorem sl_take (l : List Rn) (j : Nat) (hj : j < l.length) (f t : Int) : sl 0 (l.take (j + 1)) f t = sl 0 (l.take j) f t ++ s1 (lg (l.take j)) l[j] f t := by
  rw [List.take_succ_eq_append_getElem hj, sl_snoc, Int.zero_add]
theorem s1_yes {b : Int} {r : Rn} {f t : Int} (h : max b f < min (b + r.2) t) : s1 b r f t = [(r.1, min (b + r.2) t - max b f)] := by unfold s1; rw [if_pos h]
theorem s1_no {b : Int} {r : Rn} {f t : Int} (h : ¬ max b f < min (b + r.2) t) : s1 b r f t = [] := by unfold s1; rw [if_neg h]
theorem s1_len (b : Int) (r : Rn) (f t : Int) : (s1 b r f t).length ≤ 1 := by unfold s1; split <;> simp
theorem sl_len (l : List Rn) (b f t : Int) : (sl b l f t).length ≤ l.length := by
  induction l generalizing b with
  | nil => simp [sl]
  | cons r l ih =>
    rw [sl_cons, List.length_append, List.length_cons]
    have := ih (b + r.2)
    have := s1_len b r f t
    omega
theorem sl_ps {l : List Rn} {b f t : Int} : ps (sl b l f t) := by
  induction l generalizing b with
  | nil => exact ps_nil
  | cons r l ih =>
    rw [sl_cons, ps_append]
    refine ⟨?_, ih⟩
    unfold s1; split
    · rename_i hlt; rw [ps_one]; show 1 ≤ min (b + r.2) t - max b f; omega
    · exact ps_nil
theorem sl_lv {m : Int} {l : List Rn} {b f t : Int} (h : lv m l) : lv m (sl b l f t) := by
  induction l generalizing b with
  | nil => exact lv_nil m
  | cons r l ih =>
    rw [lv_cons] at h
    rw [sl_cons]
    intro y hy
    rcases List.mem_append.1 hy with h1 | h1
    · unfold s1 at h1
      split at h1
      · rw [List.mem_singleton] at h1; subst h1; exact h.1
      · cases h1
    · exact ih h.2 y h1
theorem sl_lg {l : List Rn} {b f t : Int} (h : ps l) : lg (sl b l f t) = max 0 (min (b + lg l) t - max b f) := by
  induction l generalizing b with
  | nil => simp only [sl, lg]; omega
  | cons r l ih =>
    rw [ps_cons] at h
    have h0 := ps_nonneg h.2
    have e : lg (r :: l) = r.2 + lg l := rfl
    rw [sl_cons, lg_append, ih h.2, e]
    unfold s1
    split
    · rw [lg_one]; simp only; omega
    · simp only [lg]; omega
theorem sl_at {l : List Rn} {b f t k : Int} (h : ps l) (hk : 0 ≤ k) (hkt : k < t - max b f) : atv (sl b l f t) k = atv l (max b f + k - b) := by
  induction l generalizing b k with
  | nil => rfl
  | cons r l ih =>
    rw [ps_cons] at h
    rw [sl_cons]
    by_cases c : max b f < b + r.2
    · rw [s1_yes (by omega), List.cons_append, List.nil_append, atv_cons, atv_cons]
      simp only
      by_cases c2 : k < min (b + r.2) t - max b f
      · rw [if_pos c2, if_pos (by omega)]
      · rw [if_neg c2, if_neg (by omega), ih h.2 (by omega) (by omega)]
        congr 1
        omega
    · rw [s1_no (by omega), List.nil_append, atv_cons, if_neg (by omega), ih h.2 hk (by omega)]
      congr 1
      omega
def prt (R : List Rn) (f t : Int) : List Rn := jn (sl 0 R f t)
theorem prt_nil (f t : Int) : prt [] f t = [] := rfl
theorem prt_yes {R : List Rn} {j : Nat} (hj : j < R.length) {f t : Int} (h : max (lg (R.take j)) f < min (lg (R.take j) + R[j].2) t) : prt (R.take (j + 1)) f t = pt (prt (R.take j) f t) (R[j].1, min (lg (R.take j) + R[j].2) t - max (lg (R.take j)) f) := by
  unfold prt; rw [sl_take R j hj, s1_yes h, jn_snoc]
theorem prt_no {R : List Rn} {j : Nat} (hj : j < R.length) {f t : Int} (h : ¬ max (lg (R.take j)) f < min (lg (R.take j) + R[j].2) t) : prt (R.take (j + 1)) f t = prt (R.take j) f t := by
  unfold prt; rw [sl_take R j hj, s1_no h, List.append_nil]
theorem prt_len (R : List Rn) (f t : Int) : (prt R f t).length ≤ R.length := Nat.le_trans (jn_len _) (sl_len R 0 f t)
theorem prt_vr {m : Int} {R : List Rn} {f t : Int} (h : vr m 0 R = true) (hf : 0 ≤ f) : vr m 0 (prt R f t) = true := by
  obtain ⟨h1, h2, h3⟩ := (vr_iff m R 0 (by omega)).1 h
  refine jn_vr ((vr_iff m _ 0 (by omega)).2 ⟨sl_lv h1, sl_ps, ?_⟩)
  have := ps_nonneg h2
  rw [sl_lg h2]
  omega
theorem prt_lg {R : List Rn} {f t : Int} (h : ps R) (hf : 0 ≤ f) (ht : f < t) (hl : t ≤ lg R) : lg (prt R f t) = t - f := by
  unfold prt; rw [jn_lg, sl_lg h]; omega
theorem prt_at {R : List Rn} {f t k : Int} (h : ps R) (hf : 0 ≤ f) (hk : 0 ≤ k) (hkt : k < t - f) : atv (prt R f t) k = atv R (f + k) := by
  unfold prt
  rw [atv_jn k sl_ps hk, sl_at h hk (by omega)]
  congr 1
  omega
theorem sl_all {l : List Rn} {b t : Int} (h : ps l) (hb : 0 ≤ b) (ht : b + lg l ≤ t) : sl b l 0 t = l := by
  induction l generalizing b with
  | nil => rfl
  | cons r l ih =>
    rw [ps_cons] at h
    have h0 := ps_nonneg h.2
    have e : lg (r :: l) = r.2 + lg l := rfl
    rw [e] at ht
    rw [sl_cons, ih h.2 (by omega) (by omega), s1_yes (by omega)]
    show (r.1, min (b + r.2) t - max b 0) :: l = r :: l
    rw [show min (b + r.2) t - max b 0 = r.2 by omega]
theorem prt_all {m : Int} {R : List Rn} (h : vr m 0 R = true) : prt R 0 1099511627776 = jn R := by
  obtain ⟨h1, h2, h3⟩ := (vr_iff m R 0 (by omega)).1 h
  unfold prt; rw [sl_all h2 (by omega) h3]

end Go.Proofs.Yteccafndplaklaa

namespace Go.Proofs.Yteccafndplaklaa
open Go
set_option linter.unusedVariables false
set_option linter.unusedSimpArgs false

/-- The bit k of a level. -/
def bt (x : Int) (k : Nat) : Int := x / 2 ^ k % 2
theorem bt_01 (x : Int) (k : Nat) : bt x k = 0 ∨ bt x k = 1 := by unfold bt; omega
theorem bt_range (x : Int) (k : Nat) : 0 ≤ bt x k ∧ bt x k ≤ 1 := by have := bt_01 x k; omega
theorem and_one (x : Nat) (hx : x < 9223372036854775808) : bits .and .i64 (x : Int) 1 = ((x % 2 : Nat) : Int) := by
  show IntKind.i64.wrap ((BitVec.ofInt 64 x &&& BitVec.ofInt 64 1).toNat : Int) = _
  have e1 : (BitVec.ofInt 64 (x : Int)).toNat = x := by rw [BitVec.toNat_ofInt]; omega
  have e2 : (BitVec.ofInt 64 (1 : Int)).toNat = 1 := by decide
  rw [BitVec.toNat_and, e1, e2, Nat.and_one_is_mod, IntKind.wrap_i64]
  omega
theorem bt_nat (x k : Nat) : bt (x : Int) k = ((x / 2 ^ k % 2 : Nat) : Int) := by
  unfold bt; simp
/-- 'x >> k & 1' as the model has it. -/
theorem shr_and (x : Int) (k : Nat) (h0 : 0 ≤ x) (h1 : x ≤ 9223372036854775807) : bits .and .i64 (x.fdiv (2 ^ k)) 1 = bt x k := by
  obtain ⟨n, rfl⟩ : ∃ n : Nat, x = n := ⟨x.toNat, by omega⟩
  have e : (n : Int).fdiv (2 ^ k) = ((n / 2 ^ k : Nat) : Int) := by
    rw [Int.fdiv_eq_ediv_of_nonneg _ (Int.pow_nonneg (by omega))]; simp
  have h2 : n / 2 ^ k ≤ n := Nat.div_le_self _ _
  rw [e, and_one _ (by omega), bt_nat]
theorem shr_and2 (x : Int) (k : Nat) (h0 : 0 ≤ x) (h1 : x ≤ 9223372036854775807) : bits .and .i64 (x / 2 ^ k) 1 = bt x k := by
  rw [← shr_and x k h0 h1, Int.fdiv_eq_ediv_of_nonneg _ (Int.pow_nonneg (by omega))]

/-! A channel of runs. -/
def bts (R : List Rn) (k : Nat) : List Rn := R.map fun r => (bt r.1 k, r.2)
theorem bts_lg (R : List Rn) (k : Nat) : lg (bts R k) = lg R := by
  induction R with
  | nil => rfl
  | cons r R ih => unfold bts at ih ⊢; simp only [List.map_cons, lg, ih]
theorem bts_ps {R : List Rn} (h : ps R) (k : Nat) : ps (bts R k) := by
  intro y hy
  obtain ⟨r, hr, rfl⟩ := List.mem_map.1 hy
  exact h r hr
theorem bts_lv (R : List Rn) (k : Nat) : lv 1 (bts R k) := by
  intro y hy
  obtain ⟨r, hr, rfl⟩ := List.mem_map.1 hy
  exact bt_range r.1 k
theorem bts_len (R : List Rn) (k : Nat) : (bts R k).length = R.length := by simp [bts]
theorem bts_take (R : List Rn) (k j : Nat) (hj : j < R.length) : bts (R.take (j + 1)) k = bts (R.take j) k ++ [(bt R[j].1 k, R[j].2)] := by
  unfold bts
  rw [List.take_succ_eq_append_getElem hj, List.map_append]; rfl
theorem bts_at (R : List Rn) (k : Nat) (t : Int) : atv (bts R k) t = if (atv R t).2 = true then (bt (atv R t).1 k, true) else (-1, false) := by
  induction R generalizing t with
  | nil => rfl
  | cons r R ih =>
    have e : bts (r :: R) k = (bt r.1 k, r.2) :: bts R k := rfl
    rw [e, atv_cons]
    have e2 := atv_cons r R t
    by_cases h : t < r.2
    · rw [if_pos h] at e2; rw [e2, if_pos h]; rfl
    · rw [if_neg h] at e2; rw [e2, if_neg h, ih]
def chn (R : List Rn) (k : Nat) : List Rn := jn (bts R k)
theorem chn_take (R : List Rn) (k j : Nat) (hj : j < R.length) : chn (R.take (j + 1)) k = pt (chn (R.take j) k) (bt R[j].1 k, R[j].2) := by
  unfold chn; rw [bts_take R k j hj, jn_snoc]
theorem chn_len (R : List Rn) (k : Nat) : (chn R k).length ≤ R.length := by
  have := jn_len (bts R k)
  rw [bts_len] at this
  exact this
theorem chn_lg (R : List Rn) (k : Nat) : lg (chn R k) = lg R := by unfold chn; rw [jn_lg, bts_lg]
theorem chn_ps {R : List Rn} (h : ps R) (k : Nat) : ps (chn R k) := jn_ps (bts_ps h k)
theorem chn_vr {m : Int} {R : List Rn} (h : vr m 0 R = true) (k : Nat) : vr 1 0 (chn R k) = true := by
  obtain ⟨h1, h2, h3⟩ := (vr_iff m R 0 (by omega)).1 h
  exact (vr_iff 1 _ 0 (by omega)).2 ⟨jn_lv (bts_lv R k), chn_ps h2 k, by rw [chn_lg]; exact h3⟩
theorem chn_at {R : List Rn} (h : ps R) (k : Nat) {t : Int} (h0 : 0 ≤ t) (h1 : t < lg R) : atv (chn R k) t = (bt (atv R t).1 k, true) := by
  unfold chn
  rw [atv_jn t (bts_ps h k) h0, bts_at, if_pos (atv_in h0 h h1).1]

end Go.Proofs.Yteccafndplaklaa

namespace Go.Proofs.Yteccafndplaklaa
open Go
set_option linter.unusedVariables false
set_option linter.unusedSimpArgs false

abbrev Ed := Int × Int × Int
/-- The changes of the channels from i on, f of them, between the levels a and b at the tick t. -/
def cg (a b t : Int) : Nat → Nat → List Ed
  | _, 0 => []
  | i, f + 1 => (if bt a i = bt b i then [] else [(t, ((i : Nat) : Int), bt b i)]) ++ cg a b t (i + 1) f
theorem cg_succ (a b t : Int) (i f : Nat) : cg a b t i (f + 1) = (if bt a i = bt b i then [] else [(t, ((i : Nat) : Int), bt b i)]) ++ cg a b t (i + 1) f := rfl
theorem cg_len (a b t : Int) (i f : Nat) : (cg a b t i f).length ≤ f := by
  induction f generalizing i with
  | zero => simp [cg]
  | succ f ih =>
    rw [cg_succ, List.length_append]
    have := ih (i + 1)
    split <;> simp <;> omega
/-- The changes from a run of level a that ends at t on. -/
def ef (n : Nat) : Int → Int → List Rn → List Ed
  | _, _, [] => []
  | a, t, b :: l => cg a b.1 t 0 n ++ ef n b.1 (t + b.2) l
theorem ef_cons (n : Nat) (a t : Int) (b : Rn) (l : List Rn) : ef n a t (b :: l) = cg a b.1 t 0 n ++ ef n b.1 (t + b.2) l := rfl
def edg (n : Nat) : List Rn → List Ed
  | [] => []
  | a :: l => ef n a.1 a.2 l
theorem ef_len (n : Nat) (a t : Int) (l : List Rn) : (ef n a t l).length ≤ n * l.length := by
  induction l generalizing a t with
  | nil => simp [ef]
  | cons b l ih =>
    rw [ef_cons, List.length_append, List.length_cons, Nat.mul_add, Nat.mul_one]
    have := ih b.1 (t + b.2)
    have := cg_len a b.1 t 0 n
    omega
theorem edg_len (n : Nat) (R : List Rn) : (edg n R).length ≤ n * R.length := by
  cases R with
  | nil => simp [edg]
  | cons a l =>
    have := ef_len n a.1 a.2 l
    rw [List.length_cons, Nat.mul_add]
    show (ef n a.1 a.2 l).length ≤ _
    omega
/-- What is left to be put out before the run j. -/
def rs (n : Nat) (R : List Rn) (j : Nat) : List Ed := if j = 0 then edg n R else ef n (R.getD (j - 1) (0, 0)).1 (lg (R.take j)) (R.drop j)
theorem rs_zero (n : Nat) (R : List Rn) : rs n R 0 = edg n R := rfl
theorem rs_one {n : Nat} {R : List Rn} (h : 0 < R.length) : rs n R 1 = edg n R := by
  cases R with
  | nil => simp at h
  | cons a l =>
    unfold rs
    rw [if_neg (by omega)]
    simp [edg, lg]
theorem rs_step {n : Nat} {R : List Rn} {i : Nat} (h : i + 1 < R.length) : rs n R (i + 1) = cg R[i].1 R[i + 1].1 (lg (R.take (i + 1))) 0 n ++ rs n R (i + 2) := by
  have e : ∀ j, rs n R (j + 1) = ef n (R.getD j (0, 0)).1 (lg (R.take (j + 1))) (R.drop (j + 1)) := fun j => if_neg (by omega)
  rw [e i, e (i + 1), List.drop_eq_getElem_cons h, ef_cons, lg_take R (i + 1) h]
  simp [show i < R.length by omega, h]
theorem rs_end {n : Nat} {R : List Rn} {j : Nat} (h : R.length ≤ j) (hj : 0 < j) : rs n R j = [] := by
  unfold rs
  rw [if_neg (by omega), List.drop_eq_nil_of_le h]; rfl
def edC (N : List ByteArray) (R : List Rn) : List Ed := if ckC N R = 0 then edg N.length R else []
theorem edC_yes {N : List ByteArray} {R : List Rn} (h : ckC N R = 0) : edC N R = edg N.length R := by unfold edC; rw [if_pos h]
theorem edC_no {N : List ByteArray} {R : List Rn} (h : ¬ ckC N R = 0) : edC N R = [] := by unfold edC; rw [if_neg h]

end Go.Proofs.Yteccafndplaklaa

namespace Go.Proofs.Yteccafndplaklaa
open Go
set_option linter.unusedVariables false
set_option linter.unusedSimpArgs false

/-- The levels of all at a tick. -/
def lvl : List (List Rn) → Int → Int
  | [], _ => 0
  | w :: ws, k => (atv w k).1 + 2 * lvl ws k
theorem lvl_append (a b : List (List Rn)) (k : Int) : lvl (a ++ b) k = lvl a k + 2 ^ a.length * lvl b k := by
  induction a with
  | nil => simp [lvl]
  | cons w a ih =>
    have e : (2 : Int) ^ (a.length + 1) = 2 * 2 ^ a.length := by rw [Int.pow_succ]; omega
    simp only [List.cons_append, lvl, ih, List.length_cons, e, Int.mul_add, Int.mul_assoc, Int.add_assoc]
theorem lvl_take (ws : List (List Rn)) (i : Nat) (hi : i < ws.length) (k : Int) : lvl (ws.take (i + 1)) k = lvl (ws.take i) k + (atv ws[i] k).1 * 2 ^ i := by
  rw [List.take_succ_eq_append_getElem hi, lvl_append, List.length_take, Nat.min_eq_left (by omega)]
  simp only [lvl, Int.mul_zero, Int.add_zero]
  rw [Int.mul_comm (2 ^ i)]
def w01 (ws : List (List Rn)) (k : Int) : Prop := ∀ w ∈ ws, (atv w k).1 = 0 ∨ (atv w k).1 = 1
theorem lvl_range {ws : List (List Rn)} {k : Int} (h : w01 ws k) : 0 ≤ lvl ws k ∧ lvl ws k < 2 ^ ws.length := by
  induction ws with
  | nil => simp [lvl]
  | cons w ws ih =>
    have h1 := ih (fun x hx => h x (by simp [hx]))
    have h2 := h w (by simp)
    have e : (2 : Int) ^ (ws.length + 1) = 2 * 2 ^ ws.length := by rw [Int.pow_succ]; omega
    simp only [lvl, List.length_cons, e]
    omega
theorem w01_take {ws : List (List Rn)} {k : Int} (h : w01 ws k) (i : Nat) : w01 (ws.take i) k := fun w hw => h w (List.mem_of_mem_take hw)
/-- 'acc | (b << i)'. -/
theorem or_i64 (a b i : Nat) (ha : a < 2 ^ i) (hb : b ≤ 1) (hi : i ≤ 15) : bits .or .i64 (a : Int) ((b * 2 ^ i : Nat) : Int) = ((a + b * 2 ^ i : Nat) : Int) := by
  have hp : 2 ^ i ≤ 2 ^ 15 := Nat.pow_le_pow_right (by omega) hi
  have hx : b * 2 ^ i ≤ 1 * 2 ^ i := Nat.mul_le_mul_right _ hb
  have ho : a ||| b * 2 ^ i = a + b * 2 ^ i := by
    rw [Nat.mul_comm, Nat.or_comm, ← Nat.two_pow_add_eq_or_of_lt ha, Nat.add_comm]
  show IntKind.i64.wrap ((BitVec.ofInt 64 a ||| BitVec.ofInt 64 ((b * 2 ^ i : Nat) : Int)).toNat : Int) = _
  have e1 : (BitVec.ofInt 64 (a : Int)).toNat = a := by rw [BitVec.toNat_ofInt]; omega
  have e2 : (BitVec.ofInt 64 ((b * 2 ^ i : Nat) : Int)).toNat = b * 2 ^ i := by rw [BitVec.toNat_ofInt]; omega
  rw [BitVec.toNat_or, e1, e2, ho, IntKind.wrap_i64]
  omega
/-- The same, of numbers. -/
theorem or_step {acc b : Int} {i : Nat} (h0 : 0 ≤ acc) (h1 : acc < 2 ^ i) (hb : b = 0 ∨ b = 1) (hi : i ≤ 15) : bits .or .i64 acc (b * 2 ^ i) = acc + b * 2 ^ i := by
  obtain ⟨a, rfl⟩ : ∃ a : Nat, acc = a := ⟨acc.toNat, by omega⟩
  obtain ⟨c, rfl⟩ : ∃ c : Nat, b = c := ⟨b.toNat, by omega⟩
  have e : (2 : Int) ^ i = ((2 ^ i : Nat) : Int) := by simp
  rw [e] at h1 ⊢
  have := or_i64 a c i (by omega) (by omega) hi
  rw [Int.natCast_mul] at this
  rw [this, Int.natCast_add, Int.natCast_mul]

/-! The position of a tick in a wave. -/
def Pz (W : List Rn) (t : Int) (p : Int × Int) : Prop := ∃ j : Nat, p.1 = j ∧ j ≤ W.length ∧ lg (W.take j) + p.2 = t ∧ 0 ≤ p.2 ∧ (∀ h : j < W.length, p.2 < W[j].2) ∧ (j = W.length → p.2 = 0)
theorem Pz_start {W : List Rn} (h : ps W) : Pz W 0 (0, 0) := by
  refine ⟨0, rfl, Nat.zero_le _, rfl, Int.le_refl _, fun hl => ?_, fun _ => rfl⟩
  have := h W[0] (List.getElem_mem hl)
  show (0 : Int) < _
  omega
theorem Pz_in {W : List Rn} {t : Int} {p : Int × Int} (h : Pz W t p) (ht : t < lg W) : ∃ (j : Nat) (hj : j < W.length), p.1 = j ∧ lg (W.take j) + p.2 = t ∧ 0 ≤ p.2 ∧ p.2 < W[j].2 := by
  obtain ⟨j, h1, h2, h3, h4, h5, h6⟩ := h
  have hj : j < W.length := by
    rcases Nat.lt_or_ge j W.length with c | c
    · exact c
    · have e : j = W.length := by omega
      have := h6 e
      rw [e, List.take_length] at h3
      omega
  exact ⟨j, hj, h1, h3, h4, h5 hj⟩
theorem Pz_out {W : List Rn} {t : Int} {p : Int × Int} (hp : ps W) (h : Pz W t p) (ht : p.1 = W.length) : t = lg W := by
  obtain ⟨j, h1, h2, h3, h4, h5, h6⟩ := h
  have e : j = W.length := by omega
  have := h6 e
  rw [e, List.take_length] at h3
  omega
/-- d ticks on, with no end of a run in between. -/
def av (W : List Rn) (d : Int) (p : Int × Int) : Int × Int := if p.2 + d = (W.getD p.1.toNat (0, 0)).2 then (p.1 + 1, 0) else (p.1, p.2 + d)
theorem Pz_step {W : List Rn} {t d : Int} {p : Int × Int} (hp : ps W) (h : Pz W t p) (ht : t < lg W) (hd : 0 ≤ d) (hr : d ≤ (W.getD p.1.toNat (0, 0)).2 - p.2) : Pz W (t + d) (av W d p) := by
  obtain ⟨j, hj, h1, h3, h4, h5⟩ := Pz_in h ht
  have e : W.getD p.1.toNat (0, 0) = W[j] := by rw [h1]; simp [hj]
  unfold av
  rw [e] at hr ⊢
  by_cases c : p.2 + d = W[j].2
  · rw [if_pos c]
    have hl := lg_take W j hj
    refine ⟨j + 1, by show p.1 + 1 = _; omega, by omega, by show lg (W.take (j + 1)) + 0 = _; omega, Int.le_refl _, fun hl => ?_, fun _ => rfl⟩
    have := hp W[j + 1] (List.getElem_mem hl)
    show (0 : Int) < _
    omega
  · rw [if_neg c]
    exact ⟨j, h1, by omega, by show lg (W.take j) + (p.2 + d) = _; omega, by show 0 ≤ p.2 + d; omega, fun hl => by show p.2 + d < _; omega, fun e => by omega⟩
theorem Pz_level {W : List Rn} {t d : Int} {p : Int × Int} (hp : ps W) (h : Pz W t p) (ht : t < lg W) (hr : d ≤ (W.getD p.1.toNat (0, 0)).2 - p.2) {k : Int} (h0 : t ≤ k) (h1 : k < t + d) : atv W k = ((W.getD p.1.toNat (0, 0)).1, true) := by
  obtain ⟨j, hj, e1, h3, h4, h5⟩ := Pz_in h ht
  have e : W.getD p.1.toNat (0, 0) = W[j] := by rw [e1]; simp [hj]
  rw [e] at hr ⊢
  exact atv_run hp hj (by omega) (by rw [lg_take W j hj]; omega)

/-! What is put together up to a tick. -/
def Cb (ws : List (List Rn)) (t : Int) (out : List Rn) : Prop := al out ∧ ps out ∧ lg out = t ∧ ∀ k, 0 ≤ k → k < t → atv out k = (lvl ws k, true)
theorem Cb_start (ws : List (List Rn)) : Cb ws 0 [] := ⟨al_nil, ps_nil, rfl, fun k h0 h1 => by omega⟩
theorem Cb_step {ws : List (List Rn)} {t d L : Int} {out : List Rn} (h : Cb ws t out) (hd : 1 ≤ d) (hL : ∀ k, t ≤ k → k < t + d → lvl ws k = L) : Cb ws (t + d) (pt out (L, d)) := by
  obtain ⟨h1, h2, h3, h4⟩ := h
  refine ⟨pt_al h1, pt_ps h2 hd, by rw [pt_lg, h3], fun k k0 k1 => ?_⟩
  have := atv_pt out (L, d) [] k h2 hd k0
  rw [List.append_nil] at this
  rw [this, atv_append _ _ k h2 k0, h3]
  by_cases c : k < t
  · rw [if_pos c]; exact h4 k k0 c
  · rw [if_neg c, atv_cons, if_pos (by show k - t < d; omega), hL k (by omega) k1]
theorem Cb_unique {ws : List (List Rn)} {t : Int} {a b : List Rn} (ha : Cb ws t a) (hb : Cb ws t b) : a = b := by
  obtain ⟨a1, a2, a3, a4⟩ := ha
  obtain ⟨b1, b2, b3, b4⟩ := hb
  refine al_unique a1 a2 b1 b2 fun k k0 => ?_
  by_cases c : k < t
  · rw [a4 k k0 c, b4 k k0 c]
  · rw [atv_end a2 (by omega), atv_end b2 (by omega)]
/-- The channels of a capture make it. -/
theorem lvl_bits (R : List Rn) (n : Nat) (L t : Int) (h0 : 0 ≤ L) (hL : L < 2 ^ n) (f : Nat → List Rn) (i : Nat) (hf : ∀ k, k < n → atv (f (i + k)) t = (bt (L * 2 ^ i) (i + k), true)) : lvl ((List.range' i n).map f) t = L := by
  induction n generalizing i L with
  | zero => simp [lvl] at hL ⊢; omega
  | succ n ih =>
    have e2 : (2 : Int) ^ (n + 1) = 2 * 2 ^ n := by rw [Int.pow_succ]; omega
    have hb : bt (L * 2 ^ i) (i + 0) = L % 2 := by
      unfold bt
      rw [Nat.add_zero, Int.mul_ediv_cancel _ (by have : (0 : Int) < 2 ^ i := Int.pow_pos (by omega); omega)]
    have := hf 0 (by omega)
    rw [hb] at this
    rw [List.range'_succ, List.map_cons]
    simp only [lvl]
    rw [Nat.add_zero] at this
    rw [this, ih (L / 2) (by omega) (by omega) (i + 1) fun k hk => ?_]
    · simp only; omega
    · have h2 := hf (k + 1) (by omega)
      rw [show i + 1 + k = i + (k + 1) by omega, h2]
      congr 1
      unfold bt
      rw [Int.pow_succ 2 i]
      have e3 : (2 : Int) ^ (i + (k + 1)) = 2 ^ i * (2 * 2 ^ k) := by rw [Int.pow_add, Int.pow_succ]; congr 1; omega
      have e4 : L * 2 ^ i / (2 ^ i * (2 * 2 ^ k)) = L / (2 * 2 ^ k) := by
        rw [Int.mul_comm L]
        exact Int.mul_ediv_mul_of_pos _ _ (Int.pow_pos (by omega))
      have e5 : L / 2 * (2 ^ i * 2) / (2 ^ i * (2 * 2 ^ k)) = L / 2 / 2 ^ k := by
        rw [Int.mul_comm (L / 2), ← Int.mul_assoc (2 ^ i) 2 (2 ^ k)]
        exact Int.mul_ediv_mul_of_pos _ _ (by have : (0 : Int) < 2 ^ i := Int.pow_pos (by omega); omega)
      rw [e3, e4, e5, Int.ediv_ediv_of_nonneg (by omega)]
theorem Cb_chn {m : Int} {R : List Rn} {n : Nat} (hv : vr (mk n) 0 R = true) : Cb ((List.range n).map (chn R)) (lg R) (jn R) := by
  obtain ⟨h1, h2, h3⟩ := (vr_iff _ R 0 (by omega)).1 hv
  refine ⟨jn_al R, jn_ps h2, jn_lg R, fun k k0 k1 => ?_⟩
  rw [atv_jn k h2 k0]
  obtain ⟨a1, r, a2, a3⟩ := atv_in k0 h2 k1
  have hr := h1 r a2
  have e : lvl ((List.range n).map (chn R)) k = (atv R k).1 := by
    rw [List.range_eq_range']
    refine lvl_bits R n _ k (by omega) (by have : mk n = 2 ^ n - 1 := rfl; omega) (chn R) 0 fun i hi => ?_
    rw [chn_at h2 _ k0 k1]
    simp
  rw [e]
  exact Prod.ext rfl a1

/-! Sums of positions. -/
def sj : List (Int × Int) → Int
  | [] => 0
  | p :: l => p.1 + sj l
def sl2 : List (List Rn) → Int
  | [] => 0
  | w :: ws => (w.length : Int) + sl2 ws
theorem sl2_nonneg (ws : List (List Rn)) : 0 ≤ sl2 ws := by
  induction ws with
  | nil => exact Int.le_refl _
  | cons w ws ih => simp only [sl2]; omega

end Go.Proofs.Yteccafndplaklaa

namespace Go.Proofs.Yteccafndplaklaa
open Go Go.ChangeShapes Go.WideShapes Go.ChangeAt Go.RowKit

section
variable {H : Type} {enc : TypeId × Value → H} {P : Program} {w : World} {b0 base : Nat} {spare : Nat → Bool} {held : Bool} {r : Reach} {t : TypeId} {v : Value} {d : DataW H} {p : List MemPlace}

theorem okWide_arr {n : Nat} {e : TypeId} (ht : P.underlying t = some (.array n e)) (h : Value.okWide P w r b0 t v) : ∃ cs, v = .agg cs ∧ cs.size = P.cellsOf t := by
  simp only [Value.okWide, ht] at h
  obtain ⟨cs, h1, h2, _⟩ := h
  exact ⟨cs, h1, h2⟩
/-- A struct of one-cell fields. -/
theorem open_struct {fs : Array Field} (hs : P.underlying t = some (.struct fs)) (hv : Value.okWide P w r b0 t v) (h : DataW.Trod enc P w base spare held t v d p) :
    ∃ (cs : Array Value) (n : Nat), v = .agg cs ∧ cs.size = P.cellsOf t ∧ ∀ (i : Nat) (f : Field), fs[i]? = some f → P.cellsOf f.type = 1 → f.offset < cs.size → ∃ y, DataW.trod enc P w base spare held n f.type [cs.getD f.offset default] = some y := by
  obtain ⟨cs, rfl, hsz⟩ := okWide_struct hs hv
  obtain ⟨fuel, hf⟩ := h
  obtain ⟨xs, n, rfl, _, _, hl, hx⟩ := DataW.trod_struct hs hf
  refine ⟨cs, n, rfl, hsz, fun i f hi h1 ho => ?_⟩
  have hlt : i < fs.size := (Array.getElem?_eq_some_iff.1 hi).1
  have h2 := hx i f hi
  have h3 : i < xs.length := by omega
  rw [h1, List.getElem?_eq_getElem h3] at h2
  refine ⟨xs[i], ?_⟩
  rw [← h2]
  congr 1
  have e : (Value.agg cs).cells.toList = cs.toList := rfl
  rw [e]
  apply List.ext_getElem?
  intro j
  rw [List.getElem?_take, List.getElem?_drop]
  cases j with
  | zero => simp [ho]
  | succ j => simp
/-- An array of one-cell elements. -/
theorem open_arr {k : Nat} {e : TypeId} (hs : P.underlying t = some (.array k e)) (h1 : P.cellsOf e = 1) (hv : Value.okWide P w r b0 t v) (h : DataW.Trod enc P w base spare held t v d p) :
    ∃ (cs : Array Value) (n : Nat), v = .agg cs ∧ cs.size = P.cellsOf t ∧ ∀ i, i < k → i < cs.size → ∃ y, DataW.trod enc P w base spare held n e [cs.getD i default] = some y := by
  obtain ⟨cs, rfl, hsz⟩ := okWide_arr hs hv
  obtain ⟨fuel, hf⟩ := h
  obtain ⟨xs, n, rfl, _, _, hl, hx⟩ := DataW.trod_array hs hf
  refine ⟨cs, n, rfl, hsz, fun i hi ho => ?_⟩
  have h2 := hx i hi
  have h3 : i < xs.length := by omega
  rw [h1, Nat.mul_one, List.getElem?_eq_getElem h3] at h2
  refine ⟨xs[i], ?_⟩
  rw [← h2]
  congr 1
  have e : (Value.agg cs).cells.toList = cs.toList := rfl
  rw [e]
  apply List.ext_getElem?
  intro j
  rw [List.getElem?_take, List.getElem?_drop]
  cases j with
  | zero => simp [ho]
  | succ j => simp
end

theorem arr2 {cs : Array Value} (h : cs.size = 2) : cs = #[cs.getD 0 default, cs.getD 1 default] := by
  obtain ⟨l⟩ := cs
  match l, h with
  | [a, b], _ => rfl
theorem arr3 {cs : Array Value} (h : cs.size = 3) : cs = #[cs.getD 0 default, cs.getD 1 default, cs.getD 2 default] := by
  obtain ⟨l⟩ := cs
  match l, h with
  | [a, b, c], _ => rfl
theorem arr4 {cs : Array Value} (h : cs.size = 4) : cs = #[cs.getD 0 default, cs.getD 1 default, cs.getD 2 default, cs.getD 3 default] := by
  obtain ⟨l⟩ := cs
  match l, h with
  | [a, b, c, d], _ => rfl
theorem arr5 {cs : Array Value} (h : cs.size = 5) : cs = #[cs.getD 0 default, cs.getD 1 default, cs.getD 2 default, cs.getD 3 default, cs.getD 4 default] := by
  obtain ⟨l⟩ := cs
  match l, h with
  | [a, b, c, d, e], _ => rfl

end Go.Proofs.Yteccafndplaklaa

namespace Go.Proofs.Yteccafndplaklaa
open Go Go.ChangeShapes Go.WideShapes Go.ChangeAt Go.RowKit
set_option linter.unusedVariables false

section
variable {H : Type} {enc : TypeId × Value → H} {P : Program} {w : World} {b0 : Nat} {r : Reach} {t : TypeId} {v : Value} {d : DataW H} {p : List MemPlace}

theorem weights_all {e : TypeId} {d : DataW H} {n : Nat} (hn : n ∈ d.weights P e) : ∀ {l : List (DataW H)}, d ∈ l → n ∈ DataW.weightsAll P e l
  | x :: l, h => by
    simp only [DataW.weightsAll, List.mem_append]
    rcases List.mem_cons.1 h with rfl | h
    · exact .inl hn
    · exact .inr (weights_all hn h)
theorem weights_elem {t e : TypeId} {es sp : List (DataW H)} {d : DataW H} {n : Nat} (ht : P.underlying t = some (.slice e)) (hd : d ∈ es) (hn : n ∈ d.weights P e) : n ∈ (DataW.slice es sp).weights P t := by
  simp only [DataW.weights, ht, List.mem_cons, List.mem_append]
  exact .inr (.inl (weights_all hn hd))
theorem weights_part {e : TypeId} {fs : Array Field} {ys : List (DataW H)} {d : DataW H} {f : Field} {i n : Nat} (ht : P.underlying e = some (.struct fs)) (hf : fs[i]? = some f) (hd : ys[i]? = some d) (hn : n ∈ d.weights P f.type) : n ∈ (DataW.agg ys).weights P e := by
  simp only [DataW.weights, ht]
  exact DataW.weights_mem_each (j := i) (t := f.type) (by simp [Array.getElem?_toList, hf]) hd n hn

/-- A slice of structs. -/
theorem open_rows {t e : TypeId} {fs : Array Field} {m : Nat} (ht : P.underlying t = some (.slice e)) (he : P.underlying e = some (.struct fs)) (hc : P.cellsOf e = m) (hpos : 0 < m)
    (hv : Value.okWide P w r b0 t v) (h : DataW.Trod enc P w 0 (fun _ => true) true t v d p) :
    ∃ (A : Option Addr) (len cap : Nat), v = .slice A len cap ∧ len ≤ cap ∧ (A = none → cap = 0) ∧
      (0 < len → ∃ (g o : Nat) (es sp : List (DataW H)), A = some ⟨g, o, none⟩ ∧ g < w.heap.size ∧ d = .slice es sp ∧ es.length = len ∧
        ∀ j, j < len → ∃ (cs : List Value) (ys : List (DataW H)) (n : Nat), cs.length = m ∧ (∀ i, i < m → w.cell? ⟨g, o + j * m + i, none⟩ = cs[i]?) ∧ es[j]? = some (.agg ys) ∧
          ∀ (i : Nat) (f : Field), fs[i]? = some f → P.cellsOf f.type = 1 → f.offset < m → ∃ c y q, cs[f.offset]? = some c ∧ ys[i]? = some y ∧ DataW.trod enc P w 0 (fun _ => true) true n f.type [c] = some (y, q)) := by
  obtain ⟨A, n0, c0, rfl⟩ := okWide_slice ht hv
  obtain ⟨fuel, hf⟩ := h
  rcases Go.Deep.open_slice ht hf with ⟨h1, h2⟩ | ⟨a, len, cap, m', n, D, Pl, h1, hb, hl, hm, hmm, h2, hx⟩
  · simp only [Value.cells, List.cons.injEq, Value.slice.injEq, and_true] at h1
    obtain ⟨rfl, rfl, rfl⟩ := h1
    exact ⟨none, 0, 0, rfl, Nat.le_refl _, fun _ => rfl, fun h => absurd h (by omega)⟩
  · simp only [Value.cells, List.cons.injEq, Value.slice.injEq, and_true] at h1
    obtain ⟨rfl, rfl, rfl⟩ := h1
    simp only [Prod.mk.injEq] at h2
    refine ⟨some a, n0, c0, rfl, hl, fun h => (by cases h), fun h0 => ?_⟩
    rw [hc] at hx
    simp only [if_true] at hmm
    have key : ∀ j, j < n0 → ∃ cs', w.cells? 0 (a.add (j * m)) m = some cs' ∧ DataW.trod enc P w 0 (fun _ => true) true n e cs' = some (D j, Pl j) := fun j hj => hx j (by omega)
    have hspot : a.spot = none := by
      obtain ⟨cs', k1, _⟩ := key 0 h0
      obtain ⟨_, hlen, hcell⟩ := World.cells?_some k1
      have h1 := hcell 0 hpos
      rw [List.getElem?_eq_getElem (by omega)] at h1
      simpa [Addr.add] using World.cell?_spot h1
    obtain ⟨g, o, s⟩ := a
    simp only at hspot
    subst hspot
    have cellAt : ∀ j, j < n0 → ∀ cs' : List Value, w.cells? 0 ((⟨g, o, none⟩ : Addr).add (j * m)) m = some cs' → cs'.length = m ∧ ∀ i, i < m → w.cell? ⟨g, o + j * m + i, none⟩ = cs'[i]? := by
      intro j hj cs' k1
      obtain ⟨_, hlen, hcell⟩ := World.cells?_some k1
      refine ⟨hlen, fun i hi => ?_⟩
      have h1 := hcell i hi
      rwa [Go.Deep.add_add, Addr.add_lit, ← Nat.add_assoc] at h1
    obtain ⟨cs0, k0, _⟩ := key 0 h0
    obtain ⟨l0, q0⟩ := cellAt 0 h0 cs0 k0
    have q00 := q0 0 hpos
    rw [List.getElem?_eq_getElem (by omega)] at q00
    refine ⟨g, o, _, _, rfl, World.block_lt_of_cell? w _ q00, h2.1, by simp, fun j hj => ?_⟩
    obtain ⟨cs', k1, k2⟩ := key j hj
    obtain ⟨lj, qj⟩ := cellAt j hj cs' k1
    obtain ⟨xs, n', rfl, hx', _, hl', hfd⟩ := DataW.trod_struct he k2
    simp only [Prod.mk.injEq] at hx'
    refine ⟨cs', xs.map (·.1), n', lj, qj, by rw [List.getElem?_map, List.getElem?_range hj]; simp [hx'.1], fun i f hi h1 ho => ?_⟩
    have hlt : i < fs.size := (Array.getElem?_eq_some_iff.1 hi).1
    have h3 := hfd i f hi
    have h4 : i < xs.length := by omega
    rw [h1, List.getElem?_eq_getElem h4] at h3
    refine ⟨cs'[f.offset]'(by omega), xs[i].1, xs[i].2, List.getElem?_eq_getElem _, by rw [List.getElem?_map, List.getElem?_eq_getElem h4]; rfl, ?_⟩
    rw [← Prod.eta xs[i]] at h3
    rw [← h3]
    congr 1
    apply List.ext_getElem?
    intro k
    rw [List.getElem?_take, List.getElem?_drop]
    cases k with
    | zero => simp [List.getElem?_eq_getElem (show f.offset < cs'.length by omega)]
    | succ k => simp
end

end Go.Proofs.Yteccafndplaklaa

namespace Go.Proofs.Yteccafndplaklaa
open Go
set_option linter.unusedVariables false
set_option linter.unusedSimpArgs false

/-! Side by side. -/
/-- Two lists of runs side by side, the second one's levels 2^n times as great. -/
def mrg (n : Nat) : List Rn → List Rn → List Rn
  | [], _ => []
  | _ :: _, [] => []
  | (l, t) :: x, (m, u) :: y =>
    if t < u then (l + m * 2 ^ n, t) :: mrg n x ((m, u - t) :: y)
    else if u < t then (l + m * 2 ^ n, u) :: mrg n ((l, t - u) :: x) y
    else (l + m * 2 ^ n, t) :: mrg n x y
termination_by x y => x.length + y.length
theorem mrg_nil (n : Nat) (y : List Rn) : mrg n [] y = [] := by unfold mrg; rfl
theorem mrg_nil2 (n : Nat) (x : List Rn) : mrg n x [] = [] := by cases x <;> (unfold mrg; rfl)
theorem mrg_lt {n : Nat} {l t m u : Int} {x y : List Rn} (h : t < u) : mrg n ((l, t) :: x) ((m, u) :: y) = (l + m * 2 ^ n, t) :: mrg n x ((m, u - t) :: y) := by rw [mrg, if_pos h]
theorem mrg_gt {n : Nat} {l t m u : Int} {x y : List Rn} (h : u < t) : mrg n ((l, t) :: x) ((m, u) :: y) = (l + m * 2 ^ n, u) :: mrg n ((l, t - u) :: x) y := by rw [mrg, if_neg (by omega), if_pos h]
theorem mrg_eq {n : Nat} {l t m : Int} {x y : List Rn} : mrg n ((l, t) :: x) ((m, t) :: y) = (l + m * 2 ^ n, t) :: mrg n x y := by rw [mrg, if_neg (by omega), if_neg (by omega)]
theorem mrg_all (n : Nat) (x y : List Rn) (hx : ps x) (hy : ps y) : ps (mrg n x y) ∧ lg (mrg n x y) = min (lg x) (lg y) ∧ (mrg n x y).length ≤ x.length + y.length ∧ ∀ k, 0 ≤ k → k < min (lg x) (lg y) → atv (mrg n x y) k = ((atv x k).1 + (atv y k).1 * 2 ^ n, true) := by
  induction hN : x.length + y.length using Nat.strongRecOn generalizing x y with
  | ind N ih =>
    match x, y with
    | [], y =>
      have := ps_nonneg hy
      rw [mrg_nil]
      refine ⟨ps_nil, by simp only [lg]; omega, by simp, fun k h0 h1 => by simp only [lg] at h1; omega⟩
    | r :: x, [] =>
      have := ps_nonneg hx
      rw [mrg_nil2]
      refine ⟨ps_nil, by show (0 : Int) = min (lg (r :: x)) 0; omega, by simp, fun k h0 h1 => by have : lg ([] : List Rn) = 0 := rfl; omega⟩
    | (l, t) :: x, (m, u) :: y =>
      obtain ⟨p1, p2⟩ := ps_cons.1 hx
      obtain ⟨q1, q2⟩ := ps_cons.1 hy
      simp only at p1 q1
      have e1 : lg ((l, t) :: x) = t + lg x := rfl
      have e2 : lg ((m, u) :: y) = u + lg y := rfl
      simp only [List.length_cons] at hN
      rcases Int.lt_trichotomy t u with h | h | h
      · obtain ⟨i1, i2, i3, i4⟩ := ih (x.length + (y.length + 1)) (by omega) x ((m, u - t) :: y) p2 (ps_cons.2 ⟨by simp only; omega, q2⟩) (by simp)
        have e3 : lg ((m, u - t) :: y) = u - t + lg y := rfl
        rw [mrg_lt h]
        refine ⟨ps_cons.2 ⟨p1, i1⟩, ?_, ?_, fun k h0 h1 => ?_⟩
        · show t + lg (mrg n x ((m, u - t) :: y)) = _; rw [i2, e1, e2, e3]; omega
        · simp only [List.length_cons] at i3 ⊢; omega
        · rw [atv_cons, atv_cons, atv_cons]
          simp only
          by_cases hk : k < t
          · rw [if_pos hk, if_pos hk, if_pos (by omega)]
          · rw [if_neg hk, if_neg hk, i4 (k - t) (by omega) (by rw [e1, e2] at h1; rw [e3]; omega), atv_cons]
            simp only
            by_cases hu : k < u
            · rw [if_pos hu, if_pos (by omega)]
            · rw [if_neg hu, if_neg (by omega), show k - t - (u - t) = k - u by omega]
      · subst h
        obtain ⟨i1, i2, i3, i4⟩ := ih (x.length + y.length) (by omega) x y p2 q2 rfl
        rw [mrg_eq]
        refine ⟨ps_cons.2 ⟨p1, i1⟩, ?_, ?_, fun k h0 h1 => ?_⟩
        · show t + lg (mrg n x y) = _; rw [i2, e1, e2]; omega
        · simp only [List.length_cons] at i3 ⊢; omega
        · rw [atv_cons, atv_cons, atv_cons]
          simp only
          by_cases hk : k < t
          · rw [if_pos hk, if_pos hk, if_pos hk]
          · rw [if_neg hk, if_neg hk, if_neg hk, i4 (k - t) (by omega) (by rw [e1, e2] at h1; omega)]
      · obtain ⟨i1, i2, i3, i4⟩ := ih (x.length + 1 + y.length) (by omega) ((l, t - u) :: x) y (ps_cons.2 ⟨by simp only; omega, p2⟩) q2 (by simp)
        have e3 : lg ((l, t - u) :: x) = t - u + lg x := rfl
        rw [mrg_gt h]
        refine ⟨ps_cons.2 ⟨q1, i1⟩, ?_, ?_, fun k h0 h1 => ?_⟩
        · show u + lg (mrg n ((l, t - u) :: x) y) = _; rw [i2, e1, e2, e3]; omega
        · simp only [List.length_cons] at i3 ⊢; omega
        · rw [atv_cons, atv_cons, atv_cons]
          simp only
          by_cases hk : k < u
          · rw [if_pos hk, if_pos (by omega), if_pos hk]
          · rw [if_neg hk, if_neg hk, i4 (k - u) (by omega) (by rw [e1, e2] at h1; rw [e3]; omega), atv_cons]
            simp only
            by_cases hu : k < t
            · rw [if_pos hu, if_pos (by omega)]
            · rw [if_neg hu, if_neg (by omega), show k - u - (t - u) = k - t by omega]

/-! Kept longer. -/
/-- The level at the end (0 where there is none). -/
def lst (R : List Rn) : Int := match R.getLast? with | some x => x.1 | none => 0
theorem lst_snoc (o : List Rn) (x : Rn) : lst (o ++ [x]) = x.1 := by unfold lst; simp
/-- The program's: the last run is made longer. -/
def exP (R : List Rn) (d : Int) : List Rn := if d = 0 then R else match R.getLast? with | some x => R.dropLast ++ [(x.1, x.2 + d)] | none => [(0, d)]
/-- The specification's: one more run. -/
def exS (R : List Rn) (d : Int) : List Rn := if 0 < d then (if R = [] then [(0, d)] else R ++ [(lst R, d)]) else R
theorem exP_snoc {o : List Rn} {x : Rn} {d : Int} (h : ¬ d = 0) : exP (o ++ [x]) d = o ++ [(x.1, x.2 + d)] := by unfold exP; rw [if_neg h]; simp
theorem exP_nil {d : Int} (h : ¬ d = 0) : exP [] d = [(0, d)] := by unfold exP; rw [if_neg h]; rfl
theorem exP_zero (R : List Rn) : exP R 0 = R := by unfold exP; rw [if_pos rfl]
theorem exS_zero (R : List Rn) : exS R 0 = R := by unfold exS; rw [if_neg (by omega)]
theorem exS_nil {d : Int} (h : 0 < d) : exS [] d = [(0, d)] := by unfold exS; rw [if_pos h, if_pos rfl]
theorem exS_snoc {o : List Rn} {x : Rn} {d : Int} (h : 0 < d) : exS (o ++ [x]) d = o ++ [x] ++ [(x.1, d)] := by unfold exS; rw [if_pos h, if_neg (by simp), lst_snoc]
theorem exS_len (R : List Rn) (d : Int) : (exS R d).length ≤ R.length + 1 := by
  unfold exS
  (repeat' split) <;> (try simp only [List.length_append, List.length_cons, List.length_nil]) <;> omega
theorem exP_len (R : List Rn) (d : Int) : (exP R d).length ≤ R.length + 1 := by
  by_cases h : d = 0
  · rw [h, exP_zero]; omega
  · rcases nil_or_snoc R with rfl | ⟨o, x, rfl⟩
    · rw [exP_nil h]; simp
    · rw [exP_snoc h]; simp
theorem ex_all {R : List Rn} {d : Int} (hp : ps R) (hd : 0 ≤ d) : ps (exP R d) ∧ ps (exS R d) ∧ lg (exP R d) = lg R + d ∧ lg (exS R d) = lg R + d ∧ ∀ k, 0 ≤ k → atv (exP R d) k = atv (exS R d) k := by
  by_cases h : d = 0
  · subst h; rw [exP_zero, exS_zero]; exact ⟨hp, hp, by omega, by omega, fun k _ => rfl⟩
  · have h1 : 0 < d := by omega
    rcases nil_or_snoc R with rfl | ⟨o, x, rfl⟩
    · rw [exP_nil h, exS_nil h1]
      refine ⟨ps_one.2 (by simp only; omega), ps_one.2 (by simp only; omega), by simp [lg], by simp [lg], fun k _ => rfl⟩
    · rw [exP_snoc h, exS_snoc h1]
      rw [ps_append, ps_one] at hp
      have p1 : ps (o ++ [(x.1, x.2 + d)]) := ps_append.2 ⟨hp.1, ps_one.2 (by simp only; omega)⟩
      have p2 : ps (o ++ [x] ++ [(x.1, d)]) := ps_append.2 ⟨ps_append.2 ⟨hp.1, ps_one.2 hp.2⟩, ps_one.2 (by simp only; omega)⟩
      refine ⟨p1, p2, by simp only [lg_append, lg_one]; omega, by simp only [lg_append, lg_one], fun k hk => ?_⟩
      rw [List.append_assoc, atv_append _ _ k hp.1 hk, atv_append _ _ k hp.1 hk]
      by_cases ho : k < lg o
      · rw [if_pos ho, if_pos ho]
      · rw [if_neg ho, if_neg ho]
        simp only [List.singleton_append, atv_cons, atv]
        by_cases h2 : k - lg o < x.2
        · rw [if_pos h2, if_pos (by omega)]
        · rw [if_neg h2]
          by_cases h3 : k - lg o < x.2 + d
          · rw [if_pos h3, if_pos (by omega)]
          · rw [if_neg h3, if_neg (by omega)]
/-- Before the end nothing has changed. -/
theorem exS_old {R : List Rn} {d k : Int} (hp : ps R) (h0 : 0 ≤ k) (h1 : k < lg R) : atv (exS R d) k = atv R k := by
  unfold exS
  split
  · split
    · rename_i e; subst e; simp only [lg] at h1; omega
    · rw [atv_append _ _ k hp h0, if_pos h1]
  · rfl
theorem exS_lv {m : Int} {R : List Rn} {d : Int} (h : lv m R) (hm : 0 ≤ m) : lv m (exS R d) := by
  rcases nil_or_snoc R with rfl | ⟨o, x, rfl⟩
  · unfold exS
    split
    · rw [if_pos rfl]; exact lv_cons.2 ⟨⟨by simp, by simpa using hm⟩, lv_nil m⟩
    · exact h
  · unfold exS
    split
    · rw [if_neg (by simp), lst_snoc]
      intro r hr
      rcases List.mem_append.1 hr with hr | hr
      · exact h r hr
      · have := h x (by simp)
        simp only [List.mem_singleton] at hr
        subst hr; exact this
    · exact h
theorem exP_lv {m : Int} {R : List Rn} {d : Int} (h : lv m R) (hm : 0 ≤ m) : lv m (exP R d) := by
  by_cases hd : d = 0
  · rw [hd, exP_zero]; exact h
  · rcases nil_or_snoc R with rfl | ⟨o, x, rfl⟩
    · rw [exP_nil hd]; exact lv_cons.2 ⟨⟨by simp, by simpa using hm⟩, lv_nil m⟩
    · rw [exP_snoc hd]
      intro r hr
      rcases List.mem_append.1 hr with hr | hr
      · exact h r (List.mem_append_left _ hr)
      · have := h x (by simp)
        simp only [List.mem_singleton] at hr
        subst hr; exact this

/-! Begun later. -/
def dl (R : List Rn) (b : Int) : List Rn := match R with | [] => [] | r :: l => (r.1, r.2 + b) :: l
theorem dl_nil (b : Int) : dl [] b = [] := rfl
theorem dl_zero (R : List Rn) : dl R 0 = R := by cases R <;> simp [dl]
theorem dl_ps {R : List Rn} {b : Int} (h : ps R) (hb : 0 ≤ b) : ps (dl R b) := by
  cases R with
  | nil => exact h
  | cons r l => rw [ps_cons] at h; exact ps_cons.2 ⟨by simp only; omega, h.2⟩
theorem dl_lg {R : List Rn} {b : Int} (h : R ≠ []) : lg (dl R b) = lg R + b := by
  cases R with
  | nil => exact absurd rfl h
  | cons r l => simp only [dl, lg]; omega
theorem dl_lv {m : Int} {R : List Rn} {b : Int} (h : lv m R) : lv m (dl R b) := by
  cases R with
  | nil => exact h
  | cons r l => rw [lv_cons] at h; exact lv_cons.2 h
theorem dl_at {R : List Rn} {b k : Int} (h : ps R) (hb : 0 ≤ b) (h0 : 0 ≤ k) : atv (dl R b) k = if k < b then atv R 0 else atv R (k - b) := by
  cases R with
  | nil => simp [dl, atv]
  | cons r l =>
    rw [ps_cons] at h
    simp only [dl, atv_cons]
    by_cases hk : k < b
    · rw [if_pos hk, if_pos (by omega), if_pos (by omega)]
    · rw [if_neg hk]
      by_cases h2 : k - b < r.2
      · rw [if_pos h2, if_pos (by omega)]
      · rw [if_neg h2, if_neg (by omega), show k - (r.2 + b) = k - b - r.2 by omega]
/-- Later twice. -/
theorem dl_twice {R : List Rn} {m n : Int} (h : ps R) (hm : 0 ≤ m) (hn : 0 ≤ n) : jn (dl (jn (dl R m)) n) = jn (dl R (m + n)) := by
  have p1 := dl_ps h hm
  have p2 := jn_ps p1
  have p3 := dl_ps p2 hn
  have p4 := dl_ps h (show 0 ≤ m + n by omega)
  refine al_unique (jn_al _) (jn_ps p3) (jn_al _) (jn_ps p4) fun k hk => ?_
  rw [atv_jn k p3 hk, atv_jn k p4 hk, dl_at p2 hn hk, dl_at h (by omega) hk]
  by_cases h1 : k < n
  · rw [if_pos h1, if_pos (by omega), atv_jn 0 p1 (by omega), dl_at h hm (by omega)]
    by_cases h2 : (0 : Int) < m
    · rw [if_pos h2]
    · rw [if_neg h2, show (0 : Int) - m = 0 by omega]
  · rw [if_neg h1, atv_jn _ p1 (by omega), dl_at h hm (by omega)]
    by_cases h2 : k - n < m
    · rw [if_pos h2, if_pos (by omega)]
    · rw [if_neg h2, if_neg (by omega), show k - n - m = k - (m + n) by omega]

/-! Chosen channels. -/
/-- The chosen bits of a level. -/
def sb : List Nat → Int → Int
  | [], _ => 0
  | k :: ks, L => bt L k + 2 * sb ks L
theorem sb_append (a b : List Nat) (L : Int) : sb (a ++ b) L = sb a L + 2 ^ a.length * sb b L := by
  induction a with
  | nil => simp [sb]
  | cons w a ih =>
    have e : (2 : Int) ^ (a.length + 1) = 2 * 2 ^ a.length := by rw [Int.pow_succ]; omega
    simp only [List.cons_append, sb, ih, List.length_cons, e, Int.mul_add, Int.mul_assoc, Int.add_assoc]
theorem sb_take (ks : List Nat) (i : Nat) (hi : i < ks.length) (L : Int) : sb (ks.take (i + 1)) L = sb (ks.take i) L + bt L ks[i] * 2 ^ i := by
  rw [List.take_succ_eq_append_getElem hi, sb_append, List.length_take, Nat.min_eq_left (by omega)]
  simp only [sb, Int.mul_zero, Int.add_zero]
  rw [Int.mul_comm (2 ^ i)]
theorem sb_range (ks : List Nat) (L : Int) : 0 ≤ sb ks L ∧ sb ks L < 2 ^ ks.length := by
  induction ks with
  | nil => simp [sb]
  | cons k ks ih =>
    have e : (2 : Int) ^ (ks.length + 1) = 2 * 2 ^ ks.length := by rw [Int.pow_succ]; omega
    have := bt_01 L k
    simp only [sb, List.length_cons, e]; omega
def sel (ks : List Nat) (R : List Rn) : List Rn := R.map fun r => (sb ks r.1, r.2)
theorem sel_lg (ks : List Nat) (R : List Rn) : lg (sel ks R) = lg R := by
  induction R with
  | nil => rfl
  | cons r R ih => simp only [sel, List.map_cons, lg] at *; omega
theorem sel_ps {ks : List Nat} {R : List Rn} (h : ps R) : ps (sel ks R) := by
  intro r hr
  obtain ⟨x, hx, rfl⟩ := List.mem_map.1 hr
  exact h x hx
theorem sel_at (ks : List Nat) (R : List Rn) (t : Int) : atv (sel ks R) t = if (atv R t).2 = true then (sb ks (atv R t).1, true) else (-1, false) := by
  induction R generalizing t with
  | nil => simp [sel, atv]
  | cons r R ih =>
    simp only [sel, List.map_cons] at *
    rw [atv_cons, atv_cons]
    by_cases h : t < r.2
    · simp [h]
    · simp only [h, if_false]; exact ih _
theorem lvl_sel {R : List Rn} (h : ps R) (ks : List Nat) {t : Int} (h0 : 0 ≤ t) (h1 : t < lg R) : lvl (ks.map (chn R)) t = sb ks (atv R t).1 := by
  induction ks with
  | nil => rfl
  | cons k ks ih => simp only [List.map_cons, lvl, sb]; rw [chn_at h k h0 h1, ih]
/-- What is chosen is the clean capture of the chosen channels. -/
theorem Cb_sel {R : List Rn} (h : ps R) (ks : List Nat) : Cb (ks.map (chn R)) (lg R) (jn (sel ks R)) := by
  refine ⟨jn_al _, jn_ps (sel_ps h), by rw [jn_lg, sel_lg], fun k k0 k1 => ?_⟩
  rw [atv_jn k (sel_ps h) k0, sel_at, lvl_sel h ks k0 k1, if_pos (atv_in k0 h k1).1]

/-! Two captures. -/
theorem lvl_chn {m : Nat} {R : List Rn} (hv : lv (mk m) R) (hp : ps R) {k : Int} (k0 : 0 ≤ k) (k1 : k < lg R) : lvl ((List.range m).map (chn R)) k = (atv R k).1 := by
  obtain ⟨a1, r, a2, a3⟩ := atv_in k0 hp k1
  have hr := hv r a2
  rw [List.range_eq_range']
  refine lvl_bits R m _ k (by omega) (by have : mk m = 2 ^ m - 1 := rfl; omega) (chn R) 0 fun i hi => ?_
  rw [chn_at hp _ k0 k1]
  simp
/-- The program's waves of both, made long, are those of the specification's runs side by side. -/
theorem Cb_mrg {m n : Nat} {X Y : List Rn} {a b t : Int} (hX : ps X) (hY : ps Y) (lX : lv (mk m) X) (lY : lv (mk n) Y) (hm : 0 ≤ mk m) (hn : 0 ≤ mk n) (ha : 0 ≤ a) (hb : 0 ≤ b) (ea : lg X + a = t) (eb : lg Y + b = t) :
    Cb ((List.range m).map (chn (exP X a)) ++ (List.range n).map (chn (exP Y b))) t (jn (mrg m (exS X a) (exS Y b))) := by
  obtain ⟨x1, x2, x3, x4, x5⟩ := ex_all hX ha
  obtain ⟨y1, y2, y3, y4, y5⟩ := ex_all hY hb
  obtain ⟨m1, m2, m3, m4⟩ := mrg_all m (exS X a) (exS Y b) x2 y2
  refine ⟨jn_al _, jn_ps m1, by rw [jn_lg, m2, x4, y4]; omega, fun k k0 k1 => ?_⟩
  rw [atv_jn k m1 k0, m4 k k0 (by rw [x4, y4]; omega), lvl_append, lvl_chn (exP_lv lX hm) x1 k0 (by omega), lvl_chn (exP_lv lY hn) y1 k0 (by omega), x5 k k0, y5 k k0]
  simp only [List.length_map, List.length_range]
  rw [Int.mul_comm (2 ^ m)]
theorem mrg_few {m : Nat} {X Y : List Rn} {a b : Int} (hX : ps X) (hY : ps Y) (ha : 0 ≤ a) (hb : 0 ≤ b) : (jn (mrg m (exS X a) (exS Y b))).length ≤ X.length + Y.length + 2 := by
  have h1 := (mrg_all m (exS X a) (exS Y b) (ex_all hX ha).2.1 (ex_all hY hb).2.1).2.2.1
  have h2 := jn_len (mrg m (exS X a) (exS Y b))
  have h3 := exS_len X a
  have h4 := exS_len Y b
  omega

/-! Scaled times. -/
/-- The runs whose bounds f has moved (from the bound s on), without those that become empty. -/
def scr (f : Int → Int) : Int → List Rn → List Rn
  | _, [] => []
  | s, r :: l => (if f s < f (s + r.2) then [(r.1, f (s + r.2) - f s)] else []) ++ scr f (s + r.2) l
theorem scr_snoc (f : Int → Int) (s : Int) (l : List Rn) (r : Rn) : scr f s (l ++ [r]) = scr f s l ++ (if f (s + lg l) < f (s + lg l + r.2) then [(r.1, f (s + lg l + r.2) - f (s + lg l))] else []) := by
  induction l generalizing s with
  | nil => simp [scr, lg]
  | cons x l ih =>
    simp only [List.cons_append, scr, ih, lg, List.append_assoc, Int.add_assoc]
theorem scr_take (f : Int → Int) (l : List Rn) (j : Nat) (hj : j < l.length) : scr f 0 (l.take (j + 1)) = scr f 0 (l.take j) ++ (if f (lg (l.take j)) < f (lg (l.take j) + l[j].2) then [(l[j].1, f (lg (l.take j) + l[j].2) - f (lg (l.take j)))] else []) := by
  rw [List.take_succ_eq_append_getElem hj, scr_snoc]; simp only [Int.zero_add]
theorem scr_ps (f : Int → Int) (s : Int) (l : List Rn) : ps (scr f s l) := by
  induction l generalizing s with
  | nil => exact ps_nil
  | cons x l ih =>
    simp only [scr]
    refine ps_append.2 ⟨?_, ih _⟩
    split
    · exact ps_one.2 (by simp only; omega)
    · exact ps_nil
theorem scr_lv {m : Int} (f : Int → Int) (s : Int) {l : List Rn} (h : lv m l) : lv m (scr f s l) := by
  induction l generalizing s with
  | nil => exact lv_nil m
  | cons x l ih =>
    rw [lv_cons] at h
    simp only [scr]
    intro r hr
    rcases List.mem_append.1 hr with hr | hr
    · split at hr
      · simp only [List.mem_singleton] at hr; subst hr; exact h.1
      · cases hr
    · exact ih _ h.2 r hr
theorem scr_len (f : Int → Int) (s : Int) (l : List Rn) : (scr f s l).length ≤ l.length := by
  induction l generalizing s with
  | nil => simp [scr]
  | cons x l ih =>
    have := ih (s + x.2)
    simp only [scr, List.length_append, List.length_cons]
    split <;> simp <;> omega
theorem scr_lg {f : Int → Int} (hf : ∀ a b, 0 ≤ a → a ≤ b → f a ≤ f b) (s : Int) (hs : 0 ≤ s) {l : List Rn} (h : ps l) : lg (scr f s l) = f (s + lg l) - f s := by
  induction l generalizing s with
  | nil => simp [scr, lg]
  | cons x l ih =>
    rw [ps_cons] at h
    have h1 := hf s (s + x.2) hs (by omega)
    have h2 := ih (s + x.2) (by omega) h.2
    have e : lg (x :: l) = x.2 + lg l := rfl
    rw [e, ← Int.add_assoc]
    simp only [scr, lg_append, h2]
    split
    · rw [lg_one]; simp only; omega
    · simp only [lg]; omega
/-- The level at a scaled tick. -/
theorem scr_at {f : Int → Int} (hf : ∀ a b, 0 ≤ a → a ≤ b → f a ≤ f b) (s : Int) (hs : 0 ≤ s) {l : List Rn} (h : ps l) {t k : Int} (ht : 0 ≤ t) (htl : t < lg l) (h1 : f (s + t) ≤ k) (h2 : k < f (s + t + 1)) : atv (scr f s l) (k - f s) = atv l t := by
  induction l generalizing s t with
  | nil => simp only [lg] at htl; omega
  | cons x l ih =>
    rw [ps_cons] at h
    have e : lg (x :: l) = x.2 + lg l := rfl
    rw [e] at htl
    have g1 := hf s (s + t) hs (by omega)
    rw [atv_cons]
    simp only [scr]
    by_cases hx : t < x.2
    · have g2 := hf (s + t + 1) (s + x.2) (by omega) (by omega)
      rw [if_pos hx, if_pos (by omega), List.singleton_append, atv_cons, if_pos (by simp only; omega)]
    · have g2 := hf (s + x.2) (s + t) (by omega) (by omega)
      have g3 := hf s (s + x.2) hs (by omega)
      have h3 := ih (s + x.2) (by omega) h.2 (t := t - x.2) (by omega) (by omega) (by rw [show s + x.2 + (t - x.2) = s + t by omega]; exact h1) (by rw [show s + x.2 + (t - x.2) + 1 = s + t + 1 by omega]; exact h2)
      rw [if_neg hx, ← h3]
      by_cases hg : f s < f (s + x.2)
      · rw [if_pos hg, List.singleton_append, atv_cons, if_neg (by simp only; omega)]
        simp only
        rw [show k - f s - (f (s + x.2) - f s) = k - f (s + x.2) by omega]
      · rw [if_neg hg, List.nil_append, show f s = f (s + x.2) by omega]
/-- The same runs, the empty ones left in. -/
def scz (f : Int → Int) : Int → List Rn → List Rn
  | _, [] => []
  | s, r :: l => (r.1, f (s + r.2) - f s) :: scz f (s + r.2) l
theorem scz_snoc (f : Int → Int) (s : Int) (l : List Rn) (r : Rn) : scz f s (l ++ [r]) = scz f s l ++ [(r.1, f (s + lg l + r.2) - f (s + lg l))] := by
  induction l generalizing s with
  | nil => simp [scz, lg]
  | cons x l ih => simp only [List.cons_append, scz, ih, lg, Int.add_assoc]
theorem scz_take (f : Int → Int) (l : List Rn) (j : Nat) (hj : j < l.length) : scz f 0 (l.take (j + 1)) = scz f 0 (l.take j) ++ [(l[j].1, f (lg (l.take j) + l[j].2) - f (lg (l.take j)))] := by
  rw [List.take_succ_eq_append_getElem hj, scz_snoc]; simp only [Int.zero_add]
theorem scz_len (f : Int → Int) (s : Int) (l : List Rn) : (scz f s l).length = l.length := by
  induction l generalizing s with
  | nil => rfl
  | cons x l ih => simp only [scz, List.length_cons, ih]
theorem scz_scr {f : Int → Int} (hf : ∀ a b, 0 ≤ a → a ≤ b → f a ≤ f b) (s : Int) (hs : 0 ≤ s) {l : List Rn} (h : ps l) : (scz f s l).filter (fun r => decide (1 ≤ r.2)) = scr f s l := by
  induction l generalizing s with
  | nil => rfl
  | cons x l ih =>
    rw [ps_cons] at h
    simp only [scz, scr, List.filter_cons]
    rw [ih (s + x.2) (by omega) h.2]
    by_cases hg : f s < f (s + x.2)
    · rw [if_pos hg, if_pos (by simp only [decide_eq_true_eq]; omega)]; rfl
    · rw [if_neg hg, if_neg (by simp only [decide_eq_true_eq]; omega)]; rfl
end Go.Proofs.Yteccafndplaklaa

namespace Go.Proofs.Yteccafndplaklaa
open Go
set_option linter.unusedVariables false
set_option linter.unusedSimpArgs false

theorem has_iff {l : List ByteArray} {s : ByteArray} : has l s = true ↔ s ∈ l := by
  unfold has
  rw [List.any_eq_true]
  constructor
  · rintro ⟨x, hx, e⟩
    rw [← eq_of_toList (of_decide_eq_true e)]; exact hx
  · exact fun h => ⟨s, h, by simp⟩
theorem has_no {l : List ByteArray} {s : ByteArray} : has l s = false ↔ ¬ s ∈ l := by rw [← has_iff]; cases has l s <;> simp
/-- Some name stands twice. -/
theorem dp_iff {l : List ByteArray} : dpT l l.length = true ↔ ¬ l.Nodup := by
  unfold dpT
  rw [List.any_eq_true, List.Nodup, List.pairwise_iff_getElem]
  constructor
  · rintro ⟨i, hi, e⟩ h
    rw [List.mem_range] at hi
    rw [has_iff, List.getD_eq_getElem?_getD, List.getElem?_eq_getElem hi, Option.getD_some] at e
    obtain ⟨j, hj, ej⟩ := List.getElem_of_mem e
    rw [List.length_take] at hj
    rw [List.getElem_take] at ej
    exact h j i (by omega) hi (by omega) ej
  · intro h
    refine Classical.byContradiction fun hn => h fun i j hi hj hij e => hn ⟨j, List.mem_range.2 hj, ?_⟩
    rw [has_iff, List.getD_eq_getElem?_getD, List.getElem?_eq_getElem hj, Option.getD_some, ← e]
    exact List.mem_iff_getElem.2 ⟨i, by rw [List.length_take]; omega, by rw [List.getElem_take]⟩
theorem dp_no {l : List ByteArray} : dpT l l.length = false ↔ l.Nodup := by
  cases h : dpT l l.length
  · simp only [true_iff]; exact Classical.byContradiction fun hn => by rw [dp_iff.2 hn] at h; exact absurd h (by decide)
  · simp only [Bool.true_eq_false, false_iff]; exact dp_iff.1 h
theorem ckN_nodup {l : List ByteArray} (h : ckN l = 0) : l.Nodup := by
  unfold ckN at h
  split at h
  · omega
  · split at h
    · omega
    · split at h
      · omega
      · split at h
        · omega
        · rename_i h4; exact dp_no.1 (by simpa using h4)

/-! Chosen names. -/
/-- How many names from the first on are known. -/
def kn (N M : List ByteArray) : Nat := (M.takeWhile (has N)).length
theorem kn_le (N M : List ByteArray) : kn N M ≤ M.length := by
  unfold kn
  induction M with
  | nil => simp
  | cons x M ih => rw [List.takeWhile_cons]; split <;> simp only [List.length_cons, List.length_nil] <;> omega
theorem kn_at {N M : List ByteArray} (j : Nat) (h : j < M.length) (hj : j < kn N M) : has N M[j] = true := by
  unfold kn at hj
  induction M generalizing j with
  | nil => simp at h
  | cons x M ih =>
    rw [List.takeWhile_cons] at hj
    split at hj
    · cases j with
      | zero => assumption
      | succ j => exact ih j (by simpa using h) (by simpa using hj)
    · simp at hj
theorem kn_eq {N M : List ByteArray} {i : Nat} (h : ∀ j (hj : j < M.length), j < i → has N M[j] = true) (hi : i ≤ M.length) (hs : ∀ hj : i < M.length, has N M[i] = false) : kn N M = i := by
  have h1 := kn_le N M
  rcases Nat.lt_trichotomy (kn N M) i with hc | hc | hc
  · exfalso
    have hl : kn N M < M.length := by omega
    have hy := h _ hl hc
    -- the place after those known is not known
    have : ∀ (M : List ByteArray) (hl : kn N M < M.length), has N M[kn N M] = false := by
      intro M
      induction M with
      | nil => intro hl; simp at hl
      | cons x M ih =>
        intro hl
        by_cases hx : has N x = true
        · have e : kn N (x :: M) = kn N M + 1 := by unfold kn; rw [List.takeWhile_cons, if_pos hx]; rfl
          simp only [e]
          exact ih (by rw [e] at hl; simpa using hl)
        · have e : kn N (x :: M) = 0 := by unfold kn; rw [List.takeWhile_cons, if_neg hx]; rfl
          simp only [e]
          simpa using hx
    rw [this M hl] at hy
    exact absurd hy (by decide)
  · exact hc
  · exfalso
    have hl : i < M.length := by omega
    have := kn_at i hl hc
    rw [hs hl] at this
    exact absurd this (by decide)
/-- The error of chosen names. -/
def ckS (N M : List ByteArray) : Int := if M.length = 0 then 1 else if dpT (M.take (kn N M)) (M.take (kn N M)).length = true then 9 else if kn N M < M.length then 8 else 0
theorem ckS_none {N M : List ByteArray} (h : M.length = 0) : ckS N M = 1 := by unfold ckS; rw [if_pos h]

/-! Two lists of names. -/
theorem nodup_two {A B : List ByteArray} (ha : A.Nodup) (hb : B.Nodup) : (A ++ B).Nodup ↔ ∀ x ∈ B, ¬ x ∈ A := by
  rw [List.nodup_append]
  constructor
  · rintro ⟨_, _, h⟩ x hx hA; exact h x hA x hx rfl
  · exact fun h => ⟨ha, hb, fun a h1 b h2 e => h b h2 (e ▸ h1)⟩
theorem nodup_set {A : List ByteArray} {k : Nat} {s : ByteArray} (ha : A.Nodup) (hk : k < A.length) : (A.set k s).Nodup ↔ ∀ j (hj : j < A.length), A[j] = s → j = k := by
  rw [List.Nodup, List.pairwise_iff_getElem]
  simp only [List.length_set, List.getElem_set]
  rw [List.Nodup, List.pairwise_iff_getElem] at ha
  constructor
  · intro h j hj e
    refine Classical.byContradiction fun hne => ?_
    rcases Nat.lt_or_gt_of_ne hne with hl | hl
    · have := h j k hj hk hl
      rw [if_neg (by omega), if_pos rfl] at this
      exact this e
    · have := h k j hk hj hl
      rw [if_pos rfl, if_neg (by omega)] at this
      exact this e.symm
  · intro h i j hi hj hij
    by_cases h1 : k = i
    · rw [if_pos h1, if_neg (by omega)]
      intro e; have := h j hj e.symm; omega
    · by_cases h2 : k = j
      · rw [if_neg h1, if_pos h2]
        intro e; have := h i hi e; omega
      · rw [if_neg h1, if_neg h2]; exact ha i j hi hj hij

/-! The laws' levels. -/
theorem mod_twice (Y P : Int) (hP : 0 < P) : Y % 2 + 2 * (Y / 2 % P) = Y % (2 * P) := by
  have h1 := Int.emod_nonneg (Y / 2) (show P ≠ 0 by omega)
  have h2 := Int.emod_lt_of_pos (Y / 2) hP
  have h3 := Int.mul_ediv_add_emod (Y / 2) P
  have h4 := Int.mul_ediv_add_emod Y 2
  have e : Y = (Y % 2 + 2 * (Y / 2 % P)) + 2 * P * (Y / 2 / P) := by
    have : 2 * P * (Y / 2 / P) = 2 * (P * (Y / 2 / P)) := by rw [Int.mul_assoc]
    omega
  have e2 : Y % (2 * P) = (Y % 2 + 2 * (Y / 2 % P) + 2 * P * (Y / 2 / P)) % (2 * P) := congrArg (fun z => z % (2 * P)) e
  exact (e2.trans ((Int.add_mul_emod_self_left _ _ _).trans (Int.emod_eq_of_lt (by omega) (by omega)))).symm
theorem sb_bits (i n : Nat) (X : Int) : sb (List.range' i n) X = X / 2 ^ i % 2 ^ n := by
  induction n generalizing i with
  | zero => simp [sb]
  | succ n ih =>
    have hP : (0 : Int) < 2 ^ n := Int.pow_pos (by omega)
    have hi : (0 : Int) < 2 ^ i := Int.pow_pos (by omega)
    have e : (2 : Int) ^ (n + 1) = 2 * 2 ^ n := by rw [Int.pow_succ]; omega
    rw [List.range'_succ]
    simp only [sb, bt]
    rw [ih, Int.pow_succ, ← Int.ediv_ediv_of_nonneg (by omega), mod_twice _ _ hP, e]
theorem sb_low {m : Nat} {L M : Int} (h0 : 0 ≤ L) (h1 : L < 2 ^ m) : sb (List.range m) (L + M * 2 ^ m) = L := by
  rw [List.range_eq_range', sb_bits, Int.pow_zero, Int.ediv_one, Int.add_mul_emod_self_right, Int.emod_eq_of_lt h0 h1]
theorem sb_high {m n : Nat} {L M : Int} (h0 : 0 ≤ L) (h1 : L < 2 ^ m) (h2 : 0 ≤ M) (h3 : M < 2 ^ n) : sb (List.range' m n) (L + M * 2 ^ m) = M := by
  have hm : (0 : Int) < 2 ^ m := Int.pow_pos (by omega)
  rw [sb_bits, Int.add_mul_ediv_right _ _ (by omega), Int.ediv_eq_zero_of_lt h0 h1, Int.zero_add, Int.emod_eq_of_lt h2 h3]
theorem scr_id {f : Int → Int} (hf : ∀ x, f x = x) (s : Int) {l : List Rn} (h : ps l) : scr f s l = l := by
  induction l generalizing s with
  | nil => rfl
  | cons x l ih =>
    rw [ps_cons] at h
    simp only [scr, hf]
    rw [if_pos (by omega), ih _ h.2]
    simp only [List.singleton_append]
    congr 1
    exact Prod.ext rfl (by simp only; omega)
theorem scr_mul {n : Int} (hn : 1 ≤ n) {l : List Rn} (h : ps l) : lg (scr (fun x => n * x) 0 l) = n * lg l ∧ ∀ k, 0 ≤ k → k < n * lg l → atv (scr (fun x => n * x) 0 l) k = atv l (k / n) := by
  have hf : ∀ a b : Int, 0 ≤ a → a ≤ b → (fun x => n * x) a ≤ (fun x => n * x) b := fun a b _ hab => Int.mul_le_mul_of_nonneg_left hab (by omega)
  refine ⟨by rw [scr_lg hf 0 (by omega) h]; simp, fun k h0 h1 => ?_⟩
  have d1 : 0 ≤ k / n := Int.ediv_nonneg h0 (by omega)
  have d2 : n * (k / n) ≤ k := Int.mul_ediv_self_le (by omega)
  have d3 : k < n * (k / n) + n := Int.lt_mul_ediv_self_add (by omega)
  have d4 : k / n < lg l := Int.ediv_lt_of_lt_mul (by omega) (by rw [Int.mul_comm]; exact h1)
  have := scr_at hf 0 (by omega) h (t := k / n) (k := k) d1 d4 (by simp only [Int.zero_add]; exact d2) (by simp only [Int.zero_add, Int.mul_add, Int.mul_one]; exact d3)
  simpa using this
end Go.Proofs.Yteccafndplaklaa

namespace Go.Proofs.Yteccafndplaklaa
open Go.RowKit
set_option linter.unusedVariables false
set_option linter.unusedSimpArgs false

theorem rune_cont (s : ByteArray) (pos : Nat) : (Utf8.decode s pos).2 ≤ 4 ∧ ∀ k, 1 ≤ k → k < (Utf8.decode s pos).2 → pos + k < s.size ∧ 128 ≤ (s.get! (pos + k)).toNat := by
  have key : ∀ k, (decide (pos + k < s.size) && (s.get! (pos + k)).toNat / 64 == 2) = true → pos + k < s.size ∧ 128 ≤ (s.get! (pos + k)).toNat := by
    intro k h
    rw [Bool.and_eq_true, decide_eq_true_eq, beq_iff_eq] at h
    omega
  simp only [Utf8.decode]
  split
  · exact ⟨by omega, fun k h1 h2 => by omega⟩
  split
  · rename_i h
    rw [Bool.and_eq_true] at h
    have k1 := key 1 h.2
    split
    · refine ⟨by omega, fun k h1 h2 => ?_⟩
      obtain rfl : k = 1 := by simp only at h2; omega
      exact k1
    · exact ⟨by simp, fun k h1 h2 => by simp only at h2; omega⟩
  split
  · rename_i h
    rw [Bool.and_eq_true, Bool.and_eq_true] at h
    have k1 := key 1 h.1.2
    have k2 := key 2 h.2
    split
    · refine ⟨by omega, fun k h1 h2 => ?_⟩
      have : k = 1 ∨ k = 2 := by simp only at h2; omega
      rcases this with rfl | rfl
      · exact k1
      · exact k2
    · exact ⟨by simp, fun k h1 h2 => by simp only at h2; omega⟩
  split
  · rename_i h
    rw [Bool.and_eq_true, Bool.and_eq_true, Bool.and_eq_true] at h
    have k1 := key 1 h.1.1.2
    have k2 := key 2 h.1.2
    have k3 := key 3 h.2
    split
    · refine ⟨by omega, fun k h1 h2 => ?_⟩
      have : k = 1 ∨ k = 2 ∨ k = 3 := by simp only at h2; omega
      rcases this with rfl | rfl | rfl
      · exact k1
      · exact k2
      · exact k3
    · exact ⟨by simp, fun k h1 h2 => by simp only at h2; omega⟩
  · exact ⟨by simp, fun k h1 h2 => by simp only at h2; omega⟩

theorem get_lit (s : ByteArray) (k : Nat) (h : k < s.size) : s.get! k = s[k] := by simpa using get_at s k h
/-- A rune that begins with a byte of 128 or more: all its bytes are such. -/
theorem rune_high (s : ByteArray) (pos : Nat) (h : pos < s.size) (ha : 128 ≤ s[pos].toNat) :
    128 ≤ (Utf8.decode s pos).1 ∧ 1 ≤ (Utf8.decode s pos).2 ∧ pos + (Utf8.decode s pos).2 ≤ s.size ∧ ∀ x ∈ (s.data.toList.drop pos).take (Utf8.decode s pos).2, 128 ≤ x.toNat := by
  obtain ⟨d1, d2⟩ := decode_high s pos h ha
  obtain ⟨_, hc⟩ := rune_cont s pos
  generalize (Utf8.decode s pos).2 = n at *
  refine ⟨d1, d2, ?_, ?_⟩
  · by_cases h1 : n = 1
    · omega
    · have := (hc (n - 1) (by omega) (by omega)).1; omega
  · intro x hx
    obtain ⟨j, hj, rfl⟩ := List.mem_iff_getElem.1 hx
    have hj2 : j < n := by rw [List.length_take] at hj; omega
    rw [List.getElem_take, List.getElem_drop]
    by_cases h0 : j = 0
    · subst h0; exact ha
    · obtain ⟨h2, h3⟩ := hc j (by omega) hj2
      rw [get_lit s _ h2] at h3
      exact h3
theorem drop_at (s : ByteArray) (k : Nat) (h : k < s.size) : s.data.toList.drop k = s[k] :: s.data.toList.drop (k + 1) := List.drop_eq_getElem_cons (by simpa using h)
theorem drop_end (s : ByteArray) (k : Nat) (h : ¬ k < s.size) : s.data.toList.drop k = [] := List.drop_eq_nil_of_le (by simp; omega)

end Go.Proofs.Yteccafndplaklaa
