/-
  The walk of the specification's name; lists of names: Index, Contains, place, checkNames, names.
  Lists of names: Index, Contains, place, checkNames, the specification's names.
  anyTwice: a map counts the names, and a walk over it that may leave early finds one that stands twice.
  checkSelected: the error of chosen names.
  The specification's place.
  checkNames and the specification's names.
  Runs as the model holds them; checkRuns, the specification's runs, long, total.
-/
import Derived.Test.YteccafndplaklaaZ08
import Derived.Test.YteccafndplaklaaZ07
import Derived.Test.YteccafndplaklaaZ04
import Derived.Maps.Own
import Derived.Maps.OwnOps
import Derived.Maps.RangeWalk
import Derived.Maps.Views
import Derived.StringKeys
import Derived.Carry
import Derived.IntWalk
namespace Go.Proofs.Yteccafndplaklaa
open Go Go.RowKit Go.Joins
set_option linter.unusedVariables false
set_option linter.unusedSimpArgs false

theorem int_lt_f {a b : Nat} (h : ¬ a < b) : decide ((a : Int) < (b : Int)) = false := decide_eq_false (by omega)
set_option maxRecDepth 20000 in
set_option maxHeartbeats 1000000 in
theorem rname_any (s : ByteArray) (w : World) (hs : s.size ≤ 9223372036854775807) :
    Calls Try.prog 83 #[.string s] w fun e w' => e = .returned (.bool (nm s.data.toList)) ∧ w = w' := by
  have hs' : (s.size : Int) ≤ 9223372036854775807 := by omega
  by_cases h0 : s.size = 0
  · have he := toList_empty h0
    rw [nm_empty h0]
    clear h0
    go_enter Try.func83, Try.ntmps83
    go_wp2
    go_returns
    exact ⟨rfl, rfl⟩
  have hp : 0 < s.size := by omega
  have he := toList_some hp
  by_cases h16 : 16 < s.size
  · rw [nm_long h16]
    have h16' : (16 : Int) < s.size := by omega
    clear h0 h16
    go_enter Try.func83, Try.ntmps83
    go_wp2
    go_returns
    exact ⟨rfl, rfl⟩
  have h16' : (s.size : Int) ≤ 16 := by omega
  have k0 : s[0].toNat < 256 := s[0].toNat_lt
  by_cases c1 : s[0].toNat < 97
  · rw [nm_head hp (isLt_f (Or.inl c1))]
    have c1' : (s[0].toNat : Int) < 97 := by omega
    clear h0 h16 c1
    go_enter Try.func83, Try.ntmps83
    go_wp2
    go_returns
    exact ⟨rfl, rfl⟩
  by_cases c2 : 122 < s[0].toNat
  · rw [nm_head hp (isLt_f (Or.inr c2))]
    have c1' : ¬ (s[0].toNat : Int) < 97 := by omega
    have c2' : (122 : Int) < s[0].toNat := by omega
    clear h0 h16 c1 c2
    go_enter Try.func83, Try.ntmps83
    go_wp2
    go_returns
    exact ⟨rfl, rfl⟩
  have HV := Lib.hid (nm_word hp (by omega) (isLt_t (by omega) (by omega)))
  have c1' : ¬ (s[0].toNat : Int) < 97 := by omega
  have c2' : ¬ (122 : Int) < s[0].toNat := by omega
  clear h0 h16 c1 c2
  go_enter Try.func83, Try.ntmps83
  go_wp2
  go_loop [3] (fun i => ∃ k : Nat, k ≤ s.size ∧ i = .int .i64 k ∧ Hid (wl s.data.toList = k + wl (s.data.toList.drop k))) (fun i => s.size - (intOf i).toNat)
  case atStart => exact ⟨0, by omega, rfl, Lib.hid (by rw [List.drop_zero, Nat.zero_add])⟩
  case round =>
    obtain ⟨k, hk, rfl, HW⟩ := hrel
    by_cases hlt : k < s.size
    · have k1 : s[k].toNat < 256 := s[k].toNat_lt
      have HI := Lib.hid (fun h => wl_in hlt h HW.out)
      have HO := Lib.hid (fun h => show nm s.data.toList = false by rw [HV.out, wl_out hlt h HW.out, decide_eq_false]; omega)
      clear c1' c2' HV HW
      obtain ⟨c, hc⟩ : ∃ c, s[k].toNat = c := ⟨_, rfl⟩
      have hc' : (s[k].toNat : Int) = c := by omega
      rw [hc] at HI HO k1
      by_cases a1 : 97 ≤ c
      · by_cases a2 : c ≤ 122
        · have HI2 := Lib.hid (HI.out (isIn_of (Or.inl (isLt_t a1 a2))))
          have d1 : (97 : Int) ≤ s[k].toNat := by omega
          have d2 : (s[k].toNat : Int) ≤ 122 := by omega
          have d3 : decide ((48 : Int) ≤ s[k].toNat) = true := decide_eq_true (by omega)
          have d4 : decide ((s[k].toNat : Int) ≤ 57) = false := decide_eq_false (by omega)
          clear hc hc' a1 a2 HI HO
          go_wp2
          go_round
          case rel => exact ⟨k + 1, by omega, by go_num, HI2⟩
          case measure => simp [intOf]; omega
        · have HO2 := Lib.hid (HO.out (isIn_no (isLt_f (by omega)) (isDg_f (by omega)) (by omega)))
          have d1 : (97 : Int) ≤ s[k].toNat := by omega
          have d2 : decide ((s[k].toNat : Int) ≤ 122) = false := decide_eq_false (by omega)
          have d3 : decide ((48 : Int) ≤ s[k].toNat) = true := decide_eq_true (by omega)
          have d4 : decide ((s[k].toNat : Int) ≤ 57) = false := decide_eq_false (by omega)
          have d5 : ((s[k].toNat : Int) == 95) = false := by rw [Bool.eq_false_iff]; simp; omega
          clear hc hc' a1 a2 HI HO
          go_wp2
          go_returns
          exact ⟨ret_bool HO2.out.symm, rfl⟩
      · have d1 : decide ((97 : Int) ≤ s[k].toNat) = false := decide_eq_false (by omega)
        by_cases b1 : 48 ≤ c
        · by_cases b2 : c ≤ 57
          · have HI2 := Lib.hid (HI.out (isIn_of (Or.inr (Or.inl (isDg_t b1 b2)))))
            have d3 : (48 : Int) ≤ s[k].toNat := by omega
            have d4 : (s[k].toNat : Int) ≤ 57 := by omega
            clear hc hc' a1 b1 b2 HI HO
            go_wp2
            go_round
            case rel => exact ⟨k + 1, by omega, by go_num, HI2⟩
            case measure => simp [intOf]; omega
          · have d3 : (48 : Int) ≤ s[k].toNat := by omega
            have d4 : decide ((s[k].toNat : Int) ≤ 57) = false := decide_eq_false (by omega)
            by_cases b3 : c = 95
            · have HI2 := Lib.hid (HI.out (isIn_of (Or.inr (Or.inr b3))))
              have d5 : (s[k].toNat : Int) = 95 := by omega
              clear hc hc' a1 b1 b2 b3 HI HO
              go_wp2
              go_round
              case rel => exact ⟨k + 1, by omega, by go_num, HI2⟩
              case measure => simp [intOf]; omega
            · have HO2 := Lib.hid (HO.out (isIn_no (isLt_f (by omega)) (isDg_f (by omega)) b3))
              have d5 : ((s[k].toNat : Int) == 95) = false := by rw [Bool.eq_false_iff]; simp; omega
              clear hc hc' a1 b1 b2 b3 HI HO
              go_wp2
              go_returns
              exact ⟨ret_bool HO2.out.symm, rfl⟩
        · have HO2 := Lib.hid (HO.out (isIn_no (isLt_f (by omega)) (isDg_f (by omega)) (by omega)))
          have d3 : decide ((48 : Int) ≤ s[k].toNat) = false := decide_eq_false (by omega)
          have d5 : ((s[k].toNat : Int) == 95) = false := by rw [Bool.eq_false_iff]; simp; omega
          clear hc hc' a1 b1 HI HO
          go_wp2
          go_returns
          exact ⟨ret_bool HO2.out.symm, rfl⟩
    · have HE := Lib.hid (show nm s.data.toList = true by rw [HV.out, wl_end hlt hk HW.out, decide_eq_true rfl])
      clear HV HW c1' c2'
      go_wp2
      go_returns
      exact ⟨ret_bool HE.out.symm, rfl⟩

end Go.Proofs.Yteccafndplaklaa

namespace Go.Proofs.Yteccafndplaklaa
open Go Go.RowKit Go.Joins
set_option linter.unusedVariables false
set_option linter.unusedSimpArgs false

def nmC (s : ByteArray) : Array Value := #[.string s]
theorem nmC_size (s : ByteArray) : (nmC s).size = 1 := rfl
theorem nmC_one (s : ByteArray) : (nmC s).toList.all (·.oneCell') = true := rfl
abbrev NmRow (w : World) (B : Nat) (v : Value) (l : List ByteArray) : Prop := KRow nmC 1 9 w B v l
theorem name_info : (Try.prog.info? 9).map (fun i => (i.zero, i.size, i.bytes)) = some (some (.string ⟨#[]⟩), 1, 16) := by kernel_rfl
theorem name_size : (Try.prog.info? 9).map (·.size) = some 1 := by kernel_rfl
/-- Its length is no more than its capacity. -/
def CapOk (v : Value) : Prop := ∃ A n c, v = .slice A n c ∧ n ≤ c
def NmArg (w : World) (v : Value) (l : List ByteArray) : Prop := KArg nmC 1 w v l ∧ CapOk v
theorem NmArg.keep {w w' : World} {v : Value} {l : List ByteArray} (h : NmArg w v l) (hb : Below w.heap.size w w') : NmArg w' v l := ⟨h.1.keep hb, h.2⟩
theorem KRow.cap {α : Type} {enc : α → Array Value} {k : Nat} {T : TypeId} {w : World} {B : Nat} {v : Value} {l : List α} (h : KRow enc k T w B v l) : CapOk v := by
  rcases h.2 with ⟨rfl, h0⟩ | ⟨g, cap, cur, rfl, _, _, hnc, _⟩
  · exact ⟨none, 0, 0, rfl, Nat.le_refl _⟩
  · exact ⟨_, _, _, rfl, hnc⟩
theorem KRow.name {w : World} {B : Nat} {v : Value} {l : List ByteArray} (h : NmRow w B v l) : NmArg w v l := ⟨KRow.arg nmC_size h, h.cap⟩
def szs (l : List ByteArray) : Prop := ∀ s ∈ l, s.size ≤ 9223372036854775807
theorem szs.at {l : List ByteArray} (h : szs l) (j : Nat) (hj : j < l.length) : l[j].size ≤ 9223372036854775807 := h _ (List.getElem_mem hj)
theorem NmArg.form {w : World} {v : Value} {l : List ByteArray} (h : NmArg w v l) : ∃ A c, v = .slice A l.length c ∧ l.length ≤ c ∧ (0 < l.length → ∃ g o, A = some ⟨g, o, none⟩ ∧ g < w.heap.size ∧ ∀ j (hj : j < l.length), w.cell? ⟨g, o + j, none⟩ = some (.string l[j])) := by
  obtain ⟨⟨A, c, rfl, h⟩, ⟨A', n', c', e, hc⟩⟩ := h
  simp only [Value.slice.injEq] at e
  obtain ⟨rfl, rfl, rfl⟩ := e
  refine ⟨A, c, rfl, hc, fun h0 => ?_⟩
  obtain ⟨g, o, e, hg, hcell⟩ := h h0
  refine ⟨g, o, e, hg, fun j hj => ?_⟩
  have := hcell j hj 0 (by omega)
  rwa [Nat.mul_one] at this
theorem NmArg.of {w : World} {A : Option Addr} {n c : Nat} {l : List ByteArray} (hn : n = l.length) (hc : l.length ≤ c) (h : 0 < l.length → ∃ g o, A = some ⟨g, o, none⟩ ∧ g < w.heap.size ∧ ∀ j (hj : j < l.length), w.cell? ⟨g, o + j, none⟩ = some (.string l[j])) : NmArg w (.slice A n c) l := by
  subst hn
  refine ⟨⟨A, c, rfl, fun h0 => ?_⟩, ⟨_, _, _, rfl, hc⟩⟩
  obtain ⟨g, o, e, hg, hcell⟩ := h h0
  refine ⟨g, o, e, hg, fun j hj i hi => ?_⟩
  obtain rfl : i = 0 := by omega
  rw [Nat.mul_one]
  exact hcell j hj
theorem NmArg.take {w : World} {g o c : Nat} {l : List ByteArray} (i : Nat) (hi : i ≤ l.length) (hc : l.length ≤ c) (hg : g < w.heap.size) (h : ∀ j (hj : j < l.length), w.cell? ⟨g, o + j, none⟩ = some (.string l[j])) : NmArg w (.slice (some ⟨g, o, none⟩) i c) (l.take i) := by
  have hl : (l.take i).length = i := by rw [List.length_take]; omega
  refine NmArg.of hl.symm (by omega) fun _ => ⟨g, o, rfl, hg, fun j hj => ?_⟩
  rw [h j (by omega)]
  simp

/-- Where a name stands first, or -1. -/
def ixF : List ByteArray → ByteArray → Nat → Int
  | [], _, _ => -1
  | x :: r, s, k => if x.data.toList = s.data.toList then (k : Int) else ixF r s (k + 1)
def ix (l : List ByteArray) (s : ByteArray) : Int := ixF l s 0
theorem ixF_range (l : List ByteArray) (s : ByteArray) (k : Nat) : ixF l s k = -1 ∨ ((k : Int) ≤ ixF l s k ∧ ixF l s k < k + l.length) := by
  induction l generalizing k with
  | nil => exact .inl rfl
  | cons x r ih =>
    simp only [ixF, List.length_cons]
    split
    · exact .inr ⟨by omega, by omega⟩
    · rcases ih (k + 1) with h | h
      · exact .inl h
      · exact .inr ⟨by omega, by omega⟩
theorem ix_has (l : List ByteArray) (s : ByteArray) : decide (0 ≤ ix l s) = has l s := by
  have key : ∀ (l : List ByteArray) (k : Nat), decide (0 ≤ ixF l s k) = has l s := by
    intro l
    induction l with
    | nil => intro k; rfl
    | cons x r ih =>
      intro k
      by_cases h : x.data.toList = s.data.toList
      · have e : ixF (x :: r) s k = (k : Int) := if_pos h
        have e2 : has (x :: r) s = true := by unfold has; rw [List.any_cons, decide_eq_true h]; rfl
        rw [decide_eq_true (show 0 ≤ ixF (x :: r) s k by rw [e]; omega), e2]
      · have e : ixF (x :: r) s k = ixF r s (k + 1) := if_neg h
        have e2 : has (x :: r) s = has r s := by unfold has; rw [List.any_cons, decide_eq_false h]; rfl
        rw [e2, ← ih (k + 1)]
        exact decide_eq_decide.2 (by rw [e])
  exact key l 0
theorem ixF_here {l : List ByteArray} {s : ByteArray} {j : Nat} (hj : j < l.length) (h : l[j].data.toList = s.data.toList) : ixF (l.drop j) s j = j := by
  rw [List.drop_eq_getElem_cons hj]; simp only [ixF]; rw [if_pos h]
theorem ixF_next {l : List ByteArray} {s : ByteArray} {j : Nat} (hj : j < l.length) (h : ¬ l[j].data.toList = s.data.toList) : ixF (l.drop j) s j = ixF (l.drop (j + 1)) s (j + 1) := by
  rw [List.drop_eq_getElem_cons hj]; simp only [ixF]; rw [if_neg h]
theorem ixF_end {l : List ByteArray} {s : ByteArray} {j : Nat} (hj : ¬ j < l.length) : ixF (l.drop j) s j = -1 := by
  rw [List.drop_eq_nil_of_le (by omega)]; rfl
theorem str_eq {a b : ByteArray} (h : a.data.toList = b.data.toList) : (b.toList == a.toList) = true ∧ (a.toList == b.toList) = true := by
  simp only [ByteArray.toList_eq, h]; simp
theorem str_ne {a b : ByteArray} (h : ¬ a.data.toList = b.data.toList) : (b.toList == a.toList) = false ∧ (a.toList == b.toList) = false := by
  simp only [ByteArray.toList_eq, beq_eq_false_iff_ne, ne_eq]
  exact ⟨fun e => h e.symm, h⟩

set_option maxRecDepth 20000 in
set_option maxHeartbeats 1000000 in
theorem index_any (l : List ByteArray) (v : Value) (s : ByteArray) (w : World) (hT : NmArg w v l) (hn : l.length ≤ 4294967296) : Calls Try.prog 33 #[v, .string s] w fun e w' => e = .returned (.int .i64 (ix l s)) ∧ w = w' := by
  obtain ⟨A, c, rfl, hc, hA⟩ := hT.form
  have HA := Lib.hid hA
  clear hA hT hc
  go_enter Try.func33, Try.ntmps33
  go_wp2
  go_loop [8] (fun i => ∃ j : Nat, j ≤ l.length ∧ i = .int .i64 j ∧ Hid (ix l s = ixF (l.drop j) s j)) (fun i => l.length - (intOf i).toNat)
  case atStart => exact ⟨0, Nat.zero_le _, rfl, Lib.hid rfl⟩
  case round =>
    obtain ⟨j, hj, rfl, HR⟩ := hrel
    by_cases hjl : j < l.length
    · obtain ⟨g, o, rfl, hg, hcell⟩ := HA.out (by omega)
      have f0 := hcell j hjl
      clear hcell
      by_cases he : l[j].data.toList = s.data.toList
      · have HE := Lib.hid (HR.out.trans (ixF_here hjl he))
        obtain ⟨e1, e2⟩ := str_eq he
        clear he HR
        go_wp2
        go_returns
        exact ⟨ret_int HE.out.symm, rfl⟩
      · have HE := Lib.hid (HR.out.trans (ixF_next hjl he))
        obtain ⟨e1, e2⟩ := str_ne he
        clear he HR
        go_wp2
        go_round
        case rel => exact ⟨j + 1, by omega, by go_num, HE⟩
        case measure => simp [intOf]; omega
    · have HE := Lib.hid (HR.out.trans (ixF_end hjl))
      clear HR
      go_wp2
      go_returns
      exact ⟨ret_int HE.out.symm, rfl⟩
set_option maxRecDepth 20000 in
set_option maxHeartbeats 1000000 in
theorem contains_any (l : List ByteArray) (v : Value) (s : ByteArray) (w : World) (hT : NmArg w v l) (hn : l.length ≤ 4294967296) : Calls Try.prog 56 #[v, .string s] w fun e w' => e = .returned (.bool (has l s)) ∧ w = w' := by
  have C1 := Lib.hid (index_any l v s w hT hn)
  have H := Lib.hid (ix_has l s)
  obtain ⟨A, c, rfl, hc, hA⟩ := hT.form
  clear hA hT hc
  generalize ix l s = r at *
  by_cases h0 : 0 ≤ r
  · have HB := Lib.hid (show has l s = true by rw [← H.out, decide_eq_true h0])
    have d0 : decide (0 ≤ r) = true := decide_eq_true h0
    clear H
    go_enter Try.func56, Try.ntmps56
    go_wp2_with (first
      | (go_at_call 33; go_must (refine C1.out.mono ?_; rintro e1 w1 ⟨rfl, rfl⟩)))
    go_returns
    exact ⟨ret_bool (by rw [HB.out]), rfl⟩
  · have HB := Lib.hid (show has l s = false by rw [← H.out, decide_eq_false h0])
    have d0 : decide (0 ≤ r) = false := decide_eq_false h0
    clear H
    go_enter Try.func56, Try.ntmps56
    go_wp2_with (first
      | (go_at_call 33; go_must (refine C1.out.mono ?_; rintro e1 w1 ⟨rfl, rfl⟩)))
    go_returns
    exact ⟨ret_bool (by rw [HB.out]), rfl⟩

end Go.Proofs.Yteccafndplaklaa

namespace Go.Proofs.Yteccafndplaklaa
open Go Go.RowKit Go.Joins
open Go.Maps (Keyed IsMap string_keyed int_keyed)
set_option linter.unusedVariables false
set_option linter.unusedSimpArgs false

/-- How often a name stands in a list. -/
def cnt (l : List ByteArray) (bs : List UInt8) : Nat := (l.filter fun s => decide (s.data.toList = bs)).length
theorem cnt_snoc (l : List ByteArray) (s : ByteArray) (bs : List UInt8) : cnt (l ++ [s]) bs = cnt l bs + (if s.data.toList = bs then 1 else 0) := by
  unfold cnt
  rw [List.filter_append, List.length_append, List.filter_cons]
  by_cases h : s.data.toList = bs <;> simp [h]
theorem cnt_cons (l : List ByteArray) (s : ByteArray) (bs : List UInt8) : cnt (s :: l) bs = (if s.data.toList = bs then 1 else 0) + cnt l bs := by
  unfold cnt
  rw [List.filter_cons]
  by_cases h : s.data.toList = bs
  · simp [h]; omega
  · simp [h]
theorem cnt_pos {l : List ByteArray} {s : ByteArray} (h : s ∈ l) : 0 < cnt l s.data.toList := by
  unfold cnt
  exact List.length_pos_of_mem (List.mem_filter.2 ⟨h, by simp⟩)
theorem cnt_le (l : List ByteArray) (bs : List UInt8) : cnt l bs ≤ l.length := List.length_filter_le _ _
theorem nodup_cnt {l : List ByteArray} : l.Nodup ↔ ∀ bs, cnt l bs ≤ 1 := by
  induction l with
  | nil => simp [cnt]
  | cons x l ih =>
    rw [List.nodup_cons, ih]
    constructor
    · rintro ⟨h1, h2⟩ bs
      rw [cnt_cons]
      split
      · rename_i e
        have : cnt l bs = 0 := by
          rcases Nat.eq_zero_or_pos (cnt l bs) with h | h
          · exact h
          · unfold cnt at h
            obtain ⟨y, hy⟩ := List.exists_mem_of_length_pos h
            rw [List.mem_filter, decide_eq_true_eq] at hy
            exact absurd (eq_of_toList (hy.2.trans e.symm) ▸ hy.1) h1
        omega
      · have := h2 bs; omega
    · intro h
      refine ⟨fun hx => ?_, fun bs => ?_⟩
      · have h1 := h x.data.toList
        have h2 := cnt_pos hx
        rw [cnt_cons, if_pos rfl] at h1
        omega
      · have := h bs; rw [cnt_cons] at this; omega

/-- The map's datum holds the counts. -/
def Cn (l : List ByteArray) (D : DataW Unit) : Prop := IsMap D ∧ ∀ bs, D.atKey (.string bs) (.lit (.int .i64 0)) = .lit (.int .i64 (cnt l bs))
theorem Cn_start : Cn [] (.map []) := ⟨⟨[], rfl⟩, fun bs => rfl⟩
theorem Cn_step {l : List ByteArray} {D : DataW Unit} (h : Cn l D) (s : ByteArray) {c : Int} (hc : D.atKey (.string s.data.toList) (.lit (.int .i64 0)) = .lit (.int .i64 c)) (hl : l.length < 4294967297) : Cn (l ++ [s]) (D.put (.string s.data.toList) (.lit (.int .i64 (wrap64 (c + 1))))) := by
  have e : c = cnt l s.data.toList := by
    rw [h.2] at hc
    simp only [DataW.lit.injEq, Lit.int.injEq, true_and] at hc
    exact hc.symm
  refine ⟨h.1.put _ _, fun bs => ?_⟩
  rw [cnt_snoc]
  by_cases hb : s.data.toList = bs
  · subst hb
    rw [Maps.atKey_put_same h.1 (show WideAt.IsKeyLit (.string s.data.toList) from trivial), if_pos rfl, e]
    have := cnt_le l s.data.toList
    rw [show wrap64 ((cnt l s.data.toList : Int) + 1) = (cnt l s.data.toList : Int) + 1 by unfold wrap64; omega]
    rfl
  · rw [Maps.atKey_put_other (fun x => hb (by simpa using x.symm)), h.2, if_neg hb]
    rfl
/-- What has been seen of the map is at most 1. -/
def Sn (l : List ByteArray) (D : DataW Unit) (left : Lit → Bool) : Prop := ∀ bs, Maps.has D (.string bs) = true → left (.string bs) = false → cnt l bs ≤ 1
theorem Sn_start (l : List ByteArray) (D : DataW Unit) : Sn l D (Maps.has D) := fun bs h1 h2 => by rw [h1] at h2; exact absurd h2 (by decide)
theorem Sn_step {l : List ByteArray} {D : DataW Unit} {left : Lit → Bool} (h : Sn l D left) {s : List UInt8} (hs : cnt l s ≤ 1) : Sn l D (fun z => left z && !z.sameKey (.string s)) := by
  intro bs h1 h2
  by_cases he : bs = s
  · subst he; exact hs
  · refine h bs h1 ?_
    simp only [Lit.sameKey] at h2
    simpa [he] using h2
theorem Sn_end {l : List ByteArray} {D : DataW Unit} {left : Lit → Bool} (hc : Cn l D) (h : Sn l D left) (h0 : ∀ kl, left kl = false) : dpT l l.length = false := by
  rw [dp_no, nodup_cnt]
  intro bs
  cases hh : Maps.has D (.string bs)
  · have := hc.2 bs
    rw [Maps.atKey_of_not_has hh] at this
    simp only [DataW.lit.injEq, Lit.int.injEq, true_and] at this
    omega
  · exact h bs hh (h0 _)
theorem Cn_twice {l : List ByteArray} {D : DataW Unit} (hc : Cn l D) {s : List UInt8} {c : Int} (hat : ∀ zd, D.atKey (.string s) zd = .lit (.int .i64 c)) : c = cnt l s := by
  have := hc.2 s
  rw [hat] at this
  simpa using this
theorem twice_of {l : List ByteArray} {s : List UInt8} (h : 1 < cnt l s) : dpT l l.length = true := by
  rw [dp_iff, nodup_cnt]
  intro hn
  have := hn s
  omega

theorem lawS : Keyed Try.prog 9 := string_keyed Try.underlying9
theorem zeroI (w : World) : (zeroValue 3).run Try.prog w = .ok (.int .i64 0) w := by kernel_rfl
theorem keyS_inv {key : Value} {kl : Lit} (h : keyOf Try.prog 9 key = some kl) : ∃ s : ByteArray, key = .string s ∧ kl = .string s.data.toList := by
  cases key <;> simp [keyOf, Try.underlying9, mapKey] at h
  exact ⟨_, rfl, by first | exact h.2.symm | (obtain ⟨_, h⟩ := h; exact h.symm)⟩

set_option maxRecDepth 100000 in
theorem anyTwice_any (l : List ByteArray) (v : Value) (w : World) (hT : NmArg w v l) (hs : szs l) (hn : l.length ≤ 4294967296) :
    Calls Try.prog 37 #[v] w fun e w' => e = .returned (.bool (dpT l l.length)) ∧ Below w.heap.size w w' := by
  obtain ⟨A, c, rfl, hc, hA⟩ := hT.form
  have HA := Lib.hid hA
  have HS := Lib.hid hs
  clear hA hT hc hs
  have hmm := @run_makeMap Try.prog
  go_enter Try.func37, Try.ntmps37
  go_wp2
  go_loopw [11] (fun i wr => ∃ (k : Nat) (D : DataW Unit), k ≤ l.length ∧ i = .int .i64 k ∧ wr.ownsMap Try.prog 9 (plainElem Try.prog 3) w.heap.size k D ∧ Hid (Cn (l.take k) D) ∧ Hid (Below w.heap.size w wr))
    (fun i _ => l.length - (intOf i).toNat)
  case atStart => exact ⟨0, _, Nat.zero_le _, rfl, World.ownsMap_made _ _ _ _, Lib.hid Cn_start, Lib.hid ((Below.refl _ _).alloc (Nat.le_refl _) _)⟩
  case round =>
    obtain ⟨k, D, hk, rfl, hown, HC, HB⟩ := hrel
    by_cases hkl : k < l.length
    · obtain ⟨g, o, rfl, hg, hcell⟩ := HA.out (by omega)
      obtain ⟨s, hs⟩ : ∃ s, s = l[k] := ⟨_, rfl⟩
      have f0 : wr.cell? ⟨g, o + k, none⟩ = some (.string s) := by rw [hs]; exact (HB.out.cell (p := ⟨g, o + k, none⟩) (by exact hg)).trans (hcell k hkl)
      have hkey : keyOf Try.prog 9 (.string s) = some (.string s.data.toList) := WideMaps.keyOf_string_mk Try.underlying9 (by rw [hs]; exact HS.out.at k hkl)
      have HT := Lib.hid (show l.take (k + 1) = l.take k ++ [s] by rw [hs]; exact List.take_succ_eq_append_getElem hkl)
      clear hs hcell
      obtain ⟨x, hrun, hat, _⟩ := hown.lookup_int lawS Try.underlying84 Try.underlying3 (zeroI _) hkey
      have HAT := Lib.hid hat
      clear hat
      go_wp2_with (first
        | (at_mapUpdate; refine wpList_mapUpdate_own _ rfl _ _ _ 84 rfl 9 3 lawS Try.underlying84 _ w.heap.size k _ rfl hown (by unfold maxLen; omega) _ _ _ rfl rfl hkey _ [] (plainElem_int Try.underlying3 (wrap64_wf _)) ?_; intro w1 hown1 hgrow1)
        | go_in)
      have R1 := Lib.hid (Cn_step HC.out s HAT.out (by rw [List.length_take]; omega))
      have R2 := Lib.hid (HB.out.grown hgrow1 HB.out.size (fun j hj => by cases hj; exact Nat.le_refl _))
      clear hgrow1 hown hrun HAT HC HB f0 hkey
      go_wp2
      go_roundw
      case rel => exact ⟨k + 1, _, by omega, by go_num, hown1, Lib.hid (by rw [HT.out]; exact R1.out), R2⟩
      case measure => simp [intOf]; omega
    · have : k = l.length := by omega
      subst this
      obtain ⟨W1, hW1⟩ : ∃ W1, W1 = wr := ⟨_, rfl⟩
      subst hW1
      have HC' := Lib.hid (show Cn l D by have := HC.out; rwa [List.take_length] at this)
      clear HC
      go_wp2_with (first
        | (at_range; refine wpList_range_own _ rfl _ 84 rfl 9 3 lawS Try.underlying84 _ w.heap.size l.length _ rfl hown ?_; intro w0 hrg0 hg0 hs0)
        | go_in)
      go_frame
      go_loopw [] (fun w2 => ∃ (left : Lit → Bool) (n : Nat), w2.ranges Try.prog 9 (plainElem Try.prog 3) w.heap.size W1.heap.size l.length D left n ∧ Hid (Sn l D left) ∧ Hid (Below w.heap.size w w2))
        (fun w2 => w2.rangeLeft w.heap.size W1.heap.size)
      case atStart => exact ⟨_, _, hrg0, Lib.hid (Sn_start l D), Lib.hid (HB.out.grown hg0 HB.out.size (fun j hj => by cases hj))⟩
      case round =>
        obtain ⟨left, n, hrg, HSn, HB2⟩ := hrel
        go_wp2_with (first
          | (at_next; refine wpList_next_ranges _ rfl _ rfl 9 lawS (plainElem Try.prog 3) Value.string (Value.int .i64) (fun key kl h => by obtain ⟨x, e, _⟩ := keyS_inv h; exact ⟨x, e⟩) (fun v y h => by obtain ⟨a, e, _⟩ := plainElem_int_inv Try.underlying3 h; exact ⟨a, e⟩) w.heap.size W1.heap.size l.length D left n rfl hrg ?_ ?_)
          | go_in)
        · intro _ hl0
          have HE := Lib.hid (Sn_end HC'.out HSn.out hl0)
          clear hl0
          go_wp2
          go_returns
          exact ⟨by rw [HE.out]; rfl, HB2.out⟩
        · intro x y kl z zp w1 n1 hkey hlx hR hat hrg1 hlt hg1 hs1 hen
          obtain ⟨x', ex, rfl⟩ := keyS_inv hkey
          cases ex
          obtain ⟨y', ey, ez, hwy⟩ := plainElem_int_inv Try.underlying3 hR
          cases ey
          simp only [Prod.mk.injEq] at ez
          obtain ⟨rfl, rfl⟩ := ez
          have HY := Lib.hid (Cn_twice HC'.out hat)
          have HB3 := Lib.hid (HB2.out.grown hg1 HB2.out.size (fun j hj => by cases hj; exact HB.out.size))
          clear hat hR hkey hlx hwy
          go_wp2
          · rename_i h1
            go_returns
            exact ⟨by rw [twice_of (l := l) (s := x.data.toList) (by have := HY.out; (try simp only [decide_eq_true_eq] at h1); omega)]; rfl, HB3.out⟩
          · rename_i h1
            go_roundw
            case rel => exact ⟨_, n1, hrg1, Lib.hid (Sn_step HSn.out (by have := HY.out; (try simp only [decide_eq_false_iff_not] at h1); omega)), HB3⟩
            case measure => rw [hrg1.left_eq, hrg.left_eq]; exact hlt
end Go.Proofs.Yteccafndplaklaa

namespace Go.Proofs.Yteccafndplaklaa
open Go Go.RowKit Go.Joins
set_option linter.unusedVariables false
set_option linter.unusedSimpArgs false

theorem szs_take {l : List ByteArray} (h : szs l) (k : Nat) : szs (l.take k) := fun s hs => h s (List.mem_of_mem_take hs)
/-- The places before k are known. -/
def Kn (N M : List ByteArray) (k : Nat) : Prop := ∀ j (hj : j < M.length), j < k → has N M[j] = true
theorem ckS_9 {N M : List ByteArray} (h : ¬ M.length = 0) (h1 : dpT (M.take (kn N M)) (M.take (kn N M)).length = true) : ckS N M = 9 := by unfold ckS; rw [if_neg h, if_pos h1]
theorem ckS_8 {N M : List ByteArray} (h : ¬ M.length = 0) (h1 : dpT (M.take (kn N M)) (M.take (kn N M)).length = false) (h2 : kn N M < M.length) : ckS N M = 8 := by unfold ckS; rw [if_neg h, if_neg (by rw [h1]; decide), if_pos h2]
theorem ckS_0 {N M : List ByteArray} (h : ¬ M.length = 0) (h1 : dpT (M.take (kn N M)) (M.take (kn N M)).length = false) (h2 : ¬ kn N M < M.length) : ckS N M = 0 := by unfold ckS; rw [if_neg h, if_neg (by rw [h1]; decide), if_neg h2]

set_option maxRecDepth 100000 in
theorem checkSelected_any (N M : List ByteArray) (vN vM : Value) (w : World) (hN : NmArg w vN N) (hM : NmArg w vM M) (hs : szs M) (hn : N.length ≤ 65536) (hm : M.length ≤ 65536) :
    Calls Try.prog 27 #[vN, vM] w fun e w' => e = .returned (.int .i64 (ckS N M)) ∧ Below w.heap.size w w' := by
  have HC := Lib.hid (fun s w => contains_any N vN s w)
  have HNA := Lib.hid hN
  obtain ⟨A1, c1, rfl, _⟩ := hN.form
  obtain ⟨A, c, rfl, hc, hA⟩ := hM.form
  have HA := Lib.hid hA
  have HS := Lib.hid hs
  clear hA hM hN hs
  by_cases h0 : M.length = 0
  · have HE := Lib.hid (ckS_none (N := N) h0)
    clear HA HC
    go_enter Try.func27, Try.ntmps27
    go_wp2
    go_returns
    exact ⟨ret_int HE.out.symm, Below.refl _ _⟩
  · obtain ⟨g, o, rfl, hg, hcell⟩ := HA.out (by omega)
    have hz : ((M.length : Int) == 0) = false := by rw [beq_eq_false_iff_ne]; omega
    have HCE := Lib.hid hcell
    clear hcell HA
    go_enter Try.func27, Try.ntmps27
    go_wp2
    go_loop [5] (fun i => ∃ k : Nat, k ≤ M.length ∧ i = .int .i64 k ∧ Hid (Kn N M k)) (fun i => M.length - (intOf i).toNat)
    case atStart => exact ⟨0, Nat.zero_le _, rfl, Lib.hid (fun j hj h => absurd h (by omega))⟩
    case round =>
      obtain ⟨k, hk, rfl, HK⟩ := hrel
      have HTK := Lib.hid (NmArg.take (c := c) k hk hc hg HCE.out)
      have HTA := Lib.hid (anyTwice_any (M.take k) _ w HTK.out (szs_take HS.out k) (by rw [List.length_take]; omega))
      by_cases hkl : k < M.length
      · have f0 := HCE.out k hkl
        have HCx := Lib.hid (HC.out M[k] w HNA.out (by omega))
        have HKS := Lib.hid (fun h : has N M[k] = true => (show Kn N M (k + 1) from fun j hj hlt => by
          by_cases e : j = k
          · subst e; exact h
          · exact HK.out j hj (by omega)))
        have hcE : ¬ c = 0 := by omega
        cases hh : has N M[k] with
        | true =>
          rw [hh] at HCx
          have HK2 := Lib.hid (HKS.out hh)
          clear hh HKS HTA HTK HK
          generalize M[k] = s at *
          go_wp2_with (first
            | (go_at_call 56; go_must (refine HCx.out.mono ?_; rintro e1 w1 ⟨rfl, rfl⟩)))
          go_round
          case rel => exact ⟨k + 1, by omega, by go_num, HK2⟩
          case measure => simp [intOf]; omega
        | false =>
          rw [hh] at HCx
          have HKN := Lib.hid (kn_eq HK.out hk (fun _ => hh))
          have E9 := Lib.hid (fun h => ckS_9 (N := N) (M := M) h0 h)
          have E8 := Lib.hid (fun h => ckS_8 (N := N) (M := M) h0 h)
          rw [HKN.out] at E9 E8
          clear hh HKS HTK HK HCE
          generalize M[k] = s at *
          cases hd : dpT (M.take k) (M.take k).length with
          | true =>
            rw [hd] at HTA
            have HE := Lib.hid (E9.out hd)
            clear hd E9 E8
            go_wp2_with (first
              | (go_at_call 56; go_must (refine HCx.out.mono ?_; rintro e1 w1 ⟨rfl, rfl⟩))
              | (go_at_call 37; go_must (refine HTA.out.mono ?_; rintro e1 w1 ⟨rfl, b1⟩; have B1 := Lib.hid b1; clear b1)))
            go_returns
            exact ⟨ret_int HE.out.symm, B1.out⟩
          | false =>
            rw [hd] at HTA
            have HE := Lib.hid (E8.out hd hkl)
            clear hd E9 E8
            go_wp2_with (first
              | (go_at_call 56; go_must (refine HCx.out.mono ?_; rintro e1 w1 ⟨rfl, rfl⟩))
              | (go_at_call 37; go_must (refine HTA.out.mono ?_; rintro e1 w1 ⟨rfl, b1⟩; have B1 := Lib.hid b1; clear b1)))
            go_returns
            exact ⟨ret_int HE.out.symm, B1.out⟩
      · have HKN := Lib.hid (kn_eq HK.out hk (fun hj => (hkl hj).elim))
        have hcE : ¬ c = 0 := by omega
        have E9 := Lib.hid (fun h => ckS_9 (N := N) (M := M) h0 h)
        have E0 := Lib.hid (fun h => ckS_0 (N := N) (M := M) h0 h)
        rw [HKN.out] at E9 E0
        clear HTK HK HCE
        cases hd : dpT (M.take k) (M.take k).length with
        | true =>
          rw [hd] at HTA
          have HE := Lib.hid (E9.out hd)
          clear hd E9 E0
          go_wp2_with (first
            | (go_at_call 37; go_must (refine HTA.out.mono ?_; rintro e1 w1 ⟨rfl, b1⟩; have B1 := Lib.hid b1; clear b1)))
          go_returns
          exact ⟨ret_int HE.out.symm, B1.out⟩
        | false =>
          rw [hd] at HTA
          have HE := Lib.hid (E0.out hd hkl)
          clear hd E9 E0
          go_wp2_with (first
            | (go_at_call 37; go_must (refine HTA.out.mono ?_; rintro e1 w1 ⟨rfl, b1⟩; have B1 := Lib.hid b1; clear b1)))
          go_returns
          exact ⟨ret_int HE.out.symm, B1.out⟩
end Go.Proofs.Yteccafndplaklaa

namespace Go.Proofs.Yteccafndplaklaa
open Go Go.RowKit Go.Joins
set_option linter.unusedVariables false
set_option linter.unusedSimpArgs false

set_option maxRecDepth 20000 in
set_option maxHeartbeats 1000000 in
theorem place12_any (l : List ByteArray) (v : Value) (s : ByteArray) (w : World) (hT : NmArg w v l) (hn : l.length ≤ 4294967296) : Calls Try.prog 31 #[v, .string s] w fun e w' => e = .returned (.int .i64 (ix l s)) ∧ w = w' := by
  obtain ⟨A, c, rfl, hc, hA⟩ := hT.form
  have HA := Lib.hid hA
  clear hA hT hc
  go_enter Try.func31, Try.ntmps31
  go_wp2
  go_loop [5] (fun i => ∃ j : Nat, j ≤ l.length ∧ i = .int .i64 j ∧ Hid (ix l s = ixF (l.drop j) s j)) (fun i => l.length - (intOf i).toNat)
  case atStart => exact ⟨0, Nat.zero_le _, rfl, Lib.hid rfl⟩
  case round =>
    obtain ⟨j, hj, rfl, HR⟩ := hrel
    by_cases hjl : j < l.length
    · obtain ⟨g, o, rfl, hg, hcell⟩ := HA.out (by omega)
      have f0 := hcell j hjl
      clear hcell
      by_cases he : l[j].data.toList = s.data.toList
      · have HE := Lib.hid (HR.out.trans (ixF_here hjl he))
        obtain ⟨e1, e2⟩ := str_eq he
        clear he HR
        go_wp2
        go_returns
        exact ⟨ret_int HE.out.symm, rfl⟩
      · have HE := Lib.hid (HR.out.trans (ixF_next hjl he))
        obtain ⟨e1, e2⟩ := str_ne he
        clear he HR
        go_wp2
        go_round
        case rel => exact ⟨j + 1, by omega, by go_num, HE⟩
        case measure => simp [intOf]; omega
    · have HE := Lib.hid (HR.out.trans (ixF_end hjl))
      clear HR
      go_wp2
      go_returns
      exact ⟨ret_int HE.out.symm, rfl⟩
end Go.Proofs.Yteccafndplaklaa

namespace Go.Proofs.Yteccafndplaklaa
open Go Go.RowKit Go.Joins
set_option linter.unusedVariables false
set_option linter.unusedSimpArgs false

set_option maxRecDepth 20000 in
set_option maxHeartbeats 2000000 in
theorem checkNames_any (l : List ByteArray) (v : Value) (w : World) (hT : NmArg w v l) (hs : szs l) : Calls Try.prog 50 #[v] w fun e w' => e = .returned (.int .i64 (ckN l)) ∧ Below w.heap.size w w' := by
  obtain ⟨A, c, rfl, hc, hA⟩ := hT.form
  have HA := Lib.hid hA
  clear hA hT
  by_cases h6 : 16 < l.length
  · have HV := Lib.hid (ckN_6 h6)
    have h6' : (16 : Int) < l.length := by omega
    clear h6
    go_enter Try.func50, Try.ntmps50
    go_wp2
    go_returns
    exact ⟨ret_int HV.out.symm, Below.refl _ _⟩
  by_cases h0 : l.length = 0
  · have HV := Lib.hid (ckN_1 h0)
    obtain rfl : l = [] := List.eq_nil_of_length_eq_zero h0
    clear h6 h0 HA
    go_enter Try.func50, Try.ntmps50
    go_wp2
    go_returns
    exact ⟨ret_int HV.out.symm, Below.refl _ _⟩
  have h6' : (l.length : Int) ≤ 16 := by omega
  have h0' : ((l.length : Int) == 0) = false := by simpa using h0
  have H9 := Lib.hid (fun a b => ckN_9 h6 h0 a b); have H0 := Lib.hid (fun a b => ckN_0 h6 h0 a b); have H4 := Lib.hid (fun a => ckN_4 h6 h0 a)
  have CN := Lib.hid (fun s w h => name_any s w h)
  have HZ := Lib.hid (fun j hj => hs.at j hj)
  generalize ckN l = r at *
  go_enter Try.func50, Try.ntmps50
  go_wp2
  go_loopw [15] (fun i wr => ∃ j : Nat, j ≤ l.length ∧ i = .int .i64 j ∧ Hid ((l.take j).all nmB = true) ∧ Hid (Below w.heap.size w wr)) (fun i _ => l.length - (intOf i).toNat)
  case atStart => exact ⟨0, Nat.zero_le _, rfl, Lib.hid rfl, Lib.hid (Below.refl _ _)⟩
  case round =>
    obtain ⟨j, hj, rfl, HR, HB⟩ := hrel
    have hb := HB.out
    by_cases hjl : j < l.length
    · obtain ⟨g, o, rfl, hg, hcell⟩ := HA.out (by omega)
      have f0 := (hb.cell (p := ⟨g, o + j, none⟩) hg).trans (hcell j hjl)
      clear hcell
      have C1 := fun w => CN.out l[j] w (HZ.out j hjl)
      cases hh : nm l[j].data.toList with
      | true =>
        have HR2 := Lib.hid (all_take hjl HR.out hh)
        rw [hh] at C1
        have C2 := Lib.hid C1
        clear C1 hh HR
        go_wp2_with (first
          | (go_at_call 34; go_must (refine (C2.out _).mono ?_; rintro e1 w1 ⟨rfl, b1⟩)))
        go_roundw
        case rel => exact ⟨j + 1, by omega, val_int (by omega), HR2, Lib.hid (hb.trans (b1.mono hb.size))⟩
        case measure => simp [intOf]; omega
      | false =>
        have HV := Lib.hid (H4.out (all_no hjl hh))
        rw [hh] at C1
        have C2 := Lib.hid C1
        clear C1 hh HR
        go_wp2_with (first
          | (go_at_call 34; go_must (refine (C2.out _).mono ?_; rintro e1 w1 ⟨rfl, b1⟩)))
        go_returns
        exact ⟨ret_int HV.out.symm, hb.trans (b1.mono hb.size)⟩
    · have HAll := Lib.hid (show l.all nmB = true by rw [← List.take_of_length_le (show l.length ≤ j by omega)]; exact HR.out)
      clear HR
      go_wp2
      go_loopw [25] (fun i wr => ∃ j : Nat, j ≤ l.length ∧ i = .int .i64 j ∧ Hid (dpT l j = false) ∧ Hid (Below w.heap.size w wr)) (fun i _ => l.length - (intOf i).toNat)
      case atStart => exact ⟨0, Nat.zero_le _, rfl, Lib.hid rfl, HB⟩
      case round =>
        obtain ⟨k, hk, rfl, HD, HB⟩ := hrel
        have hb := HB.out
        by_cases hkl : k < l.length
        · obtain ⟨g, o, rfl, hg, hcell⟩ := HA.out (by omega)
          have f0 := (hb.cell (p := ⟨g, o + k, none⟩) hg).trans (hcell k hkl)
          have hcw : (k : Int) ≤ c := by omega
          have HT := Lib.hid (fun w' (hb : Below w.heap.size w w') => (NmArg.take k (by omega) hc hg hcell).keep hb)
          have C1 := fun w' hb' => contains_any (l.take k) (.slice (some ⟨g, o, none⟩) k c) l[k] w' (HT.out w' hb') (by rw [List.length_take]; omega)
          clear hcell HT
          cases hh : has (l.take k) l[k] with
          | true =>
            have HV := Lib.hid (H9.out HAll.out (dpT_yes hkl hh))
            rw [hh] at C1
            have C2 := Lib.hid C1
            clear C1 hh
            go_wp2_with (first
              | (go_at_call 56; go_must (refine (C2.out _ HB.out).mono ?_; rintro e1 w1 ⟨rfl, rfl⟩)))
            go_returns
            exact ⟨ret_int HV.out.symm, hb⟩
          | false =>
            have HD2 := Lib.hid (show dpT l (k + 1) = false by rw [dpT_step hkl HD.out, hh])
            rw [hh] at C1
            have C2 := Lib.hid C1
            clear C1 hh
            go_wp2_with (first
              | (go_at_call 56; go_must (refine (C2.out _ HB.out).mono ?_; rintro e1 w1 ⟨rfl, rfl⟩)))
            go_roundw
            case rel => exact ⟨k + 1, by omega, val_int (by omega), HD2, HB⟩
            case measure => simp [intOf]; omega
        · have HV := Lib.hid (H0.out HAll.out (by rw [← show k = l.length by omega]; exact HD.out))
          go_wp2
          go_returns
          exact ⟨ret_int HV.out.symm, hb⟩

set_option maxRecDepth 20000 in
set_option maxHeartbeats 2000000 in
theorem rnames_any (l : List ByteArray) (v : Value) (w : World) (hT : NmArg w v l) (hs : szs l) : Calls Try.prog 61 #[v] w fun e w' => e = .returned (.int .i64 (ckN l)) ∧ Below w.heap.size w w' := by
  obtain ⟨A, c, rfl, hc, hA⟩ := hT.form
  have HA := Lib.hid hA
  clear hA hT
  by_cases h6 : 16 < l.length
  · have HV := Lib.hid (ckN_6 h6)
    have h6' : (16 : Int) < l.length := by omega
    clear h6
    go_enter Try.func61, Try.ntmps61
    go_wp2
    go_returns
    exact ⟨ret_int HV.out.symm, Below.refl _ _⟩
  by_cases h0 : l.length = 0
  · have HV := Lib.hid (ckN_1 h0)
    obtain rfl : l = [] := List.eq_nil_of_length_eq_zero h0
    clear h6 h0 HA
    go_enter Try.func61, Try.ntmps61
    go_wp2
    go_returns
    exact ⟨ret_int HV.out.symm, Below.refl _ _⟩
  have h6' : (l.length : Int) ≤ 16 := by omega
  have h0' : ((l.length : Int) == 0) = false := by simpa using h0
  have H9 := Lib.hid (fun a b => ckN_9 h6 h0 a b); have H0 := Lib.hid (fun a b => ckN_0 h6 h0 a b); have H4 := Lib.hid (fun a => ckN_4 h6 h0 a)
  have CN := Lib.hid (fun s w h => rname_any s w h)
  have HZ := Lib.hid (fun j hj => hs.at j hj)
  generalize ckN l = r at *
  go_enter Try.func61, Try.ntmps61
  go_wp2
  go_loop [3] (fun i => ∃ j : Nat, j ≤ l.length ∧ i = .int .i64 j ∧ Hid ((l.take j).all nmB = true)) (fun i => l.length - (intOf i).toNat)
  case atStart => exact ⟨0, Nat.zero_le _, rfl, Lib.hid rfl⟩
  case round =>
    obtain ⟨j, hj, rfl, HR⟩ := hrel
    by_cases hjl : j < l.length
    · obtain ⟨g, o, rfl, hg, hcell⟩ := HA.out (by omega)
      have f0 := hcell j hjl
      clear hcell
      have C1 := fun w => CN.out l[j] w (HZ.out j hjl)
      cases hh : nm l[j].data.toList with
      | true =>
        have HR2 := Lib.hid (all_take hjl HR.out hh)
        rw [hh] at C1
        have C2 := Lib.hid C1
        clear C1 hh HR
        go_wp2_with (first
          | (go_at_call 83; go_must (refine (C2.out _).mono ?_; rintro e1 w1 ⟨rfl, rfl⟩)))
        go_round
        case rel => exact ⟨j + 1, by omega, val_int (by omega), HR2⟩
        case measure => simp [intOf]; omega
      | false =>
        have HV := Lib.hid (H4.out (all_no hjl hh))
        rw [hh] at C1
        have C2 := Lib.hid C1
        clear C1 hh HR
        go_wp2_with (first
          | (go_at_call 83; go_must (refine (C2.out _).mono ?_; rintro e1 w1 ⟨rfl, rfl⟩)))
        go_returns
        exact ⟨ret_int HV.out.symm, Below.refl _ _⟩
    · have HAll := Lib.hid (show l.all nmB = true by rw [← List.take_of_length_le (show l.length ≤ j by omega)]; exact HR.out)
      clear HR
      go_wp2
      go_loopw [4] (fun i wr => ∃ (j m : Nat), j ≤ l.length ∧ i = .int .i64 j ∧ Hid (dpT l j = false) ∧ wr = w.drewN m) (fun i _ => l.length - (intOf i).toNat)
      case atStart => exact ⟨0, 0, Nat.zero_le _, rfl, Lib.hid rfl, rfl⟩
      case round =>
        obtain ⟨k, m, hk, rfl, HD, rfl⟩ := hrel
        by_cases hkl : k < l.length
        · obtain ⟨g, o, rfl, hg, hcell⟩ := HA.out (by omega)
          have HCell := Lib.hid hcell
          have f0 := hcell k hkl
          clear hcell
          go_wp2
          go_loopw [5] (fun i wr => ∃ (q m : Nat), q ≤ k ∧ i = .int .i64 q ∧ Hid (has (l.take q) l[k] = false) ∧ wr = w.drewN m) (fun i _ => k - (intOf i).toNat)
          case atStart => exact ⟨0, m, Nat.zero_le _, rfl, Lib.hid rfl, rfl⟩
          case round =>
            obtain ⟨q, m2, hq, rfl, HH, rfl⟩ := hrel
            by_cases hqk : q < k
            · have f1 := HCell.out q (by omega)
              by_cases he : l[q].data.toList = l[k].data.toList
              · have HV := Lib.hid (H9.out HAll.out (dpT_yes hkl (has_yes (by omega) hqk he)))
                obtain ⟨e1, e2⟩ := str_eq he
                clear he
                go_wp2
                go_quiet (fail)
                go_wp2
                go_returns
                exact ⟨ret_int HV.out.symm, Go.below_drewN (Go.below_drewN (Below.refl _ _) _) _⟩
              · have HH2 := Lib.hid (show has (l.take (q + 1)) l[k] = false by rw [has_step (by omega) HH.out, decide_eq_false he])
                obtain ⟨e1, e2⟩ := str_ne he
                clear he
                go_wp2
                go_quiet (fail)
                go_wp2
                go_roundw
                case rel => exact ⟨q + 1, m2 + nq, by omega, by go_num, HH2, rfl⟩
                case measure => simp [intOf]; omega
            · have HD2 := Lib.hid (show dpT l (k + 1) = false by rw [dpT_step hkl HD.out, show List.take k l = List.take q l by rw [show q = k by omega]]; exact HH.out)
              go_wp2
              go_roundw
              case rel => exact ⟨k + 1, m2, by omega, val_int (by omega), HD2, rfl⟩
              case measure => simp [intOf]; omega
        · have HV := Lib.hid (H0.out HAll.out (by rw [← show k = l.length by omega]; exact HD.out))
          go_wp2
          go_returns
          exact ⟨ret_int HV.out.symm, Go.below_drewN (Below.refl _ _) _⟩

end Go.Proofs.Yteccafndplaklaa

namespace Go.Proofs.Yteccafndplaklaa
open Go Go.RowKit Go.Joins
set_option linter.unusedVariables false
set_option linter.unusedSimpArgs false

def rnC (s : Rn) : Array Value := #[.int .i64 s.1, .int .i64 s.2]
theorem rnC_size (s : Rn) : (rnC s).size = 2 := rfl
theorem rnC_one (s : Rn) : (rnC s).toList.all (·.oneCell') = true := rfl
abbrev RnRow (w : World) (B : Nat) (v : Value) (l : List Rn) : Prop := KRow rnC 2 48 w B v l
abbrev RnArg (w : World) (v : Value) (l : List Rn) : Prop := KArg rnC 2 w v l
theorem run_info : (Try.prog.info? 48).map (fun i => (i.zero, i.size, i.bytes)) = some (some (.agg #[.int .i64 0, .int .i64 0]), 2, 16) := by kernel_rfl
theorem run_size : (Try.prog.info? 48).map (·.size) = some 2 := by kernel_rfl
/-- The two cells of an element that is read. -/
theorem arg_two {w : World} {g o : Nat} {l : List Rn} (h : ∀ j (hj : j < l.length) i, i < 2 → w.cell? ⟨g, o + j * 2 + i, none⟩ = (rnC l[j])[i]?) (j : Nat) (hj : j < l.length) : w.cell? ⟨g, o + j * 2, none⟩ = some (.int .i64 l[j].1) ∧ w.cell? ⟨g, o + j * 2 + 1, none⟩ = some (.int .i64 l[j].2) :=
  ⟨h j hj 0 (by omega), h j hj 1 (by omega)⟩

set_option maxRecDepth 20000 in
set_option maxHeartbeats 4000000 in
theorem checkRuns_any (m : Int) (l : List Rn) (V : Value) (w : World) (hT : RnArg w V l) (hn : l.length ≤ 1099511627776) : Calls Try.prog 51 #[V, .int .i64 m] w fun e w' => e = .returned (.int .i64 (if vr m 0 l = true then 0 else 2)) ∧ Below w.heap.size w w' := by
  obtain ⟨A, c, rfl, hA⟩ := hT
  have HA := Lib.hid hA
  have HY := Lib.hid (show vr m 0 l = true → (if vr m 0 l = true then 0 else 2 : Int) = 0 from fun h => if_pos h)
  have HN := Lib.hid (show vr m 0 l = false → (if vr m 0 l = true then 0 else 2 : Int) = 2 from fun h => if_neg (by rw [h]; decide))
  have hn' : (l.length : Int) ≤ 1099511627776 := by omega
  clear hA
  generalize (if vr m 0 l = true then 0 else 2 : Int) = r at *
  go_enter Try.func51, Try.ntmps51
  go_wp2
  go_loopw [10, 5] (fun i s wr => ∃ j : Nat, j ≤ l.length ∧ i = .int .i64 j ∧ s = .int .i64 (lg (l.take j)) ∧ Hid (vr m 0 (l.take j) = true) ∧ Hid (Below w.heap.size w wr)) (fun i _ _ => l.length - (intOf i).toNat)
  case atStart => exact ⟨0, Nat.zero_le _, rfl, rfl, Lib.hid rfl, Lib.hid (Below.refl _ _)⟩
  case round =>
    obtain ⟨j, hj, rfl, rfl, HR, HB⟩ := hrel
    have hb := HB.out
    by_cases hjl : j < l.length
    · obtain ⟨g, o, rfl, hg, hc⟩ := HA.out (by omega)
      obtain ⟨a0, a1⟩ := arg_two hc j hjl
      have f0 := (hb.cell (p := ⟨g, o + j * 2, none⟩) hg).trans a0
      have f1 := (hb.cell (p := ⟨g, o + j * 2 + 1, none⟩) hg).trans a1
      have hr := vr_range HR.out
      have hst : Hid (vr m 0 (l.take (j + 1)) = okR m (lg (l.take j)) (l[j].1, l[j].2)) := Lib.hid (vr_step hjl HR.out)
      have hbd : Hid (okR m (lg (l.take j)) (l[j].1, l[j].2) = false → vr m 0 l = false) := Lib.hid (fun h => vr_bad (l := l) hjl h)
      have htk := Lib.hid (lg_take l j hjl)
      clear a0 a1 hc HR
      have HB2 := Lib.hid (show Below w.heap.size w (wr.alloc (.cells #[.int .i64 l[j].1, .int .i64 l[j].2] 48)) from hb.alloc hb.size _)
      generalize l[j].1 = x0 at *
      generalize l[j].2 = x1 at *
      generalize lg (l.take j) = S at *
      by_cases c0 : x0 < 0
      · have HV := Lib.hid (HN.out (hbd.out (by unfold okR; rw [decide_eq_false (show ¬ (0 ≤ x0 ∧ x0 ≤ m) by omega)]; rfl)))
        go_wp2
        go_returns
        exact ⟨ret_int HV.out.symm, HB2.out⟩
      by_cases c1 : m < x0
      · have HV := Lib.hid (HN.out (hbd.out (by unfold okR; rw [decide_eq_false (show ¬ (0 ≤ x0 ∧ x0 ≤ m) by omega)]; rfl)))
        go_wp2
        go_returns
        exact ⟨ret_int HV.out.symm, HB2.out⟩
      by_cases c2 : x1 < 1
      · have HV := Lib.hid (HN.out (hbd.out (by unfold okR; rw [decide_eq_false (show ¬ (1 : Int) ≤ x1 by omega)]; simp)))
        go_wp2
        go_returns
        exact ⟨ret_int HV.out.symm, HB2.out⟩
      by_cases c3 : 1099511627776 - S < x1
      · have HV := Lib.hid (HN.out (hbd.out (by unfold okR; rw [decide_eq_false (show ¬ x1 ≤ 1099511627776 - S by omega)]; simp)))
        go_wp2
        go_returns
        exact ⟨ret_int HV.out.symm, HB2.out⟩
      have HS := Lib.hid (show vr m 0 (l.take (j + 1)) = true by rw [hst.out]; unfold okR; rw [decide_eq_true (show 0 ≤ x0 ∧ x0 ≤ m by omega), decide_eq_true (show (1 : Int) ≤ x1 by omega), decide_eq_true (show x1 ≤ 1099511627776 - S by omega)]; rfl)
      go_wp2
      go_roundw
      case rel => exact ⟨j + 1, by omega, val_int (by omega), val_int (by rw [htk.out]), HS, HB2⟩
      case measure => simp [intOf]; omega
    · have he : l.take j = l := List.take_of_length_le (by omega)
      have HV := Lib.hid (HY.out (by rw [← he]; exact HR.out))
      clear he
      go_wp2
      go_returns
      exact ⟨ret_int HV.out.symm, hb⟩

set_option maxRecDepth 20000 in
set_option maxHeartbeats 4000000 in
theorem rruns_any (m : Int) (l : List Rn) (V : Value) (w : World) (hT : RnArg w V l) (hn : l.length ≤ 1099511627776) : Calls Try.prog 62 #[V, .int .i64 m] w fun e w' => e = .returned (.bool (vr m 0 l)) ∧ w = w' := by
  obtain ⟨A, c, rfl, hA⟩ := hT
  have HA := Lib.hid hA
  have hn' : (l.length : Int) ≤ 1099511627776 := by omega
  clear hA
  go_enter Try.func62, Try.ntmps62
  go_wp2
  go_loop [6, 5] (fun i s => ∃ (j : Nat) (q : Int), j ≤ l.length ∧ i = .int .i64 j ∧ s = .int .i64 q ∧ 0 ≤ q ∧ q ≤ 1099511627776 ∧ Hid (q = 1099511627776 - lg (l.take j)) ∧ Hid (vr m 0 (l.take j) = true)) (fun i _ => l.length - (intOf i).toNat)
  case atStart => exact ⟨0, 1099511627776, Nat.zero_le _, rfl, rfl, by omega, by omega, Lib.hid rfl, Lib.hid rfl⟩
  case round =>
    obtain ⟨j, q, hj, rfl, rfl, hq0, hq1, HQ, HR⟩ := hrel
    by_cases hjl : j < l.length
    · obtain ⟨g, o, rfl, hg, hc⟩ := HA.out (by omega)
      obtain ⟨f0, f1⟩ := arg_two hc j hjl
      have hst : Hid (vr m 0 (l.take (j + 1)) = okR m (lg (l.take j)) (l[j].1, l[j].2)) := Lib.hid (vr_step hjl HR.out)
      have hbd : Hid (okR m (lg (l.take j)) (l[j].1, l[j].2) = false → vr m 0 l = false) := Lib.hid (fun h => vr_bad (l := l) hjl h)
      have htk := Lib.hid (lg_take l j hjl)
      clear hc HR
      generalize l[j].1 = x0 at *
      generalize l[j].2 = x1 at *
      have hS := HQ.out
      obtain ⟨S, hS2⟩ : ∃ S, lg (l.take j) = S := ⟨_, rfl⟩
      rw [hS2] at hS hst hbd htk
      have HSq := Lib.hid (show S = 1099511627776 - q by omega)
      clear hS hS2 HQ
      by_cases c0 : x0 < 0
      · have HV := Lib.hid (hbd.out (by unfold okR; rw [decide_eq_false (show ¬ (0 ≤ x0 ∧ x0 ≤ m) by omega)]; rfl))
        go_wp2
        go_returns
        exact ⟨ret_bool HV.out.symm, rfl⟩
      by_cases c1 : m < x0
      · have HV := Lib.hid (hbd.out (by unfold okR; rw [decide_eq_false (show ¬ (0 ≤ x0 ∧ x0 ≤ m) by omega)]; rfl))
        go_wp2
        go_returns
        exact ⟨ret_bool HV.out.symm, rfl⟩
      by_cases c2 : x1 < 1
      · have HV := Lib.hid (hbd.out (by unfold okR; rw [decide_eq_false (show ¬ (1 : Int) ≤ x1 by omega)]; simp))
        go_wp2
        go_returns
        exact ⟨ret_bool HV.out.symm, rfl⟩
      by_cases c3 : q < x1
      · have HV := Lib.hid (hbd.out (by unfold okR; rw [HSq.out, decide_eq_false (show ¬ x1 ≤ 1099511627776 - (1099511627776 - q) by omega)]; simp))
        go_wp2
        go_returns
        exact ⟨ret_bool HV.out.symm, rfl⟩
      have HS := Lib.hid (show vr m 0 (l.take (j + 1)) = true by rw [hst.out]; unfold okR; rw [HSq.out, decide_eq_true (show 0 ≤ x0 ∧ x0 ≤ m by omega), decide_eq_true (show (1 : Int) ≤ x1 by omega), decide_eq_true (show x1 ≤ 1099511627776 - (1099511627776 - q) by omega)]; rfl)
      go_wp2
      go_round
      case rel => exact ⟨j + 1, q - x1, by omega, val_int (by omega), rfl, by omega, by omega, Lib.hid (by rw [htk.out, HSq.out]; omega), HS⟩
      case measure => simp [intOf]; omega
    · have he : l.take j = l := List.take_of_length_le (by omega)
      have HV := Lib.hid (show vr m 0 l = true by rw [← he]; exact HR.out)
      clear he
      go_wp2
      go_returns
      exact ⟨ret_bool HV.out.symm, rfl⟩

set_option maxRecDepth 20000 in
set_option maxHeartbeats 2000000 in
theorem long_any (m : Int) (l : List Rn) (V : Value) (w : World) (hT : RnArg w V l) (hn : l.length ≤ 1099511627776) (hv : vr m 0 l = true) : Calls Try.prog 52 #[V] w fun e w' => e = .returned (.int .i64 (lg l)) ∧ Below w.heap.size w w' := by
  obtain ⟨A, c, rfl, hA⟩ := hT
  have HA := Lib.hid hA
  have HV := Lib.hid hv
  have hn' : (l.length : Int) ≤ 1099511627776 := by omega
  clear hA hv
  go_enter Try.func52, Try.ntmps52
  go_wp2
  go_loopw [8, 3] (fun i s wr => ∃ j : Nat, j ≤ l.length ∧ i = .int .i64 j ∧ s = .int .i64 (lg (l.take j)) ∧ Hid (Below w.heap.size w wr)) (fun i _ _ => l.length - (intOf i).toNat)
  case atStart => exact ⟨0, Nat.zero_le _, rfl, rfl, Lib.hid (Below.refl _ _)⟩
  case round =>
    obtain ⟨j, hj, rfl, rfl, HB⟩ := hrel
    have hb := HB.out
    by_cases hjl : j < l.length
    · obtain ⟨g, o, rfl, hg, hc⟩ := HA.out (by omega)
      obtain ⟨a0, a1⟩ := arg_two hc j hjl
      have f0 := (hb.cell (p := ⟨g, o + j * 2, none⟩) hg).trans a0
      have f1 := (hb.cell (p := ⟨g, o + j * 2 + 1, none⟩) hg).trans a1
      have hr := lg_take_range HV.out j
      have hr2 := lg_take_range HV.out (j + 1)
      have htk := lg_take l j hjl
      rw [htk] at hr2
      have HT := Lib.hid htk
      clear a0 a1 hc htk
      have HB2 := Lib.hid (show Below w.heap.size w (wr.alloc (.cells #[.int .i64 l[j].1, .int .i64 l[j].2] 48)) from hb.alloc hb.size _)
      generalize l[j].1 = x0 at *
      generalize l[j].2 = x1 at *
      generalize lg (l.take j) = S at *
      go_wp2
      go_roundw
      case rel => exact ⟨j + 1, by omega, val_int (by omega), val_int (by rw [HT.out]), HB2⟩
      case measure => simp [intOf]; omega
    · have he : l.take j = l := List.take_of_length_le (by omega)
      rw [he]
      clear he
      go_wp2
      go_returns
      exact ⟨rfl, hb⟩
set_option maxRecDepth 20000 in
set_option maxHeartbeats 2000000 in
theorem total_any (m : Int) (l : List Rn) (V : Value) (w : World) (hT : RnArg w V l) (hn : l.length ≤ 1099511627776) (hv : vr m 0 l = true) : Calls Try.prog 70 #[V] w fun e w' => e = .returned (.int .i64 (lg l)) ∧ w = w' := by
  obtain ⟨A, c, rfl, hA⟩ := hT
  have HA := Lib.hid hA
  have HV := Lib.hid hv
  have hn' : (l.length : Int) ≤ 1099511627776 := by omega
  clear hA hv
  go_enter Try.func70, Try.ntmps70
  go_wp2
  go_loop [4, 3] (fun i s => ∃ j : Nat, j ≤ l.length ∧ i = .int .i64 j ∧ s = .int .i64 (lg (l.take j))) (fun i _ => l.length - (intOf i).toNat)
  case atStart => exact ⟨0, Nat.zero_le _, rfl, rfl⟩
  case round =>
    obtain ⟨j, hj, rfl, rfl⟩ := hrel
    by_cases hjl : j < l.length
    · obtain ⟨g, o, rfl, hg, hc⟩ := HA.out (by omega)
      obtain ⟨f0, f1⟩ := arg_two hc j hjl
      have hr := lg_take_range HV.out j
      have hr2 := lg_take_range HV.out (j + 1)
      have htk := lg_take l j hjl
      rw [htk] at hr2
      have HT := Lib.hid htk
      clear hc htk
      generalize l[j].1 = x0 at *
      generalize l[j].2 = x1 at *
      generalize lg (l.take j) = S at *
      go_wp2
      go_round
      case rel => exact ⟨j + 1, by omega, val_int (by omega), val_int (by rw [HT.out])⟩
      case measure => simp [intOf]; omega
    · have he : l.take j = l := List.take_of_length_le (by omega)
      rw [he]
      clear he
      go_wp2
      go_returns
      exact ⟨rfl, rfl⟩

end Go.Proofs.Yteccafndplaklaa
