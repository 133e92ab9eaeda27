/-
  Lists of names: Index, Contains, place, checkNames, the specification's names.
-/
import Derived.Test.YtcodoakfomddfaaW2
namespace Go.Proofs.Ytcodoakfomddfaa
open Go Go.RowKit Go.Joins
set_option linter.unusedVariables false
set_option linter.unusedSimpArgs false

def nmC (s : ByteArray) : Array Value := #[.string s]
theorem nmC_size (s : ByteArray) : (nmC s).size = 1 := rfl
theorem nmC_one (s : ByteArray) : (nmC s).toList.all (·.oneCell') = true := rfl
abbrev NmRow (w : World) (B : Nat) (v : Value) (l : List ByteArray) : Prop := KRow nmC 1 9 w B v l
theorem name_info : (Try.prog.info? 9).map (fun i => (i.zero, i.size, i.bytes)) = some (some (.string ⟨#[]⟩), 1, 16) := by kernel_rfl
theorem name_size : (Try.prog.info? 9).map (·.size) = some 1 := by kernel_rfl
/-- Its length is no more than its capacity. -/
def CapOk (v : Value) : Prop := ∃ A n c, v = .slice A n c ∧ n ≤ c
def NmArg (w : World) (v : Value) (l : List ByteArray) : Prop := KArg nmC 1 w v l ∧ CapOk v
theorem NmArg.keep {w w' : World} {v : Value} {l : List ByteArray} (h : NmArg w v l) (hb : Below w.heap.size w w') : NmArg w' v l := ⟨h.1.keep hb, h.2⟩
theorem KRow.cap {α : Type} {enc : α → Array Value} {k : Nat} {T : TypeId} {w : World} {B : Nat} {v : Value} {l : List α} (h : KRow enc k T w B v l) : CapOk v := by
  rcases h.2 with ⟨rfl, h0⟩ | ⟨g, cap, cur, rfl, _, _, hnc, _⟩
  · exact ⟨none, 0, 0, rfl, Nat.le_refl _⟩
  · exact ⟨_, _, _, rfl, hnc⟩
theorem KRow.name {w : World} {B : Nat} {v : Value} {l : List ByteArray} (h : NmRow w B v l) : NmArg w v l := ⟨KRow.arg nmC_size h, h.cap⟩
def szs (l : List ByteArray) : Prop := ∀ s ∈ l, s.size ≤ 9223372036854775807
theorem szs.at {l : List ByteArray} (h : szs l) (j : Nat) (hj : j < l.length) : l[j].size ≤ 9223372036854775807 := h _ (List.getElem_mem hj)
theorem NmArg.form {w : World} {v : Value} {l : List ByteArray} (h : NmArg w v l) : ∃ A c, v = .slice A l.length c ∧ l.length ≤ c ∧ (0 < l.length → ∃ g o, A = some ⟨g, o, none⟩ ∧ g < w.heap.size ∧ ∀ j (hj : j < l.length), w.cell? ⟨g, o + j, none⟩ = some (.string l[j])) := by
  obtain ⟨⟨A, c, rfl, h⟩, ⟨A', n', c', e, hc⟩⟩ := h
  simp only [Value.slice.injEq] at e
  obtain ⟨rfl, rfl, rfl⟩ := e
  refine ⟨A, c, rfl, hc, fun h0 => ?_⟩
  obtain ⟨g, o, e, hg, hcell⟩ := h h0
  refine ⟨g, o, e, hg, fun j hj => ?_⟩
  have := hcell j hj 0 (by omega)
  rwa [Nat.mul_one] at this
theorem NmArg.of {w : World} {A : Option Addr} {n c : Nat} {l : List ByteArray} (hn : n = l.length) (hc : l.length ≤ c) (h : 0 < l.length → ∃ g o, A = some ⟨g, o, none⟩ ∧ g < w.heap.size ∧ ∀ j (hj : j < l.length), w.cell? ⟨g, o + j, none⟩ = some (.string l[j])) : NmArg w (.slice A n c) l := by
  subst hn
  refine ⟨⟨A, c, rfl, fun h0 => ?_⟩, ⟨_, _, _, rfl, hc⟩⟩
  obtain ⟨g, o, e, hg, hcell⟩ := h h0
  refine ⟨g, o, e, hg, fun j hj i hi => ?_⟩
  obtain rfl : i = 0 := by omega
  rw [Nat.mul_one]
  exact hcell j hj
theorem NmArg.take {w : World} {g o c : Nat} {l : List ByteArray} (i : Nat) (hi : i ≤ l.length) (hc : l.length ≤ c) (hg : g < w.heap.size) (h : ∀ j (hj : j < l.length), w.cell? ⟨g, o + j, none⟩ = some (.string l[j])) : NmArg w (.slice (some ⟨g, o, none⟩) i c) (l.take i) := by
  have hl : (l.take i).length = i := by rw [List.length_take]; omega
  refine NmArg.of hl.symm (by omega) fun _ => ⟨g, o, rfl, hg, fun j hj => ?_⟩
  rw [h j (by omega)]
  simp

/-- Where a name stands first, or -1. -/
def ixF : List ByteArray → ByteArray → Nat → Int
  | [], _, _ => -1
  | x :: r, s, k => if x.data.toList = s.data.toList then (k : Int) else ixF r s (k + 1)
def ix (l : List ByteArray) (s : ByteArray) : Int := ixF l s 0
theorem ixF_range (l : List ByteArray) (s : ByteArray) (k : Nat) : ixF l s k = -1 ∨ ((k : Int) ≤ ixF l s k ∧ ixF l s k < k + l.length) := by
  induction l generalizing k with
  | nil => exact .inl rfl
  | cons x r ih =>
    simp only [ixF, List.length_cons]
    split
    · exact .inr ⟨by omega, by omega⟩
    · rcases ih (k + 1) with h | h
      · exact .inl h
      · exact .inr ⟨by omega, by omega⟩
theorem ix_has (l : List ByteArray) (s : ByteArray) : decide (0 ≤ ix l s) = has l s := by
  have key : ∀ (l : List ByteArray) (k : Nat), decide (0 ≤ ixF l s k) = has l s := by
    intro l
    induction l with
    | nil => intro k; rfl
    | cons x r ih =>
      intro k
      by_cases h : x.data.toList = s.data.toList
      · have e : ixF (x :: r) s k = (k : Int) := if_pos h
        have e2 : has (x :: r) s = true := by unfold has; rw [List.any_cons, decide_eq_true h]; rfl
        rw [decide_eq_true (show 0 ≤ ixF (x :: r) s k by rw [e]; omega), e2]
      · have e : ixF (x :: r) s k = ixF r s (k + 1) := if_neg h
        have e2 : has (x :: r) s = has r s := by unfold has; rw [List.any_cons, decide_eq_false h]; rfl
        rw [e2, ← ih (k + 1)]
        exact decide_eq_decide.2 (by rw [e])
  exact key l 0
theorem ixF_here {l : List ByteArray} {s : ByteArray} {j : Nat} (hj : j < l.length) (h : l[j].data.toList = s.data.toList) : ixF (l.drop j) s j = j := by
  rw [List.drop_eq_getElem_cons hj]; simp only [ixF]; rw [if_pos h]
theorem ixF_next {l : List ByteArray} {s : ByteArray} {j : Nat} (hj : j < l.length) (h : ¬ l[j].data.toList = s.data.toList) : ixF (l.drop j) s j = ixF (l.drop (j + 1)) s (j + 1) := by
  rw [List.drop_eq_getElem_cons hj]; simp only [ixF]; rw [if_neg h]
theorem ixF_end {l : List ByteArray} {s : ByteArray} {j : Nat} (hj : ¬ j < l.length) : ixF (l.drop j) s j = -1 := by
  rw [List.drop_eq_nil_of_le (by omega)]; rfl
theorem str_eq {a b : ByteArray} (h : a.data.toList = b.data.toList) : (b.toList == a.toList) = true ∧ (a.toList == b.toList) = true := by
  simp only [ByteArray.toList_eq, h]; simp
theorem str_ne {a b : ByteArray} (h : ¬ a.data.toList = b.data.toList) : (b.toList == a.toList) = false ∧ (a.toList == b.toList) = false := by
  simp only [ByteArray.toList_eq, beq_eq_false_iff_ne, ne_eq]
  exact ⟨fun e => h e.symm, h⟩

set_option maxRecDepth 20000 in
set_option maxHeartbeats 1000000 in
theorem index_any (l : List ByteArray) (v : Value) (s : ByteArray) (w : World) (hT : NmArg w v l) (hn : l.length ≤ 8796093022208) : Calls Try.prog 43 #[v, .string s] w fun e w' => e = .returned (.int .i64 (ix l s)) ∧ w = w' := by
  obtain ⟨A, c, rfl, hc, hA⟩ := hT.form
  have HA := Lib.hid hA
  clear hA hT hc
  go_enter Try.func43, Try.ntmps43
  go_wp2
  go_loop [8] (fun i => ∃ j : Nat, j ≤ l.length ∧ i = .int .i64 j ∧ Hid (ix l s = ixF (l.drop j) s j)) (fun i => l.length - (intOf i).toNat)
  case atStart => exact ⟨0, Nat.zero_le _, rfl, Lib.hid rfl⟩
  case round =>
    obtain ⟨j, hj, rfl, HR⟩ := hrel
    by_cases hjl : j < l.length
    · obtain ⟨g, o, rfl, hg, hcell⟩ := HA.out (by omega)
      have f0 := hcell j hjl
      clear hcell
      by_cases he : l[j].data.toList = s.data.toList
      · have HE := Lib.hid (HR.out.trans (ixF_here hjl he))
        obtain ⟨e1, e2⟩ := str_eq he
        clear he HR
        go_wp2
        go_returns
        exact ⟨ret_int HE.out.symm, rfl⟩
      · have HE := Lib.hid (HR.out.trans (ixF_next hjl he))
        obtain ⟨e1, e2⟩ := str_ne he
        clear he HR
        go_wp2
        go_round
        case rel => exact ⟨j + 1, by omega, by go_num, HE⟩
        case measure => simp [intOf]; omega
    · have HE := Lib.hid (HR.out.trans (ixF_end hjl))
      clear HR
      go_wp2
      go_returns
      exact ⟨ret_int HE.out.symm, rfl⟩
set_option maxRecDepth 20000 in
set_option maxHeartbeats 1000000 in
theorem contains_any (l : List ByteArray) (v : Value) (s : ByteArray) (w : World) (hT : NmArg w v l) (hn : l.length ≤ 8796093022208) : Calls Try.prog 55 #[v, .string s] w fun e w' => e = .returned (.bool (has l s)) ∧ w = w' := by
  have C1 := Lib.hid (index_any l v s w hT hn)
  have H := Lib.hid (ix_has l s)
  obtain ⟨A, c, rfl, hc, hA⟩ := hT.form
  clear hA hT hc
  generalize ix l s = r at *
  by_cases h0 : 0 ≤ r
  · have HB := Lib.hid (show has l s = true by rw [← H.out, decide_eq_true h0])
    have d0 : decide (0 ≤ r) = true := decide_eq_true h0
    clear H
    go_enter Try.func55, Try.ntmps55
    go_wp2_with (first
      | (go_at_call 43; go_must (refine C1.out.mono ?_; rintro e1 w1 ⟨rfl, rfl⟩)))
    go_returns
    exact ⟨ret_bool (by rw [HB.out]), rfl⟩
  · have HB := Lib.hid (show has l s = false by rw [← H.out, decide_eq_false h0])
    have d0 : decide (0 ≤ r) = false := decide_eq_false h0
    clear H
    go_enter Try.func55, Try.ntmps55
    go_wp2_with (first
      | (go_at_call 43; go_must (refine C1.out.mono ?_; rintro e1 w1 ⟨rfl, rfl⟩)))
    go_returns
    exact ⟨ret_bool (by rw [HB.out]), rfl⟩

end Go.Proofs.Ytcodoakfomddfaa
