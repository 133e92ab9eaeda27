/-
  Channels by name: the specification's place, slices.Index and Contains of integers; chosen bits: selected, bit.
-/
import Derived.Test.YtcodoakfomddfaaW6
import Derived.Test.YtcodoakfomddfaaM2
namespace Go.Proofs.Ytcodoakfomddfaa
open Go Go.RowKit Go.Joins
set_option linter.unusedVariables false
set_option linter.unusedSimpArgs false

def chC (k : Nat) : Array Value := #[.int .i64 k]
theorem chC_size (k : Nat) : (chC k).size = 1 := rfl
abbrev ChRow (w : World) (B : Nat) (v : Value) (l : List Nat) : Prop := KRow chC 1 3 w B v l
abbrev ChArg (w : World) (v : Value) (l : List Nat) : Prop := KArg chC 1 w v l
theorem arg_ch {w : World} {g o : Nat} {l : List Nat} (h : ∀ j (hj : j < l.length) i, i < 1 → w.cell? ⟨g, o + j * 1 + i, none⟩ = (chC l[j])[i]?) (j : Nat) (hj : j < l.length) : w.cell? ⟨g, o + j, none⟩ = some (.int .i64 l[j]) := by
  have := h j hj 0 (by omega)
  simpa [chC] using this

set_option maxRecDepth 20000 in
set_option maxHeartbeats 1000000 in
theorem refPlace_any (l : List ByteArray) (v : Value) (s : ByteArray) (w : World) (hT : NmArg w v l) (hn : l.length ≤ 8796093022208) : Calls Try.prog 27 #[v, .string s] w fun e w' => e = .returned (.int .i64 (ix l s)) ∧ w = w' := by
  obtain ⟨A, c, rfl, hc, hA⟩ := hT.form
  have HA := Lib.hid hA
  clear hA hT hc
  go_enter Try.func27, Try.ntmps27
  go_wp2
  go_loop [5] (fun i => ∃ j : Nat, j ≤ l.length ∧ i = .int .i64 j ∧ Hid (ix l s = ixF (l.drop j) s j)) (fun i => l.length - (intOf i).toNat)
  case atStart => exact ⟨0, Nat.zero_le _, rfl, Lib.hid rfl⟩
  case round =>
    obtain ⟨j, hj, rfl, HR⟩ := hrel
    by_cases hjl : j < l.length
    · obtain ⟨g, o, rfl, hg, hcell⟩ := HA.out (by omega)
      have f0 := hcell j hjl
      clear hcell
      by_cases he : l[j].data.toList = s.data.toList
      · have HE := Lib.hid (HR.out.trans (ixF_here hjl he))
        obtain ⟨e1, e2⟩ := str_eq he
        clear he HR
        go_wp2
        go_returns
        exact ⟨ret_int HE.out.symm, rfl⟩
      · have HE := Lib.hid (HR.out.trans (ixF_next hjl he))
        obtain ⟨e1, e2⟩ := str_ne he
        clear he HR
        go_wp2
        go_round
        case rel => exact ⟨j + 1, by omega, by go_num, HE⟩
        case measure => simp [intOf]; omega
    · have HE := Lib.hid (HR.out.trans (ixF_end hjl))
      clear HR
      go_wp2
      go_returns
      exact ⟨ret_int HE.out.symm, rfl⟩

/-- Where k is among the numbers, or -1. -/
def cxF : List Nat → Nat → Nat → Int
  | [], _, _ => -1
  | x :: l, k, i => if x = k then (i : Int) else cxF l k (i + 1)
theorem cxF_has (l : List Nat) (k i : Nat) : decide (0 ≤ cxF l k i) = decide (k ∈ l) := by
  induction l generalizing i with
  | nil => simp [cxF]
  | cons x l ih =>
    unfold cxF
    by_cases h : x = k
    · rw [if_pos h]; simp [h]
    · rw [if_neg h, ih]; simp [Ne.symm h]
theorem cxF_here {l : List Nat} {k j : Nat} (hj : j < l.length) (h : l[j] = k) : cxF (l.drop j) k j = j := by
  rw [List.drop_eq_getElem_cons hj]; unfold cxF; rw [if_pos h]
theorem cxF_next {l : List Nat} {k j : Nat} (hj : j < l.length) (h : ¬ l[j] = k) : cxF (l.drop j) k j = cxF (l.drop (j + 1)) k (j + 1) := by
  rw [List.drop_eq_getElem_cons hj]; conv => lhs; unfold cxF
  rw [if_neg h]
theorem cxF_end {l : List Nat} {k j : Nat} (hj : ¬ j < l.length) : cxF (l.drop j) k j = -1 := by
  rw [List.drop_of_length_le (by omega)]; rfl

set_option maxRecDepth 20000 in
set_option maxHeartbeats 1000000 in
theorem indexInt_any (l : List Nat) (v : Value) (k : Nat) (w : World) (hT : ChArg w v l) (hn : l.length ≤ 8796093022208) : Calls Try.prog 56 #[v, .int .i64 k] w fun e w' => e = .returned (.int .i64 (cxF l k 0)) ∧ w = w' := by
  obtain ⟨A, c, rfl, hA⟩ := hT
  have HA := Lib.hid hA
  clear hA
  go_enter Try.func56, Try.ntmps56
  go_wp2
  go_loop [8] (fun i => ∃ j : Nat, j ≤ l.length ∧ i = .int .i64 j ∧ Hid (cxF l k 0 = cxF (l.drop j) k j)) (fun i => l.length - (intOf i).toNat)
  case atStart => exact ⟨0, Nat.zero_le _, rfl, Lib.hid rfl⟩
  case round =>
    obtain ⟨j, hj, rfl, HR⟩ := hrel
    by_cases hjl : j < l.length
    · obtain ⟨g, o, rfl, hg, hcell⟩ := HA.out (by omega)
      have f0 := arg_ch hcell j hjl
      clear hcell
      by_cases he : l[j] = k
      · have HE := Lib.hid (HR.out.trans (cxF_here hjl he))
        rw [he] at f0
        clear he HR
        go_wp2
        go_returns
        exact ⟨ret_int HE.out.symm, rfl⟩
      · have HE := Lib.hid (HR.out.trans (cxF_next hjl he))
        have e1 : ((l[j] : Int) == (k : Int)) = false := by simpa using fun e => he (by omega)
        have e2 : ((k : Int) == (l[j] : Int)) = false := by simpa using fun e => he (by omega)
        clear he HR
        go_wp2
        go_round
        case rel => exact ⟨j + 1, by omega, by go_num, HE⟩
        case measure => simp [intOf]; omega
    · have HE := Lib.hid (HR.out.trans (cxF_end hjl))
      clear HR
      go_wp2
      go_returns
      exact ⟨ret_int HE.out.symm, rfl⟩
set_option maxRecDepth 20000 in
set_option maxHeartbeats 1000000 in
theorem containsInt_any (l : List Nat) (v : Value) (k : Nat) (w : World) (hT : ChArg w v l) (hn : l.length ≤ 8796093022208) : Calls Try.prog 44 #[v, .int .i64 k] w fun e w' => e = .returned (.bool (decide (k ∈ l))) ∧ w = w' := by
  have CI := Lib.hid (indexInt_any l v k w hT hn)
  have hh := cxF_has l k 0
  generalize cxF l k 0 = r at *
  generalize decide (k ∈ l) = d at *
  go_enter Try.func44, Try.ntmps44
  go_wp2_with (first
    | (go_at_call 56; go_must (refine CI.out.mono ?_; rintro e1 w1 ⟨rfl, rfl⟩)))
  go_returns
  first | exact ⟨rfl, rfl⟩ | exact ⟨ret_bool hh, rfl⟩

end Go.Proofs.Ytcodoakfomddfaa
