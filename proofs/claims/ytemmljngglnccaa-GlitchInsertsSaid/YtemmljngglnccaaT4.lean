/-
  Count: the program's and the specification's; the specification's short.
-/
import Derived.Test.YtemmljngglnccaaT3
import Derived.Test.YtemmljngglnccaaW4
import Derived.Test.YtemmljngglnccaaW7
namespace Go.Proofs.Ytemmljngglnccaa
open Go Go.RowKit Go.Joins
set_option linter.unusedVariables false
set_option linter.unusedSimpArgs false

theorem cl_le (l : List Rn) : (cl l).length ≤ 262144 := ((vl_iff _).1 (cl_vl l)).1
set_option maxRecDepth 100000 in
set_option maxHeartbeats 4000000 in
theorem countG_any (l : List Rn) (k : Int) (V : Value) (w : World) (hT : RnArg w V l) :
    Calls Try.prog 12 #[V, .int .i64 k] w fun e w' => e = .returned (.int .i64 (cn k ((cl l).drop 1))) ∧ Below w.heap.size w w' := by
  have HC := Lib.hid (clean_any l V w hT)
  have hle := cl_le l
  obtain ⟨A, c, rfl⟩ := hT.form
  clear hT
  generalize cl l = C at *
  go_enter Try.func12, Try.ntmps12
  go_wp2_with (first
    | (go_at_call 24; go_must (refine HC.out.mono ?_; rintro e1 w1 ⟨v1, rfl, r1, b1⟩; obtain ⟨UA, UN, UC, rfl, rfl⟩ := KRow.form r1; have R1 := Lib.hid r1; have B1 := Lib.hid b1; clear r1 b1)))
  have hw0 := IntWalk.i64_in ((C.length : Int) - 1) (by omega)
  go_loop [6, 7] (fun n i => ∃ (j m : Nat), 1 ≤ j ∧ j ≤ C.length + 1 ∧ m ≤ j ∧ n = .int .i64 m ∧ i = .int .i64 j ∧ Hid (m + cn k (C.drop j) = cn k (C.drop 1))) (fun n i => C.length + 1 - (intOf i).toNat)
  case atStart => exact ⟨1, 0, Nat.le_refl _, by omega, by omega, rfl, rfl, Lib.hid (Nat.zero_add _)⟩
  case round =>
    obtain ⟨j, m, h1, h2, h3, rfl, rfl, HM⟩ := hrel
    by_cases hj : j + 1 < C.length
    · obtain ⟨g, c', he⟩ := KRow.full R1.out (by omega)
      obtain ⟨rfl, _, rfl⟩ := Value.slice.inj he
      have f1 := (RnRow.two R1.out j (by omega)).2.1
      have HN := Lib.hid (cn_drop k C j hj)
      have d0 : (j : Int) < (C.length : Int) - 1 := by omega
      have d0' : decide ((j : Int) < (C.length : Int) - 1) = true := decide_eq_true d0
      have hjl : (j : Int) < (C.length : Int) := by omega
      clear he
      generalize C[j].2 = t at *
      by_cases ht : t < k
      · have ht' : decide (t < k) = true := decide_eq_true ht
        go_wp2
        go_round
        case rel => exact ⟨j + 1, m + 1, by omega, by omega, by omega, by go_num, by go_num, Lib.hid (by have a := HM.out; have b := HN.out; rw [if_pos ht] at b; omega)⟩
        case measure => simp [intOf]; omega
      · have ht' : decide (t < k) = false := decide_eq_false ht
        go_wp2
        go_round
        case rel => exact ⟨j + 1, m, by omega, by omega, by omega, rfl, by go_num, Lib.hid (by have a := HM.out; have b := HN.out; rw [if_neg ht] at b; omega)⟩
        case measure => simp [intOf]; omega
    · have d0 : ¬ (j : Int) < (C.length : Int) - 1 := by omega
      have d0' : decide ((j : Int) < (C.length : Int) - 1) = false := decide_eq_false d0
      have HE := Lib.hid (show m = cn k (C.drop 1) by have a := HM.out; rw [cn_end k C j (by omega)] at a; omega)
      go_wp2
      go_returns
      exact ⟨ret_int (by have h := HE.out; rw [List.drop_one] at h; rw [h]), B1.out⟩

set_option maxRecDepth 100000 in
set_option maxHeartbeats 4000000 in
theorem refCount_any (l : List Rn) (k : Int) (V : Value) (w : World) (hT : RnArg w V l) :
    Calls Try.prog 13 #[V, .int .i64 k] w fun e w' => e = .returned (.int .i64 (cn k ((cl l).drop 1))) ∧ Below w.heap.size w w' := by
  have HV := Lib.hid (refValid_any l V w hT)
  cases hv : vl l with
  | false =>
    rw [hv] at HV
    have HE := Lib.hid (show cn k ((cl l).drop 1) = 0 by rw [cl_no (by rw [hv]; decide)]; rfl)
    obtain ⟨A, c, rfl⟩ := hT.form
    clear hT hv
    generalize cl l = C at *
    go_enter Try.func13, Try.ntmps13
    go_wp2_with (first
      | (go_at_call 22; go_must (refine HV.out.mono ?_; rintro e1 w1 ⟨rfl, rfl⟩)))
    go_returns
    exact ⟨ret_int (by have h := HE.out; first | (rw [h]; rfl) | (rw [List.drop_one] at h; rw [h]; rfl)), Below.refl _ _⟩
  | true =>
    rw [hv] at HV
    have HC := Lib.hid (refClean_any l V w hT)
    have hle := cl_le l
    obtain ⟨A, c, rfl⟩ := hT.form
    clear hT hv
    generalize cl l = C at *
    go_enter Try.func13, Try.ntmps13
    go_wp2_with (first
      | (go_at_call 22; go_must (refine HV.out.mono ?_; rintro e0 w0 ⟨rfl, rfl⟩))
      | (go_at_call 29; go_must (refine HC.out.mono ?_; rintro e1 w1 ⟨v1, rfl, r1, b1⟩; obtain ⟨UA, UN, UC, rfl, rfl⟩ := KRow.form r1; have R1 := Lib.hid r1; have B1 := Lib.hid b1; clear r1 b1)))
    have hw0 := IntWalk.i64_in ((C.length : Int) - 1) (by omega)
    go_loop [6, 7] (fun n i => ∃ (j m : Nat), 1 ≤ j ∧ j ≤ C.length + 1 ∧ m ≤ j ∧ n = .int .i64 m ∧ i = .int .i64 j ∧ Hid (m + cn k (C.drop j) = cn k (C.drop 1))) (fun n i => C.length + 1 - (intOf i).toNat)
    case atStart => exact ⟨1, 0, Nat.le_refl _, by omega, by omega, rfl, rfl, Lib.hid (Nat.zero_add _)⟩
    case round =>
      obtain ⟨j, m, h1, h2, h3, rfl, rfl, HM⟩ := hrel
      by_cases hj : j + 1 < C.length
      · obtain ⟨g, c', he⟩ := KRow.full R1.out (by omega)
        obtain ⟨rfl, _, rfl⟩ := Value.slice.inj he
        have f1 := (RnRow.two R1.out j (by omega)).2.1
        have HN := Lib.hid (cn_drop k C j hj)
        have d0 : (j : Int) < (C.length : Int) - 1 := by omega
        have d0' : decide ((j : Int) < (C.length : Int) - 1) = true := decide_eq_true d0
        have hjl : (j : Int) < (C.length : Int) := by omega
        clear he
        generalize C[j].2 = t at *
        by_cases ht : t < k
        · have ht' : decide (t < k) = true := decide_eq_true ht
          go_wp2
          go_round
          case rel => exact ⟨j + 1, m + 1, by omega, by omega, by omega, by go_num, by go_num, Lib.hid (by have a := HM.out; have b := HN.out; rw [if_pos ht] at b; omega)⟩
          case measure => simp [intOf]; omega
        · have ht' : decide (t < k) = false := decide_eq_false ht
          go_wp2
          go_round
          case rel => exact ⟨j + 1, m, by omega, by omega, by omega, rfl, by go_num, Lib.hid (by have a := HM.out; have b := HN.out; rw [if_neg ht] at b; omega)⟩
          case measure => simp [intOf]; omega
      · have d0 : ¬ (j : Int) < (C.length : Int) - 1 := by omega
        have d0' : decide ((j : Int) < (C.length : Int) - 1) = false := decide_eq_false d0
        have HE := Lib.hid (show m = cn k (C.drop 1) by have a := HM.out; rw [cn_end k C j (by omega)] at a; omega)
        go_wp2
        go_returns
        exact ⟨ret_int (by have h := HE.out; rw [List.drop_one] at h; rw [h]), B1.out⟩

/-- What short answers. -/
def ShP (C : List Rn) (k : Int) (e : Ending) : Prop := (e = .returned (.int .i64 (-1)) ∧ cn k (C.drop 1) = 0) ∨ ∃ (i : Nat) (h : i + 1 < C.length), 1 ≤ i ∧ e = .returned (.int .i64 i) ∧ C[i].2 < k ∧ ∀ j (hj : j < C.length), 1 ≤ j → j < i → ¬ C[j].2 < k
set_option maxRecDepth 100000 in
set_option maxHeartbeats 4000000 in
theorem short_any (C : List Rn) (k : Int) (V : Value) (w : World) (hT : RnArg w V C) (hle : C.length ≤ 262144) :
    Calls Try.prog 30 #[V, .int .i64 k] w fun e w' => ShP C k e ∧ w = w' := by
  obtain ⟨A, c, rfl, hA⟩ := hT
  have HA := Lib.hid hA
  clear hA
  have hw0 := IntWalk.i64_in ((C.length : Int) - 1) (by omega)
  go_enter Try.func30, Try.ntmps30
  go_wp2
  go_loop [5] (fun i => ∃ (j : Nat), 1 ≤ j ∧ j ≤ C.length + 1 ∧ i = .int .i64 j ∧ Hid (∀ q (hq : q < C.length), 1 ≤ q → q < j → ¬ C[q].2 < k)) (fun i => C.length + 1 - (intOf i).toNat)
  case atStart => exact ⟨1, Nat.le_refl _, by omega, rfl, Lib.hid (fun q hq a b => absurd b (by omega))⟩
  case round =>
    obtain ⟨j, h1, h2, rfl, HM⟩ := hrel
    by_cases hj : j + 1 < C.length
    · obtain ⟨g, o, rfl, hg, hc⟩ := HA.out (by omega)
      obtain ⟨_, f1⟩ := arg_two hc j (by omega)
      have d0 : (j : Int) < (C.length : Int) - 1 := by omega
      have d0' : decide ((j : Int) < (C.length : Int) - 1) = true := decide_eq_true d0
      have hjl : (j : Int) < (C.length : Int) := by omega
      clear hc
      by_cases ht : C[j].2 < k
      · have HT := Lib.hid ht
        have HJ := Lib.hid hj
        have ht' : decide (C[j].2 < k) = true := decide_eq_true ht
        generalize C[j].2 = t at f1 ht ht'
        go_wp2
        go_returns
        exact ⟨Or.inr ⟨j, HJ.out, h1, rfl, HT.out, fun q hq a b => by have := HM.out q hq a b; omega⟩, rfl⟩
      · have HT := Lib.hid ht
        have ht' : decide (C[j].2 < k) = false := decide_eq_false ht
        generalize C[j].2 = t at f1 ht ht'
        go_wp2
        go_round
        case rel => exact ⟨j + 1, by omega, by omega, by go_num, Lib.hid (fun q hq a b => by
          by_cases e : q = j
          · subst e; exact HT.out
          · exact HM.out q hq a (by omega))⟩
        case measure => simp [intOf]; omega
    · have d0 : ¬ (j : Int) < (C.length : Int) - 1 := by omega
      have d0' : decide ((j : Int) < (C.length : Int) - 1) = false := decide_eq_false d0
      have HE := Lib.hid (show cn k (C.drop 1) = 0 from cn_zero.2 fun q hq => by
        rw [List.length_drop] at hq
        rw [List.getElem_drop]
        exact HM.out (1 + q) (by omega) (by omega) (by omega))
      go_wp2
      go_returns
      exact ⟨Or.inl ⟨rfl, HE.out⟩, rfl⟩
end Go.Proofs.Ytemmljngglnccaa
