/-
  The walks of the specification's Valid, and of Long (the program's and the specification's).
-/
import Derived.Test.YtemmljngglnccaaW1
namespace Go.Proofs.Ytemmljngglnccaa
open Go Go.RowKit Go.Joins
set_option linter.unusedVariables false
set_option linter.unusedSimpArgs false

set_option maxRecDepth 20000 in
set_option maxHeartbeats 4000000 in
theorem refValid_any (l : List Rn) (V : Value) (w : World) (hT : RnArg w V l) : Calls Try.prog 22 #[V] w fun e w' => e = .returned (.bool (vl l)) ∧ w = w' := by
  obtain ⟨A, c, rfl, hA⟩ := hT
  have HA := Lib.hid hA
  clear hA
  by_cases hn : 262144 < l.length
  · have hn' : (262144 : Int) < l.length := by omega
    have HV := Lib.hid (show vl l = false by unfold vl; rw [decide_eq_false (by omega)]; rfl)
    clear hn HA
    go_enter Try.func22, Try.ntmps22
    go_wp2
    go_returns
    exact ⟨ret_bool HV.out.symm, rfl⟩
  have hn' : (l.length : Int) ≤ 262144 := by omega
  go_enter Try.func22, Try.ntmps22
  go_wp2
  go_loop [4, 3] (fun i s => ∃ j : Nat, j ≤ l.length ∧ i = .int .i64 j ∧ s = .int .i64 (lg (l.take j)) ∧ Hid (vr 0 (l.take j) = true)) (fun i _ => l.length - (intOf i).toNat)
  case atStart => exact ⟨0, Nat.zero_le _, rfl, rfl, Lib.hid rfl⟩
  case round =>
    obtain ⟨j, hj, rfl, rfl, HR⟩ := hrel
    by_cases hjl : j < l.length
    · obtain ⟨g, o, rfl, hg, hc⟩ := HA.out (by omega)
      obtain ⟨f0, f1⟩ := arg_two hc j hjl
      have hr := vr_range HR.out
      have hst := Lib.hid (vr_step hjl HR.out)
      have hbd := Lib.hid (fun h => vr_bad (l := l) hjl h)
      have htk := Lib.hid (lg_take l j hjl)
      clear hc
      have hst' : Hid (vr 0 (l.take (j + 1)) = okR (lg (l.take j)) (l[j].1, l[j].2)) := Lib.hid hst.out
      have hbd' : Hid (okR (lg (l.take j)) (l[j].1, l[j].2) = false → vl l = false) := Lib.hid hbd.out
      clear hst hbd HR
      generalize l[j].1 = x0 at *
      generalize l[j].2 = x1 at *
      generalize lg (l.take j) = S at *
      by_cases c0 : x0 = 0 ∨ x0 = 1
      · have HD : Hid (decide (x0 = 0 ∨ x0 = 1) = true) := Lib.hid (decide_eq_true c0)
        have d1 : (x0 != 0) = false ∨ ((x0 != 0) = true ∧ (x0 != 1) = false) := by
          rcases c0 with rfl | rfl
          · exact .inl rfl
          · exact .inr ⟨rfl, rfl⟩
        clear c0
        by_cases c1 : x1 < 1
        · have HV := Lib.hid (hbd'.out (by unfold okR; rw [decide_eq_false (show ¬ (1 : Int) ≤ x1 by omega)]; simp))
          rcases d1 with d1 | ⟨d1, d2⟩
          all_goals
            go_wp2
            go_returns
            exact ⟨ret_bool HV.out.symm, rfl⟩
        by_cases c2 : 1099511627776 - S < x1
        · have HV := Lib.hid (hbd'.out (by unfold okR; rw [decide_eq_false (show ¬ x1 ≤ 1099511627776 - S by omega)]; simp))
          rcases d1 with d1 | ⟨d1, d2⟩
          all_goals
            go_wp2
            go_returns
            exact ⟨ret_bool HV.out.symm, rfl⟩
        have HS := Lib.hid (show vr 0 (l.take (j + 1)) = true by rw [hst'.out]; unfold okR; rw [HD.out, decide_eq_true (show (1 : Int) ≤ x1 by omega), decide_eq_true (show x1 ≤ 1099511627776 - S by omega)]; rfl)
        rcases d1 with d1 | ⟨d1, d2⟩
        all_goals
          go_wp2
          go_round
          case rel => exact ⟨j + 1, by omega, val_int (by omega), val_int (by rw [htk.out]), HS⟩
          case measure => simp [intOf]; omega
      · have d0 : decide (x0 = 0 ∨ x0 = 1) = false := decide_eq_false c0
        have HV := Lib.hid (hbd'.out (by unfold okR; rw [d0]; rfl))
        have d1 : (x0 != 0) = true := by simp; omega
        have d2 : (x0 != 1) = true := by simp; omega
        clear d0 c0
        go_wp2
        go_returns
        exact ⟨ret_bool HV.out.symm, rfl⟩
    · have he : l.take j = l := List.take_of_length_le (by omega)
      have HV := Lib.hid (vr_all (l := l) (by omega) (by rw [← he]; exact HR.out))
      clear he
      go_wp2
      go_returns
      exact ⟨ret_bool HV.out.symm, rfl⟩

set_option maxRecDepth 20000 in
set_option maxHeartbeats 4000000 in
theorem long_any (l : List Rn) (V : Value) (w : World) (hT : RnArg w V l) : Calls Try.prog 25 #[V] w fun e w' => e = .returned (.int .i64 (lgV l)) ∧ Below w.heap.size w w' := by
  have CV := Lib.hid (valid_any l V w hT)
  obtain ⟨A, c, rfl, hA⟩ := hT
  have HA := Lib.hid hA
  clear hA
  cases hv : vl l with
  | false =>
    have HL := Lib.hid (lgV_no (l := l) (by rw [hv]; exact Bool.false_ne_true))
    rw [hv] at CV
    clear hv HA
    go_enter Try.func25, Try.ntmps25
    go_wp2_with (first
      | (go_at_call 23; go_must (refine CV.out.mono ?_; rintro e1 w1 ⟨rfl, b1⟩)))
    go_returns
    exact ⟨ret_int HL.out.symm, b1⟩
  | true =>
    have HL := Lib.hid (lgV_yes hv)
    have HK := Lib.hid hv
    have hn := ((vl_iff l).1 hv).1
    rw [hv] at CV
    clear hv
    go_enter Try.func25, Try.ntmps25
    go_wp2_with (first
      | (go_at_call 23; go_must (refine CV.out.mono ?_; rintro e1 w1 ⟨rfl, b1⟩; have B1 := Lib.hid b1; clear b1)))
    go_loopw [11, 3] (fun i s wr => ∃ j : Nat, j ≤ l.length ∧ i = .int .i64 j ∧ s = .int .i64 (lg (l.take j)) ∧ Hid (Below w.heap.size w wr)) (fun i _ _ => l.length - (intOf i).toNat)
    case atStart => exact ⟨0, Nat.zero_le _, rfl, rfl, B1⟩
    case round =>
      obtain ⟨j, hj, rfl, rfl, HB⟩ := hrel
      have hb := HB.out
      by_cases hjl : j < l.length
      · obtain ⟨g, o, rfl, hg, hc⟩ := HA.out (by omega)
        obtain ⟨a0, a1⟩ := arg_two hc j hjl
        have f0 := (hb.cell (p := ⟨g, o + j * 2, none⟩) hg).trans a0
        have f1 := (hb.cell (p := ⟨g, o + j * 2 + 1, none⟩) hg).trans a1
        have hr := lg_take_range HK.out j
        have hx := el_range HK.out j hjl
        have htk := Lib.hid (lg_take l j hjl)
        clear a0 a1 hc
        have HB2 := Lib.hid (show Below w.heap.size w (wr.alloc (.cells #[.int .i64 l[j].1, .int .i64 l[j].2] 48)) from hb.alloc hb.size _)
        generalize l[j].1 = x0 at *
        generalize l[j].2 = x1 at *
        generalize lg (l.take j) = S at *
        obtain ⟨_, hx1, hx2⟩ := hx
        go_wp2
        go_roundw
        case rel => exact ⟨j + 1, by omega, val_int (by omega), val_int (by rw [htk.out]), HB2⟩
        case measure => simp [intOf]; omega
      · have he : l.take j = l := List.take_of_length_le (by omega)
        rw [he]
        clear he
        go_wp2
        go_returns
        exact ⟨ret_int HL.out.symm, hb⟩

set_option maxRecDepth 20000 in
set_option maxHeartbeats 4000000 in
theorem refLong_any (l : List Rn) (V : Value) (w : World) (hT : RnArg w V l) : Calls Try.prog 39 #[V] w fun e w' => e = .returned (.int .i64 (lgV l)) ∧ w = w' := by
  have CV := Lib.hid (refValid_any l V w hT)
  obtain ⟨A, c, rfl, hA⟩ := hT
  have HA := Lib.hid hA
  clear hA
  cases hv : vl l with
  | false =>
    have HL := Lib.hid (lgV_no (l := l) (by rw [hv]; exact Bool.false_ne_true))
    rw [hv] at CV
    clear hv HA
    go_enter Try.func39, Try.ntmps39
    go_wp2_with (first
      | (go_at_call 22; go_must (refine CV.out.mono ?_; rintro e1 w1 ⟨rfl, rfl⟩)))
    go_returns
    exact ⟨ret_int HL.out.symm, rfl⟩
  | true =>
    have HL := Lib.hid (lgV_yes hv)
    have HK := Lib.hid hv
    have hn := ((vl_iff l).1 hv).1
    rw [hv] at CV
    clear hv
    go_enter Try.func39, Try.ntmps39
    go_wp2_with (first
      | (go_at_call 22; go_must (refine CV.out.mono ?_; rintro e1 w1 ⟨rfl, rfl⟩)))
    go_loop [4, 3] (fun i s => ∃ j : Nat, j ≤ l.length ∧ i = .int .i64 j ∧ s = .int .i64 (lg (l.take j))) (fun i _ => l.length - (intOf i).toNat)
    case atStart => exact ⟨0, Nat.zero_le _, rfl, rfl⟩
    case round =>
      obtain ⟨j, hj, rfl, rfl⟩ := hrel
      by_cases hjl : j < l.length
      · obtain ⟨g, o, rfl, hg, hc⟩ := HA.out (by omega)
        obtain ⟨f0, f1⟩ := arg_two hc j hjl
        have hr := lg_take_range HK.out j
        have hx := el_range HK.out j hjl
        have htk := Lib.hid (lg_take l j hjl)
        clear hc
        generalize l[j].1 = x0 at *
        generalize l[j].2 = x1 at *
        generalize lg (l.take j) = S at *
        obtain ⟨_, hx1, hx2⟩ := hx
        go_wp2
        go_round
        case rel => exact ⟨j + 1, by omega, val_int (by omega), val_int (by rw [htk.out])⟩
        case measure => simp [intOf]; omega
      · have he : l.take j = l := List.take_of_length_le (by omega)
        rw [he]
        clear he
        go_wp2
        go_returns
        exact ⟨ret_int HL.out.symm, rfl⟩

end Go.Proofs.Ytemmljngglnccaa
