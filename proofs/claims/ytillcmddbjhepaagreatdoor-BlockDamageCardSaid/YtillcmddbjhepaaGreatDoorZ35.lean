/-
  The specification's place, part.
-/
import Derived.Test.YtillcmddbjhepaaGreatDoorZ34
import Derived.Test.YtillcmddbjhepaaGreatDoorZ30
namespace Go.Proofs.YtillcmddbjhepaaGreatDoor
open Go Go.RowKit Go.Joins Si
open Go.BigFrame
set_option linter.unusedVariables false
set_option linter.unusedSimpArgs false

set_option maxRecDepth 100000 in
set_option maxHeartbeats 2000000 in
theorem rplace_any (E : List En) (vN vB : Value) (R T b : Nat) (at_ : Int) (w : World) (hB : EnArg w vB E) (hl : E.length ≤ 16384) :
    Calls Tryz.prog 43 #[.agg #[vN, .int .i64 R, .int .i64 T, vB, .int .i64 b], .int .i64 at_] w fun e w' => e = .returned (.int .i64 (plc E at_ E.length)) ∧ Below w.heap.size w w' := by
  obtain ⟨A, c, rfl⟩ := KArg.form hB
  have RB := Lib.hid (RowAt.new w 46 #[vN, .int .i64 R, .int .i64 T, .slice A E.length c, .int .i64 b])
  have KB := Lib.hid (ba w (.cells #[vN, .int .i64 R, .int .i64 T, .slice A E.length c, .int .i64 b] 46))
  have HT := Lib.hid hB
  have hkl : (E.length : Int) ≤ 16384 := by omega
  clear hB
  go_enter Tryz.func43, Tryz.ntmps43
  go_wp2
  go_loopw [5, 6] (fun k i wr => ∃ j m : Nat, j ≤ E.length ∧ k = .int .i64 m ∧ i = .int .i64 j ∧ Hid (m = plc E at_ j) ∧ Hid (RowAt wr w.heap.size 46 #[vN, .int .i64 R, .int .i64 T, .slice A E.length c, .int .i64 b]) ∧ Hid (Below w.heap.size w wr)) (fun _ i _ => E.length - (intOf i).toNat)
  case atStart => exact ⟨0, 0, Nat.zero_le _, rfl, rfl, Lib.hid rfl, RB, KB⟩
  case round =>
    clear RB KB
    obtain ⟨j, m, hj, rfl, rfl, HM, RB, KB⟩ := hrel
    have j3 : wr.cell? ⟨w.heap.size, 3, none⟩ = some (.slice A E.length c) := RB.out.cell 3
    by_cases hlt : j < E.length
    · obtain ⟨g, o, rfl, hg, f0, f1, f2⟩ := enCell HT.out KB.out j hlt
      have hji : (j : Int) < E.length := by omega
      have HP := Lib.hid (show plc E at_ (j + 1) = if ((E[j].1 : Nat) : Int) ≤ at_ then j else plc E at_ j by rw [plc, getD_at hlt])
      have HLT := Lib.hid hlt
      clear f1 f2
      generalize E[j].1 = z at *
      clear hlt
      by_cases hz : (z : Int) ≤ at_
      · have HP2 := Lib.hid (show j = plc E at_ (j + 1) by rw [HP.out, if_pos hz])
        have hz2 : decide ((z : Int) ≤ at_) = true := decide_eq_true hz
        clear HP HM
        go_wp2
        go_roundw
        case rel => exact ⟨j + 1, j, by have := HLT.out; omega, rfl, val_int (by omega), HP2, RB, KB⟩
        case measure => simp [intOf]; have := HLT.out; omega
      · have HP2 := Lib.hid (show m = plc E at_ (j + 1) by rw [HP.out, if_neg hz, HM.out])
        have hz2 : decide ((z : Int) ≤ at_) = false := decide_eq_false hz
        clear HP HM
        go_wp2
        go_roundw
        case rel => exact ⟨j + 1, m, by have := HLT.out; omega, rfl, val_int (by omega), HP2, RB, KB⟩
        case measure => simp [intOf]; have := HLT.out; omega
    · have HF := Lib.hid (show m = plc E at_ E.length by rw [HM.out, show j = E.length by omega])
      have hji : ¬ (j : Int) < E.length := by omega
      clear HM
      go_wp2
      go_returns
      exact ⟨by rw [← HF.out]; rfl, KB.out⟩

theorem sl_takeB (B : Int) (l : List Rn) (j : Nat) (hj : j < l.length) (f t : Int) : sl B (l.take (j + 1)) f t = sl B (l.take j) f t ++ s1 (B + lg (l.take j)) l[j] f t := by
  rw [List.take_succ_eq_append_getElem hj, sl_snoc]

set_option maxRecDepth 100000 in
set_option maxHeartbeats 4000000 in
theorem rpart10_any (L : List Rn) (V : Value) (B F T : Int) (w : World) (hT : RnArg w V L) (hn : L.length ≤ 262144) (hv : ps L) (hB0 : 0 ≤ B) (hB1 : B + lg L ≤ 1099511627776) (hF0 : 0 ≤ F) (hF1 : F ≤ 1099511627776) (hT0 : 0 ≤ T) (hT1 : T ≤ 1099511627776) :
    Calls Tryz.prog 47 #[V, .int .i64 B, .int .i64 F, .int .i64 T] w fun e w' => ∃ v : Value, e = .returned v ∧ RnRow w' w.heap.size v (sl B L F T) ∧ Below w.heap.size w w' := by
  obtain ⟨A, c, rfl, hA⟩ := hT
  have HA := Lib.hid hA
  have HPS := Lib.hid hv
  have HB1 := Lib.hid hB1
  have hn' : (L.length : Int) ≤ 262144 := by omega
  clear hA hv hB1
  go_enter Tryz.func47, Tryz.ntmps47
  go_wp2
  go_loopw [9, 10, 11] (fun r s i wr => ∃ (j : Nat) (S : Int), j ≤ L.length ∧ i = .int .i64 j ∧ s = .int .i64 S ∧ 0 ≤ S ∧ S ≤ 1099511627776 ∧ Hid (S = B + lg (L.take j)) ∧ Hid (RnRow wr w.heap.size r (sl B (L.take j) F T)) ∧ Hid (Below w.heap.size w wr)) (fun _ _ i _ => L.length - (intOf i).toNat)
  case atStart => exact ⟨0, B, Nat.zero_le _, rfl, rfl, hB0, by have := HB1.out; have := ps_nonneg HPS.out; omega, Lib.hid (by simp [lg]), Lib.hid (KRow.lit rnC_size _ _ (Nat.le_refl _) [] #[] rfl 0 rfl (by simp)), Lib.hid (ba _ _)⟩
  case round =>
    obtain ⟨j, S, hj, rfl, rfl, hS0, hS1, HS, HR, HB⟩ := hrel
    have hb := HB.out
    by_cases hjl : j < L.length
    · obtain ⟨g, o, rfl, hg, hc⟩ := HA.out (by omega)
      obtain ⟨a0, a1⟩ := arg_two hc j hjl
      have f0 := (hb.cell (p := ⟨g, o + j * 2, none⟩) hg).trans a0
      have f1 := (hb.cell (p := ⟨g, o + j * 2 + 1, none⟩) hg).trans a1
      have hji : (j : Int) < L.length := by omega
      have htk := lg_take L j hjl
      have hx1 : 1 ≤ L[j].2 := HPS.out _ (List.getElem_mem hjl)
      have hx2 : S + L[j].2 ≤ 1099511627776 := by
        have h1 := lg_split L (j + 1)
        have h2 := ps_nonneg (ps_drop HPS.out (j + 1))
        have := HB1.out; have := HS.out
        omega
      have HSL := Lib.hid (show sl B (L.take (j + 1)) F T = sl B (L.take j) F T ++ s1 (B + lg (L.take j)) (L[j].1, L[j].2) F T from sl_takeB B L j hjl F T)
      rw [← HS.out] at HSL
      have HSN := Lib.hid (show S + L[j].2 = B + lg (L.take (j + 1)) by rw [htk, HS.out]; omega)
      have HLN := Lib.hid (show (sl B (L.take j) F T).length + 1 ≤ 4398046511104 by have h1 := sl_len (L.take j) B F T; rw [List.length_take] at h1; omega)
      clear a0 a1 hc htk HS
      generalize L[j].1 = x0 at *
      generalize L[j].2 = x1 at *
      generalize sl B (L.take j) F T = X at *
      obtain ⟨UA, UN, UC, rfl, hUN⟩ := HR.out.form
      clear hUN
      by_cases c1 : S < F
      · by_cases c2 : T < S + x1
        · have d1 : decide (S < F) = true := decide_eq_true c1
          have d2 : decide (T < S + x1) = true := decide_eq_true c2
          by_cases c3 : F < T
          · have d3 : decide (F < T) = true := decide_eq_true c3
            have HF := Lib.hid (show sl B (L.take (j + 1)) F T = X ++ [(x0, T - F)] by
              rw [HSL.out, s1_yes (by show max S F < min (S + x1) T; omega), show min (S + (x0, x1).2) T - max S F = T - F by show min (S + x1) T - max S F = _; omega])
            have hD0 : 0 ≤ T - F ∧ T - F ≤ 1099511627776 := by omega
            clear HSL
            go_wp2
            go_big_quiet (fail)
            go_wp2_with (first
              | (at_builtin; go_must ((with_reducible refine wpList_append_rn rfl (.tmp 42) (.tmp 52) rfl rfl rfl rfl rfl (HR.out.drewN _) (le_drewN HB.out.size _) HLN.out ?_); intro v5 w5 R5 b5))
              | fail)
            go_roundw
            case rel => exact ⟨j + 1, S + x1, by omega, val_int (by omega), rfl, by omega, hx2, HSN, Lib.hid (by rw [HF.out]; exact R5), Lib.hid ((Go.below_drewN HB.out _).trans b5)⟩
            case measure => simp [intOf]; omega
          · have d3 : decide (F < T) = false := decide_eq_false c3
            have HF := Lib.hid (show sl B (L.take (j + 1)) F T = X by
              rw [HSL.out, s1_no (by show ¬ max S F < min (S + x1) T; omega), List.append_nil])
            clear HSL
            go_wp2
            go_big_quiet (fail)
            go_wp2
            go_roundw
            case rel => exact ⟨j + 1, S + x1, by omega, val_int (by omega), rfl, by omega, hx2, HSN, Lib.hid (by rw [HF.out]; exact HR.out.drewN _), Lib.hid (Go.below_drewN HB.out _)⟩
            case measure => simp [intOf]; omega
        · have d1 : decide (S < F) = true := decide_eq_true c1
          have d2 : decide (T < S + x1) = false := decide_eq_false c2
          by_cases c3 : F < (S + x1)
          · have d3 : decide (F < (S + x1)) = true := decide_eq_true c3
            have HF := Lib.hid (show sl B (L.take (j + 1)) F T = X ++ [(x0, (S + x1) - F)] by
              rw [HSL.out, s1_yes (by show max S F < min (S + x1) T; omega), show min (S + (x0, x1).2) T - max S F = (S + x1) - F by show min (S + x1) T - max S F = _; omega])
            have hD0 : 0 ≤ (S + x1) - F ∧ (S + x1) - F ≤ 1099511627776 := by omega
            clear HSL
            go_wp2
            go_big_quiet (fail)
            go_wp2_with (first
              | (at_builtin; go_must ((with_reducible refine wpList_append_rn rfl (.tmp 42) (.tmp 52) rfl rfl rfl rfl rfl (HR.out.drewN _) (le_drewN HB.out.size _) HLN.out ?_); intro v5 w5 R5 b5))
              | fail)
            go_roundw
            case rel => exact ⟨j + 1, S + x1, by omega, val_int (by omega), rfl, by omega, hx2, HSN, Lib.hid (by rw [HF.out]; exact R5), Lib.hid ((Go.below_drewN HB.out _).trans b5)⟩
            case measure => simp [intOf]; omega
          · have d3 : decide (F < (S + x1)) = false := decide_eq_false c3
            have HF := Lib.hid (show sl B (L.take (j + 1)) F T = X by
              rw [HSL.out, s1_no (by show ¬ max S F < min (S + x1) T; omega), List.append_nil])
            clear HSL
            go_wp2
            go_big_quiet (fail)
            go_wp2
            go_roundw
            case rel => exact ⟨j + 1, S + x1, by omega, val_int (by omega), rfl, by omega, hx2, HSN, Lib.hid (by rw [HF.out]; exact HR.out.drewN _), Lib.hid (Go.below_drewN HB.out _)⟩
            case measure => simp [intOf]; omega
      · by_cases c2 : T < S + x1
        · have d1 : decide (S < F) = false := decide_eq_false c1
          have d2 : decide (T < S + x1) = true := decide_eq_true c2
          by_cases c3 : S < T
          · have d3 : decide (S < T) = true := decide_eq_true c3
            have HF := Lib.hid (show sl B (L.take (j + 1)) F T = X ++ [(x0, T - S)] by
              rw [HSL.out, s1_yes (by show max S F < min (S + x1) T; omega), show min (S + (x0, x1).2) T - max S F = T - S by show min (S + x1) T - max S F = _; omega])
            have hD0 : 0 ≤ T - S ∧ T - S ≤ 1099511627776 := by omega
            clear HSL
            go_wp2
            go_big_quiet (fail)
            go_wp2_with (first
              | (at_builtin; go_must ((with_reducible refine wpList_append_rn rfl (.tmp 42) (.tmp 52) rfl rfl rfl rfl rfl (HR.out.drewN _) (le_drewN HB.out.size _) HLN.out ?_); intro v5 w5 R5 b5))
              | fail)
            go_roundw
            case rel => exact ⟨j + 1, S + x1, by omega, val_int (by omega), rfl, by omega, hx2, HSN, Lib.hid (by rw [HF.out]; exact R5), Lib.hid ((Go.below_drewN HB.out _).trans b5)⟩
            case measure => simp [intOf]; omega
          · have d3 : decide (S < T) = false := decide_eq_false c3
            have HF := Lib.hid (show sl B (L.take (j + 1)) F T = X by
              rw [HSL.out, s1_no (by show ¬ max S F < min (S + x1) T; omega), List.append_nil])
            clear HSL
            go_wp2
            go_big_quiet (fail)
            go_wp2
            go_roundw
            case rel => exact ⟨j + 1, S + x1, by omega, val_int (by omega), rfl, by omega, hx2, HSN, Lib.hid (by rw [HF.out]; exact HR.out.drewN _), Lib.hid (Go.below_drewN HB.out _)⟩
            case measure => simp [intOf]; omega
        · have d1 : decide (S < F) = false := decide_eq_false c1
          have d2 : decide (T < S + x1) = false := decide_eq_false c2
          by_cases c3 : S < (S + x1)
          · have d3 : decide (S < (S + x1)) = true := decide_eq_true c3
            have HF := Lib.hid (show sl B (L.take (j + 1)) F T = X ++ [(x0, (S + x1) - S)] by
              rw [HSL.out, s1_yes (by show max S F < min (S + x1) T; omega), show min (S + (x0, x1).2) T - max S F = (S + x1) - S by show min (S + x1) T - max S F = _; omega])
            have hD0 : 0 ≤ (S + x1) - S ∧ (S + x1) - S ≤ 1099511627776 := by omega
            clear HSL
            go_wp2
            go_big_quiet (fail)
            go_wp2_with (first
              | (at_builtin; go_must ((with_reducible refine wpList_append_rn rfl (.tmp 42) (.tmp 52) rfl rfl rfl rfl rfl (HR.out.drewN _) (le_drewN HB.out.size _) HLN.out ?_); intro v5 w5 R5 b5))
              | fail)
            go_roundw
            case rel => exact ⟨j + 1, S + x1, by omega, val_int (by omega), rfl, by omega, hx2, HSN, Lib.hid (by rw [HF.out]; exact R5), Lib.hid ((Go.below_drewN HB.out _).trans b5)⟩
            case measure => simp [intOf]; omega
          · exact absurd c3 (by omega)
    · have he : L.take j = L := List.take_of_length_le (by omega)
      rw [he] at HR
      clear he HS
      have hji : ¬ (j : Int) < L.length := by omega
      go_wp2
      go_returns
      exact ⟨_, rfl, HR.out, hb⟩

end Go.Proofs.YtillcmddbjhepaaGreatDoor
