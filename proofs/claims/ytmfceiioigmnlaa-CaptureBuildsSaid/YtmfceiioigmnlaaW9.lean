/-
  part, the specification's Part and Clean.
-/
import Derived.Test.YtmfceiioigmnlaaW8
namespace Go.Proofs.Ytmfceiioigmnlaa
open Go Go.RowKit Go.Joins
set_option linter.unusedVariables false
set_option linter.unusedSimpArgs false

theorem prt_lg_le {R : List Rn} {f t : Int} (h : ps R) : lg (prt R f t) ≤ lg R := by
  have := ps_nonneg h
  unfold prt; rw [jn_lg, sl_lg h]; omega
theorem prt_ps (R : List Rn) (f t : Int) : ps (prt R f t) := jn_ps sl_ps
theorem prt_take_len (R : List Rn) (j : Nat) (f t : Int) : (prt (R.take j) f t).length ≤ R.length := by
  have h1 := prt_len (R.take j) f t
  rw [List.length_take] at h1
  omega

set_option maxRecDepth 20000 in
set_option maxHeartbeats 1000000 in
theorem put_no (o : List Rn) (B : Nat) (V : Value) (X D : Int) (w : World) (hR : RnRow w B V o) (hB : B ≤ w.heap.size) (hD : D < 1) :
    Calls Try.prog 41 #[V, .agg #[.int .i64 X, .int .i64 D]] w fun e w' => ∃ v : Value, e = .returned v ∧ RnRow w' B v o ∧ Below B w w' := by
  have HR := Lib.hid (hR.alloc (.cells #[.int .i64 X, .int .i64 D] 49))
  obtain ⟨A, n, c, rfl, hn0⟩ := hR.form
  clear hR
  go_enter Try.func41, Try.ntmps41
  go_wp2
  go_returns
  exact ⟨_, rfl, HR.out, (ba w _).mono hB⟩

set_option maxRecDepth 20000 in
set_option maxHeartbeats 8000000 in
theorem part_any (m : Int) (R : List Rn) (V : Value) (F T : Int) (w : World) (hT : RnArg w V R) (hn : R.length ≤ 262144) (hv : vr m 0 R = true) (hF0 : 0 ≤ F) (hF1 : F ≤ 1099511627776) (hT0 : 0 ≤ T) (hT1 : T ≤ 1099511627776) :
    Calls Try.prog 43 #[V, .int .i64 F, .int .i64 T] w fun e w' => ∃ v : Value, e = .returned v ∧ RnRow w' w.heap.size v (prt R F T) ∧ Below w.heap.size w w' := by
  obtain ⟨A, c, rfl, hA⟩ := hT
  have HA := Lib.hid hA
  have HV := Lib.hid hv
  have hps := ((vr_iff m R 0 (by omega)).1 hv).2.1
  have HPS := Lib.hid hps
  have hn' : (R.length : Int) ≤ 262144 := by omega
  clear hA hv hps
  go_enter Try.func43, Try.ntmps43
  go_wp2
  go_loopw [16, 7, 8] (fun i r s wr => ∃ j : Nat, j ≤ R.length ∧ i = .int .i64 j ∧ s = .int .i64 (lg (R.take j)) ∧ Hid (RnRow wr w.heap.size r (prt (R.take j) F T)) ∧ Hid (Below w.heap.size w wr)) (fun i _ _ _ => R.length - (intOf i).toNat)
  case atStart => exact ⟨0, Nat.zero_le _, rfl, rfl, Lib.hid (KRow.nil _ _), Lib.hid (Below.refl _ _)⟩
  case round =>
    obtain ⟨j, hj, rfl, rfl, HR, HB⟩ := hrel
    have hb := HB.out
    by_cases hjl : j < R.length
    · obtain ⟨g, o, rfl, hg, hc⟩ := HA.out (by omega)
      obtain ⟨a0, a1⟩ := arg_two hc j hjl
      have f0 := (hb.cell (p := ⟨g, o + j * 2, none⟩) hg).trans a0
      have f1 := (hb.cell (p := ⟨g, o + j * 2 + 1, none⟩) hg).trans a1
      have hr := lg_take_range HV.out j
      have hx := el_range HV.out j hjl
      have hle := prt_lg_le (f := F) (t := T) (ps_take HPS.out (j + 1))
      have hr2 := lg_take_range HV.out (j + 1)
      have htk := Lib.hid (lg_take R j hjl)
      have hsl := prt_take_len R j F T
      have hpe := prt_ps (R.take j) F T
      have hY : max (lg (R.take j)) F < min (lg (R.take j) + R[j].2) T → prt (R.take (j + 1)) F T = pt (prt (R.take j) F T) (R[j].1, min (lg (R.take j) + R[j].2) T - max (lg (R.take j)) F) := fun h => prt_yes hjl h
      have hN : ¬ max (lg (R.take j)) F < min (lg (R.take j) + R[j].2) T → prt (R.take (j + 1)) F T = prt (R.take j) F T := fun h => prt_no hjl h
      have HB2 := Lib.hid (show Below w.heap.size w (wr.alloc (.cells #[.int .i64 R[j].1, .int .i64 R[j].2] 49)) from hb.alloc hb.size _)
      have HR2 := Lib.hid (show RnRow (wr.alloc (.cells #[.int .i64 R[j].1, .int .i64 R[j].2] 49)) w.heap.size _ (prt (R.take j) F T) from HR.out.alloc _)
      clear a0 a1 hc
      generalize R[j].1 = x0 at *
      generalize R[j].2 = x1 at *
      generalize lg (R.take j) = S at *
      generalize prt (R.take j) F T = E at *
      obtain ⟨_, hx1, hx2⟩ := hx
      have hS1 : ∀ lo hi : Int, max S F = lo → min (S + x1) T = hi → (lo < hi → Hid (prt (R.take (j + 1)) F T = pt E (x0, hi - lo)) ∧ lg E + (hi - lo) ≤ 1099511627776) ∧ (¬ lo < hi → Hid (prt (R.take (j + 1)) F T = E)) := by
        intro lo hi e1 e2
        rw [e1, e2] at hY hN
        refine ⟨fun h => ⟨Lib.hid (hY h), ?_⟩, fun h => Lib.hid (hN h)⟩
        have := hY h
        rw [this, pt_lg] at hle
        simp only at hle
        omega
      clear hY hN hle
      obtain ⟨UA, UN, UC, rfl, hUN⟩ := HR.out.form
      clear hUN
      have HE := Lib.hid hpe
      have CL : Hid (∀ X D w', RnRow w' w.heap.size (.slice UA UN UC) E → w.heap.size ≤ w'.heap.size → 0 ≤ D → lg E + D ≤ 1099511627776 → Calls Try.prog 38 #[.slice UA UN UC, .int .i64 X, .int .i64 D] w' fun e w'' => ∃ v : Value, e = .returned v ∧ RnRow w'' w.heap.size v (pt E (X, D)) ∧ Below w.heap.size w' w'') := Lib.hid (fun X D w' h1 h2 h3 h4 => lengthened_any E w.heap.size _ X D w' h1 h2 HE.out h3 h4 (by omega))
      clear hpe hr2
      obtain ⟨hy, hz⟩ := hS1 _ _ rfl rfl
      clear hS1
      have hm0 : 0 ≤ max S F ∧ max S F ≤ 1099511627776 := by omega
      have hm1 : 0 ≤ min (S + x1) T ∧ min (S + x1) T ≤ 1099511627776 := by omega
      by_cases hlt : max S F < min (S + x1) T
      · obtain ⟨HST, hld⟩ := hy hlt
        have HLD := Lib.hid hld
        have HD := Lib.hid (show 0 ≤ min (S + x1) T - max S F by omega)
        clear hy hz hld
        go_wp2_with (first
          | (go_at_call 38; go_must (refine (CL.out _ _ _ HR2.out HB2.out.size HD.out HLD.out).mono ?_; rintro e5 w5 ⟨v5, rfl, r5, b5⟩; have R5 := Lib.hid r5; have B5 := Lib.hid (HB2.out.trans b5); clear r5 b5)))
        go_roundw
        case rel => exact ⟨j + 1, by omega, val_int (by omega), val_int (by rw [htk.out]), Lib.hid (by rw [HST.out]; exact R5.out), B5⟩
        case measure => simp [intOf]; omega
      · have HST := hz hlt
        clear hy hz
        go_wp2
        go_roundw
        case rel => exact ⟨j + 1, by omega, val_int (by omega), val_int (by rw [htk.out]), Lib.hid (by rw [HST.out]; exact HR2.out), HB2⟩
        case measure => simp [intOf]; omega
    · have he : R.take j = R := List.take_of_length_le (by omega)
      rw [he] at HR
      clear he
      go_wp2
      go_returns
      exact ⟨_, rfl, HR.out, hb⟩

set_option maxRecDepth 20000 in
set_option maxHeartbeats 8000000 in
theorem rpart_any (m : Int) (R : List Rn) (V : Value) (F T : Int) (w : World) (hT : RnArg w V R) (hn : R.length ≤ 262144) (hv : vr m 0 R = true) (hF0 : 0 ≤ F) (hF1 : F ≤ 1099511627776) (hT0 : 0 ≤ T) (hT1 : T ≤ 1099511627776) :
    Calls Try.prog 44 #[V, .int .i64 F, .int .i64 T] w fun e w' => ∃ v : Value, e = .returned v ∧ RnRow w' w.heap.size v (prt R F T) ∧ Below w.heap.size w w' := by
  obtain ⟨A, c, rfl, hA⟩ := hT
  have HA := Lib.hid hA
  have HV := Lib.hid hv
  have hps := ((vr_iff m R 0 (by omega)).1 hv).2.1
  have HPS := Lib.hid hps
  have hn' : (R.length : Int) ≤ 262144 := by omega
  clear hA hv hps
  have R0 := Lib.hid (KRow.lit (T := 49) rnC_size w w.heap.size (Nat.le_refl _) [] #[] rfl 0 rfl (by decide))
  have B0 := Lib.hid (ba w (.cells #[] 49))
  go_enter Try.func44, Try.ntmps44
  go_wp2
  go_loopw [9, 7, 8] (fun i r s wr => ∃ j : Nat, j ≤ R.length ∧ i = .int .i64 j ∧ s = .int .i64 (lg (R.take j)) ∧ Hid (RnRow wr w.heap.size r (prt (R.take j) F T)) ∧ Hid (Below w.heap.size w wr)) (fun i _ _ _ => R.length - (intOf i).toNat)
  case atStart => exact ⟨0, Nat.zero_le _, rfl, rfl, R0, B0⟩
  case round =>
    obtain ⟨j, hj, rfl, rfl, HR, HB⟩ := hrel
    have hb := HB.out
    by_cases hjl : j < R.length
    · obtain ⟨g, o, rfl, hg, hc⟩ := HA.out (by omega)
      obtain ⟨a0, a1⟩ := arg_two hc j hjl
      have HF := Lib.hid (fun w' (hb' : Below w.heap.size w w') => And.intro ((hb'.cell (p := ⟨g, o + j * 2, none⟩) hg).trans a0) ((hb'.cell (p := ⟨g, o + j * 2 + 1, none⟩) hg).trans a1))
      have f0 := (hb.cell (p := ⟨g, o + j * 2, none⟩) hg).trans a0
      have f1 := (hb.cell (p := ⟨g, o + j * 2 + 1, none⟩) hg).trans a1
      have hr := lg_take_range HV.out j
      have hx := el_range HV.out j hjl
      have hle := prt_lg_le (f := F) (t := T) (ps_take HPS.out (j + 1))
      have hr2 := lg_take_range HV.out (j + 1)
      have htk := Lib.hid (lg_take R j hjl)
      have hsl := prt_take_len R j F T
      have hpe := prt_ps (R.take j) F T
      have hY : max (lg (R.take j)) F < min (lg (R.take j) + R[j].2) T → prt (R.take (j + 1)) F T = pt (prt (R.take j) F T) (R[j].1, min (lg (R.take j) + R[j].2) T - max (lg (R.take j)) F) := fun h => prt_yes hjl h
      have hN : ¬ max (lg (R.take j)) F < min (lg (R.take j) + R[j].2) T → prt (R.take (j + 1)) F T = prt (R.take j) F T := fun h => prt_no hjl h
      clear a0 a1 hc
      generalize R[j].1 = x0 at *
      generalize R[j].2 = x1 at *
      generalize lg (R.take j) = S at *
      generalize prt (R.take j) F T = E at *
      obtain ⟨_, hx1, hx2⟩ := hx
      have hS1 : ∀ lo hi : Int, max S F = lo → min (S + x1) T = hi → (lo < hi → Hid (prt (R.take (j + 1)) F T = pt E (x0, hi - lo)) ∧ lg E + (hi - lo) ≤ 1099511627776) ∧ (¬ lo < hi → Hid (prt (R.take (j + 1)) F T = E)) := by
        intro lo hi e1 e2
        rw [e1, e2] at hY hN
        refine ⟨fun h => ⟨Lib.hid (hY h), ?_⟩, fun h => Lib.hid (hN h)⟩
        have := hY h
        rw [this, pt_lg] at hle
        simp only at hle
        omega
      clear hY hN hle
      obtain ⟨UA, UN, UC, rfl, hUN⟩ := HR.out.form
      clear hUN
      have HE := Lib.hid hpe
      have CL : Hid (∀ X D w', RnRow w' w.heap.size (.slice UA UN UC) E → w.heap.size ≤ w'.heap.size → 1 ≤ D → lg E + D ≤ 1099511627776 → Calls Try.prog 41 #[.slice UA UN UC, .agg #[.int .i64 X, .int .i64 D]] w' fun e w'' => ∃ v : Value, e = .returned v ∧ RnRow w'' w.heap.size v (pt E (X, D)) ∧ Below w.heap.size w' w'') := Lib.hid (fun X D w' h1 h2 h3 h4 => put_any E w.heap.size _ X D w' h1 h2 HE.out h3 h4 (by omega))
      have CM : Hid (∀ X D w', RnRow w' w.heap.size (.slice UA UN UC) E → w.heap.size ≤ w'.heap.size → D < 1 → Calls Try.prog 41 #[.slice UA UN UC, .agg #[.int .i64 X, .int .i64 D]] w' fun e w'' => ∃ v : Value, e = .returned v ∧ RnRow w'' w.heap.size v E ∧ Below w.heap.size w' w'') := Lib.hid (fun X D w' h1 h2 h3 => put_no E w.heap.size _ X D w' h1 h2 h3)
      clear hpe hr2
      have v1 : IntKind.i64.wrap (S + x1) = S + x1 := IntWalk.i64_in _ (by omega)
      by_cases hF : S < F
      · by_cases hT : T < S + x1
        · obtain ⟨hy, hz⟩ := hS1 F T (by omega) (by omega)
          clear hS1
          by_cases hlt : F < T
          · obtain ⟨HST, hld⟩ := hy hlt
            have HLD := Lib.hid hld
            have HD := Lib.hid (show 1 ≤ T - F by omega)
            clear hy hz hld
            go_wp2
            go_quiet (fail)
            have HBq := Lib.hid (Go.below_drewN hb nq)
            have HRq := Lib.hid (KRow.drewN HR.out nq)
            obtain ⟨f2, f3⟩ := HF.out _ HBq.out
            generalize wr.drewN nq = W at *
            go_wp2_with (first
              | (go_at_call 41; go_must (refine (CL.out _ _ _ HRq.out HBq.out.size HD.out HLD.out).mono ?_; rintro e5 w5 ⟨v5, rfl, r5, b5⟩; have R5 := Lib.hid r5; have B5 := Lib.hid (HBq.out.trans b5); clear r5 b5; obtain ⟨f4, f5⟩ := HF.out _ B5.out)))
            go_roundw
            case rel => exact ⟨j + 1, by omega, val_int (by omega), val_int (by rw [htk.out]), Lib.hid (by rw [HST.out]; exact R5.out), B5⟩
            case measure => simp [intOf]; omega
          · have HST := hz hlt
            have HD := Lib.hid (show T - F < 1 by omega)
            clear hy hz
            go_wp2
            go_quiet (fail)
            have HBq := Lib.hid (Go.below_drewN hb nq)
            have HRq := Lib.hid (KRow.drewN HR.out nq)
            obtain ⟨f2, f3⟩ := HF.out _ HBq.out
            generalize wr.drewN nq = W at *
            go_wp2_with (first
              | (go_at_call 41; go_must (refine (CM.out _ _ _ HRq.out HBq.out.size HD.out).mono ?_; rintro e5 w5 ⟨v5, rfl, r5, b5⟩; have R5 := Lib.hid r5; have B5 := Lib.hid (HBq.out.trans b5); clear r5 b5; obtain ⟨f4, f5⟩ := HF.out _ B5.out)))
            go_roundw
            case rel => exact ⟨j + 1, by omega, val_int (by omega), val_int (by rw [htk.out]), Lib.hid (by rw [HST.out]; exact R5.out), B5⟩
            case measure => simp [intOf]; omega
        · obtain ⟨hy, hz⟩ := hS1 F (S + x1) (by omega) (by omega)
          clear hS1
          by_cases hlt : F < (S + x1)
          · obtain ⟨HST, hld⟩ := hy hlt
            have HLD := Lib.hid hld
            have HD := Lib.hid (show 1 ≤ (S + x1) - F by omega)
            clear hy hz hld
            go_wp2
            go_quiet (fail)
            have HBq := Lib.hid (Go.below_drewN hb nq)
            have HRq := Lib.hid (KRow.drewN HR.out nq)
            obtain ⟨f2, f3⟩ := HF.out _ HBq.out
            generalize wr.drewN nq = W at *
            go_wp2_with (first
              | (go_at_call 41; go_must (refine (CL.out _ _ _ HRq.out HBq.out.size HD.out HLD.out).mono ?_; rintro e5 w5 ⟨v5, rfl, r5, b5⟩; have R5 := Lib.hid r5; have B5 := Lib.hid (HBq.out.trans b5); clear r5 b5; obtain ⟨f4, f5⟩ := HF.out _ B5.out)))
            go_roundw
            case rel => exact ⟨j + 1, by omega, val_int (by omega), val_int (by rw [htk.out]), Lib.hid (by rw [HST.out]; exact R5.out), B5⟩
            case measure => simp [intOf]; omega
          · have HST := hz hlt
            have HD := Lib.hid (show (S + x1) - F < 1 by omega)
            clear hy hz
            go_wp2
            go_quiet (fail)
            have HBq := Lib.hid (Go.below_drewN hb nq)
            have HRq := Lib.hid (KRow.drewN HR.out nq)
            obtain ⟨f2, f3⟩ := HF.out _ HBq.out
            generalize wr.drewN nq = W at *
            go_wp2_with (first
              | (go_at_call 41; go_must (refine (CM.out _ _ _ HRq.out HBq.out.size HD.out).mono ?_; rintro e5 w5 ⟨v5, rfl, r5, b5⟩; have R5 := Lib.hid r5; have B5 := Lib.hid (HBq.out.trans b5); clear r5 b5; obtain ⟨f4, f5⟩ := HF.out _ B5.out)))
            go_roundw
            case rel => exact ⟨j + 1, by omega, val_int (by omega), val_int (by rw [htk.out]), Lib.hid (by rw [HST.out]; exact R5.out), B5⟩
            case measure => simp [intOf]; omega
      · by_cases hT : T < S + x1
        · obtain ⟨hy, hz⟩ := hS1 S T (by omega) (by omega)
          clear hS1
          by_cases hlt : S < T
          · obtain ⟨HST, hld⟩ := hy hlt
            have HLD := Lib.hid hld
            have HD := Lib.hid (show 1 ≤ T - S by omega)
            clear hy hz hld
            go_wp2
            go_quiet (fail)
            have HBq := Lib.hid (Go.below_drewN hb nq)
            have HRq := Lib.hid (KRow.drewN HR.out nq)
            obtain ⟨f2, f3⟩ := HF.out _ HBq.out
            generalize wr.drewN nq = W at *
            go_wp2_with (first
              | (go_at_call 41; go_must (refine (CL.out _ _ _ HRq.out HBq.out.size HD.out HLD.out).mono ?_; rintro e5 w5 ⟨v5, rfl, r5, b5⟩; have R5 := Lib.hid r5; have B5 := Lib.hid (HBq.out.trans b5); clear r5 b5; obtain ⟨f4, f5⟩ := HF.out _ B5.out)))
            go_roundw
            case rel => exact ⟨j + 1, by omega, val_int (by omega), val_int (by rw [htk.out]), Lib.hid (by rw [HST.out]; exact R5.out), B5⟩
            case measure => simp [intOf]; omega
          · have HST := hz hlt
            have HD := Lib.hid (show T - S < 1 by omega)
            clear hy hz
            go_wp2
            go_quiet (fail)
            have HBq := Lib.hid (Go.below_drewN hb nq)
            have HRq := Lib.hid (KRow.drewN HR.out nq)
            obtain ⟨f2, f3⟩ := HF.out _ HBq.out
            generalize wr.drewN nq = W at *
            go_wp2_with (first
              | (go_at_call 41; go_must (refine (CM.out _ _ _ HRq.out HBq.out.size HD.out).mono ?_; rintro e5 w5 ⟨v5, rfl, r5, b5⟩; have R5 := Lib.hid r5; have B5 := Lib.hid (HBq.out.trans b5); clear r5 b5; obtain ⟨f4, f5⟩ := HF.out _ B5.out)))
            go_roundw
            case rel => exact ⟨j + 1, by omega, val_int (by omega), val_int (by rw [htk.out]), Lib.hid (by rw [HST.out]; exact R5.out), B5⟩
            case measure => simp [intOf]; omega
        · obtain ⟨hy, hz⟩ := hS1 S (S + x1) (by omega) (by omega)
          clear hS1
          by_cases hlt : S < (S + x1)
          · obtain ⟨HST, hld⟩ := hy hlt
            have HLD := Lib.hid hld
            have HD := Lib.hid (show 1 ≤ (S + x1) - S by omega)
            clear hy hz hld
            go_wp2
            go_quiet (fail)
            have HBq := Lib.hid (Go.below_drewN hb nq)
            have HRq := Lib.hid (KRow.drewN HR.out nq)
            obtain ⟨f2, f3⟩ := HF.out _ HBq.out
            generalize wr.drewN nq = W at *
            go_wp2_with (first
              | (go_at_call 41; go_must (refine (CL.out _ _ _ HRq.out HBq.out.size HD.out HLD.out).mono ?_; rintro e5 w5 ⟨v5, rfl, r5, b5⟩; have R5 := Lib.hid r5; have B5 := Lib.hid (HBq.out.trans b5); clear r5 b5; obtain ⟨f4, f5⟩ := HF.out _ B5.out)))
            go_roundw
            case rel => exact ⟨j + 1, by omega, val_int (by omega), val_int (by rw [htk.out]), Lib.hid (by rw [HST.out]; exact R5.out), B5⟩
            case measure => simp [intOf]; omega
          · exact absurd (show S < S + x1 by omega) hlt
    · have he : R.take j = R := List.take_of_length_le (by omega)
      rw [he] at HR
      clear he
      go_wp2
      go_returns
      exact ⟨_, rfl, HR.out, hb⟩

set_option maxRecDepth 20000 in
set_option maxHeartbeats 4000000 in
theorem rclean_any (m : Int) (R : List Rn) (V : Value) (w : World) (hT : RnArg w V R) (hn : R.length ≤ 262144) (hv : vr m 0 R = true) :
    Calls Try.prog 51 #[V] w fun e w' => ∃ v : Value, e = .returned v ∧ RnRow w' w.heap.size v (jn R) ∧ Below w.heap.size w w' := by
  obtain ⟨A, c, rfl, hA⟩ := hT
  have HA := Lib.hid hA
  have HV := Lib.hid hv
  have hps := ((vr_iff m R 0 (by omega)).1 hv).2.1
  have HPS := Lib.hid hps
  have hn' : (R.length : Int) ≤ 262144 := by omega
  clear hA hv hps
  have R0 := Lib.hid (KRow.lit (T := 49) rnC_size w w.heap.size (Nat.le_refl _) [] #[] rfl 0 rfl (by decide))
  have B0 := Lib.hid (ba w (.cells #[] 49))
  go_enter Try.func51, Try.ntmps51
  go_wp2
  go_loopw [4, 3] (fun i r wr => ∃ j : Nat, j ≤ R.length ∧ i = .int .i64 j ∧ Hid (RnRow wr w.heap.size r (jn (R.take j))) ∧ Hid (Below w.heap.size w wr)) (fun i _ _ => R.length - (intOf i).toNat)
  case atStart => exact ⟨0, Nat.zero_le _, rfl, R0, B0⟩
  case round =>
    obtain ⟨j, hj, rfl, HR, HB⟩ := hrel
    have hb := HB.out
    by_cases hjl : j < R.length
    · obtain ⟨g, o, rfl, hg, hc⟩ := HA.out (by omega)
      obtain ⟨a0, a1⟩ := arg_two hc j hjl
      have f0 := (hb.cell (p := ⟨g, o + j * 2, none⟩) hg).trans a0
      have f1 := (hb.cell (p := ⟨g, o + j * 2 + 1, none⟩) hg).trans a1
      have hx := el_range HV.out j hjl
      have hr2 := lg_take_range HV.out (j + 1)
      have HST : Hid (jn (R.take (j + 1)) = pt (jn (R.take j)) (R[j].1, R[j].2)) := Lib.hid (jn_take R j hjl)
      have hl : lg (jn (R.take j)) + R[j].2 ≤ 1099511627776 := by
        have h1 := jn_lg (R.take (j + 1))
        rw [jn_take R j hjl, pt_lg] at h1
        omega
      have hlen := jn_len (R.take j)
      rw [List.length_take] at hlen
      have CL : Hid (∀ V w', RnRow w' w.heap.size V (jn (R.take j)) → w.heap.size ≤ w'.heap.size → Calls Try.prog 41 #[V, .agg #[.int .i64 R[j].1, .int .i64 R[j].2]] w' fun e w'' => ∃ v : Value, e = .returned v ∧ RnRow w'' w.heap.size v (pt (jn (R.take j)) (R[j].1, R[j].2)) ∧ Below w.heap.size w' w'') := Lib.hid (fun V w' h1 h2 => put_any _ w.heap.size V _ _ w' h1 h2 (jn_ps (ps_take HPS.out j)) hx.2.1 hl (by omega))
      clear a0 a1 hc hl hlen hr2
      generalize R[j].1 = x0 at *
      generalize R[j].2 = x1 at *
      obtain ⟨_, hx1, hx2⟩ := hx
      obtain ⟨UA, UN, UC, rfl, hUN⟩ := HR.out.form
      clear hUN
      go_wp2_with (first
        | (go_at_call 41; go_must (refine (CL.out _ _ HR.out HB.out.size).mono ?_; rintro e5 w5 ⟨v5, rfl, r5, b5⟩; have R5 := Lib.hid r5; have B5 := Lib.hid (HB.out.trans b5); clear r5 b5)))
      go_roundw
      case rel => exact ⟨j + 1, by omega, val_int (by omega), Lib.hid (by rw [HST.out]; exact R5.out), B5⟩
      case measure => simp [intOf]; omega
    · have he : R.take j = R := List.take_of_length_le (by omega)
      rw [he] at HR
      clear he
      go_wp2
      go_returns
      exact ⟨_, rfl, HR.out, hb⟩

end Go.Proofs.Ytmfceiioigmnlaa
