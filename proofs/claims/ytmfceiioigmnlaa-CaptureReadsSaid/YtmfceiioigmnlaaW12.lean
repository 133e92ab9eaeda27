/-
  The specification's Edges.
-/
import Derived.Test.YtmfceiioigmnlaaW11
namespace Go.Proofs.Ytmfceiioigmnlaa
open Go Go.RowKit Go.Joins
set_option linter.unusedVariables false
set_option linter.unusedSimpArgs false

set_option maxRecDepth 20000 in
set_option maxHeartbeats 8000000 in
theorem redges_any (N : List ByteArray) (R : List Rn) (vN vR : Value) (w : World) (hN : NmArg w vN N) (hs : szs N) (hR : RnArg w vR R) (hn : R.length ≤ 1099511627776) :
    Calls Try.prog 25 #[.agg #[vN, vR]] w fun e w' => ∃ v : Value, e = .returned v ∧ EdRow w' w.heap.size v (edC N R) ∧ Below w.heap.size w w' := by
  have HK := Lib.hid (fun w' (hb : Below w.heap.size w w') => good_any N R vN vR w' (hN.keep hb) hs (hR.keep hb) hn)
  obtain ⟨A1, c1, rfl, hA1, hA1'⟩ := hN.form
  obtain ⟨A2, c2, rfl, hA⟩ := hR
  have HA := Lib.hid hA
  clear hA1' hN hA1 hs hA
  have B0 := Lib.hid (ba w (.cells #[.slice A1 N.length c1, .slice A2 R.length c2] 25))
  have S0 := World.size_alloc w (.cells #[.slice A1 N.length c1, .slice A2 R.length c2] 25)
  have P0 := Lib.hid ((RowAt.new w 25 #[.slice A1 N.length c1, .slice A2 R.length c2]))
  have HL := Lib.hid (fun (W : World) (h : w.heap.size + 1 ≤ W.heap.size) => KRow.lit (T := 43) edE_size W (w.heap.size + 1) h [] #[] rfl 0 rfl (by decide))
  by_cases hz : ckC N R = 0
  · obtain ⟨hn2, _, hl0, hl16, _, hv⟩ := ckC_ok hz
    have HV := Lib.hid hv
    have hmk := mk_range hl16
    rw [decide_eq_true hz] at HK
    rw [edC_yes hz]
    clear hz hv
    have B2 := Lib.hid (B0.out.alloc (by omega) (.cells #[] 43))
    have R2 := Lib.hid (HL.out (w.alloc (.cells #[.slice A1 N.length c1, .slice A2 R.length c2] 25)) (by omega))
    have P2 := Lib.hid (P0.out.alloc (.cells #[] 43))
    rw [S0] at R2
    clear S0
    go_enter Try.func25, Try.ntmps25
    go_wp2_with (first
      | (go_at_call 30; go_must (refine (HK.out _ B2.out).mono ?_; rintro e1 w1 ⟨rfl, b1⟩; have B1 := Lib.hid (B2.out.trans (b1.mono B2.out.size)); have R1 := Lib.hid (KRow.keep R2.out b1); have P1 := Lib.hid (P2.out.keep b1); clear b1)))
    have hbox : w.heap.size < w1.heap.size := P1.out.lt
    go_loopw [5, 4, 3] (fun i s v wr => ∃ (j : Nat) (E : List Ed), (j + 1 ≤ R.length ∨ j = 0) ∧ i = .int .i64 ((j : Int) + 1) ∧ s = .int .i64 (lg (R.take j)) ∧ E.length ≤ 16 * j ∧ Hid (0 < R.length → E ++ rs N.length R (j + 1) = edg N.length R) ∧ Hid (EdRow wr (w.heap.size + 1) v E) ∧ Hid (Below (w.heap.size + 1) w1 wr) ∧ Hid (Below w.heap.size w wr)) (fun i _ _ _ => R.length - (intOf i).toNat)
    case atStart => exact ⟨0, [], Or.inr rfl, rfl, rfl, by simp, Lib.hid (fun h => by rw [rs_one h]; rfl), R1, Lib.hid (Below.refl _ _), B1⟩
    case round =>
      obtain ⟨i, E, hj, rfl, rfl, hEl, HE, HR, HC, HB⟩ := hrel
      have hb := HB.out
      have PR := P1.out.below HC.out (Nat.lt_succ_self _)
      have q0 := PR.cell 0
      have q1 := PR.cell 1
      have hCs := HC.out.size
      by_cases hjl : i + 1 < R.length
      · obtain ⟨g, o, rfl, hg, hc⟩ := HA.out (by omega)
        obtain ⟨a0, a1⟩ := arg_two hc (i + 1) hjl
        obtain ⟨a2, a3⟩ := arg_two hc i (by omega)
        have HF := Lib.hid (fun w' (hb' : Below w.heap.size w w') => And.intro ((hb'.cell (p := ⟨g, o + (i + 1) * 2, none⟩) hg).trans a0) (And.intro ((hb'.cell (p := ⟨g, o + i * 2, none⟩) hg).trans a2) ((hb'.cell (p := ⟨g, o + i * 2 + 1, none⟩) hg).trans a3)))
        obtain ⟨f0, f2, f3⟩ := HF.out wr hb
        have hx := el_range HV.out (i + 1) hjl
        have hy := el_range HV.out i (by omega)
        have hr := lg_take_range HV.out i
        have hr2 := lg_take_range HV.out (i + 1)
        have htk := lg_take R i (by omega)
        rw [htk] at hr2
        have hE := HE.out (by omega)
        rw [rs_step hjl, htk] at hE
        have HT := Lib.hid htk
        have HE0 := Lib.hid hE
        clear a0 a1 a2 a3 hc hE HE htk
        generalize R[i + 1].1 = x0 at *
        generalize R[i].1 = y0 at *
        generalize R[i].2 = y1 at *
        generalize lg (R.take i) = S at *
        have hij : i + 1 < R.length := hjl
        have hi1 : (i : Int) + 1 < R.length := by omega
        have hi2 : (i : Int) < R.length := by omega
        go_wp2
        obtain ⟨wo, rfl⟩ : ∃ wo : World, wo = wr := ⟨_, rfl⟩
        go_loopw [6, 3] (fun i' v wr => ∃ (k : Nat) (F : List Ed), k ≤ N.length ∧ i' = .int .i64 k ∧ F.length ≤ 16 * i + k ∧ Hid (F ++ (cg y0 x0 (S + y1) k (N.length - k) ++ rs N.length R (i + 2)) = edg N.length R) ∧ Hid (EdRow wr (w.heap.size + 1) v F) ∧ Hid (Below (w.heap.size + 1) w1 wr) ∧ Hid (Below w.heap.size w wr)) (fun i' _ _ => N.length - (intOf i').toNat)
        case atStart => exact ⟨0, E, Nat.zero_le _, rfl, by omega, HE0, HR, HC, HB⟩
        case round =>
          obtain ⟨k, F, hk, rfl, hFl, HF0, HR, HC, HB⟩ := hrel
          have hb := HB.out
          have PR := P1.out.below HC.out (Nat.lt_succ_self _)
          have q0 := PR.cell 0
          have q1 := PR.cell 1
          have hCs := HC.out.size
          obtain ⟨f0, f2, f3⟩ := HF.out wr hb
          by_cases hkn : k < N.length
          · have hE := HF0.out
            rw [show N.length - k = (N.length - (k + 1)) + 1 by omega, cg_succ] at hE
            have e1 := shr_and2 x0 k hx.1.1 (by omega)
            have e2 := shr_and2 y0 k hy.1.1 (by omega)
            have v1 : IntKind.i64.wrap (i : Int) = i := IntWalk.i64_in _ (by omega)
            by_cases hab : bt y0 k = bt x0 k
            · rw [if_pos hab, List.nil_append] at hE
              have HE2 := Lib.hid hE
              rw [hab] at e2
              clear hE hab
              generalize bt x0 k = z at *
              go_wp2
              go_quiet (fail)
              have HBq := Lib.hid (Go.below_drewN hb nq); have HRq := Lib.hid (KRow.drewN HR.out nq); have HCq := Lib.hid (Go.below_drewN HC.out nq)
              go_wp2
              go_roundw
              case rel => exact ⟨k + 1, F, by omega, by go_num, by omega, HE2, HRq, HCq, HBq⟩
              case measure => simp [intOf]; omega
            · rw [if_neg hab] at hE
              have HE2 : Hid ((F ++ [(S + y1, ((k : Nat) : Int), bt x0 k)]) ++ (cg y0 x0 (S + y1) (k + 1) (N.length - (k + 1)) ++ rs N.length R (i + 2)) = edg N.length R) := Lib.hid (by rw [← hE]; simp)
              have hne : (bt y0 k == bt x0 k) = false := by simpa using hab
              clear hE hab
              generalize bt x0 k = z at *
              generalize bt y0 k = y at *
              obtain ⟨UA, UN, UC, rfl, hUN⟩ := HR.out.form
              clear hUN
              go_wp2
              go_quiet (fail)
              have HBq := Lib.hid (Go.below_drewN hb nq); have HRq := Lib.hid (KRow.drewN HR.out nq); have HCq := Lib.hid (Go.below_drewN HC.out nq)
              have HSq := Lib.hid (show w.heap.size + 1 ≤ (wr.drewN nq).heap.size from Nat.le_trans hbox hCs)
              generalize wr.drewN nq = W at *
              go_wp2_with (first
                | (at_builtin; go_must (refine wpList_append_ed rfl _ _ rfl rfl rfl rfl rfl HRq.out HSq.out (by omega) ?_; intro v7 w7 r7 b7 k7; have R7 := Lib.hid r7; have C7 := Lib.hid (HCq.out.trans b7); have B7 := Lib.hid (HBq.out.trans (b7.mono (Nat.le_succ _))); clear r7 b7 k7)))
              go_roundw
              case rel => exact ⟨k + 1, _, by omega, by go_num, (by rw [List.length_append]; exact Nat.succ_le_succ hFl), HE2, R7, C7, B7⟩
              case measure => simp [intOf]; omega
          · have hE := HF0.out
            rw [show N.length - k = 0 by omega] at hE
            have HE2 : Hid (0 < R.length → F ++ rs N.length R (i + 1 + 1) = edg N.length R) := Lib.hid (fun _ => hE)
            clear hE
            go_wp2
            go_roundw
            case rel => exact ⟨i + 1, F, Or.inl hij, by first | rfl | exact val_int (by omega), val_int (by rw [HT.out]), by omega, HE2, HR, HC, HB⟩
            case measure => simp [intOf]; omega
      · have hE : E = edg N.length R := by
          rcases Nat.eq_zero_or_pos R.length with h0 | h0
          · have h1 : R = [] := List.eq_nil_of_length_eq_zero h0
            have h3 : i = 0 := by omega
            subst h3
            rw [h1]
            exact List.eq_nil_of_length_eq_zero (by omega)
          · have h2 := HE.out h0
            rw [rs_end (by omega) (by omega), List.append_nil] at h2
            exact h2
        rw [hE] at HR
        have hi3 : decide ((i : Int) + 1 < R.length) = false := decide_eq_false (by omega)
        clear hE
        go_wp2
        go_returns
        exact ⟨_, rfl, HR.out.mono (Nat.le_succ _), hb⟩
  · rw [edC_no hz]
    rw [decide_eq_false hz] at HK
    clear hz HA
    have B2 := Lib.hid (B0.out.alloc (by omega) (.cells #[] 43))
    have R2 := Lib.hid (HL.out (w.alloc (.cells #[.slice A1 N.length c1, .slice A2 R.length c2] 25)) (by omega))
    rw [S0] at R2
    clear S0
    go_enter Try.func25, Try.ntmps25
    go_wp2_with (first
      | (go_at_call 30; go_must (refine (HK.out _ B2.out).mono ?_; rintro e1 w1 ⟨rfl, b1⟩; have B1 := Lib.hid (B2.out.trans (b1.mono B2.out.size)); have R1 := Lib.hid (KRow.keep R2.out b1); clear b1)))
    go_returns
    exact ⟨_, rfl, R1.out.mono (Nat.le_succ _), B1.out⟩

end Go.Proofs.Ytmfceiioigmnlaa
