/-
  The specification's Build.
-/
import Derived.Test.YtmfceiioigmnlaaW18
namespace Go.Proofs.Ytmfceiioigmnlaa
open Go Go.RowKit Go.Joins
set_option linter.unusedVariables false
set_option linter.unusedSimpArgs false

set_option maxRecDepth 20000 in
set_option maxHeartbeats 8000000 in
theorem rbuild_any (N : List ByteArray) (ws : List (List Rn)) (vN vW : Value) (w : World) (hN : NmArg w vN N) (hs : szs N) (hW : WvArg w vW ws) (hsl : ckN N = 0 → ckW ws N.length = 0 → sl2 ws ≤ 262144) (hwl : ws.length ≤ 65536) :
    Calls Try.prog 27 #[vN, vW] w fun e w' => ∃ (v1 v2 : Value) (N' : List ByteArray) (out : List Rn), e = .returned (.tuple #[.agg #[v1, v2], .int .i64 (bdE N ws)]) ∧ Bd w' w.heap.size N ws v1 v2 N' out ∧ Below w.heap.size w w' := by
  have HK := Lib.hid (fun w' (hb : Below w.heap.size w w') => rnames_any N vN w' (hN.keep hb) hs)
  have HMg := Lib.hid (fun T w' (hb : Below w.heap.size w w') h1 h2 h3 h4 => together_any ws vW T w' (hW.keep hb) h1 h2 h3 h4)
  have HNk := Lib.hid (fun w' (hb : Below w.heap.size w w') => hN.keep hb)
  obtain ⟨A1, c1, rfl, hA1, hA1'⟩ := hN.form
  obtain ⟨A2, c2, rfl, hA2⟩ := hW.form
  have HA := Lib.hid hA2
  have B0 := Lib.hid (ba w (.cells #[.slice none 0 0, .slice none 0 0] 25))
  have P0 := Lib.hid (RowAt.new w 25 #[.slice none 0 0, .slice none 0 0])
  clear hA1 hA1' hA2 hN hW hs
  by_cases hz : ckN N = 0
  · obtain ⟨hl0, hl16, hall⟩ := ckN_ok hz
    have HB := bdE_w (ws := ws) hz
    have hnl : (N.length : Int) ≤ 16 := by omega
    rw [hz] at HK
    by_cases hl : ws.length = N.length
    · have H1 := Lib.hid (fun a => HB.trans (ckW_1 hl a)); have H17 := Lib.hid (fun a b => HB.trans (ckW_17 hl a b)); have H0 := Lib.hid (fun a b => HB.trans (ckW_0 hl a b))
      have HMgx := Lib.hid (fun w' hb a b => HMg.out _ w' hb (Wv_of (ckW_0 hl a b) (by omega)) (by omega) (by omega) (hsl hz (ckW_0 hl a b)))
      have hw16 : (ws.length : Int) ≤ 16 := by omega
      have hlen : (ws.length : Int) = (N.length : Int) := by omega
      have hlen3 : ((ws.length : Int) != (N.length : Int)) = false := by rw [bne, beq_iff_eq.2 hlen]; rfl
      have hw0 : 0 < ws.length := by omega
      clear hz hsl HB HMg hall hl hlen hl0
      go_enter Try.func27, Try.ntmps27
      go_wp2_with (first
        | (go_at_call 34; go_must (refine (HK.out _ B0.out).mono ?_; rintro e1 w1 ⟨rfl, b1⟩; have B1 := Lib.hid (B0.out.trans (b1.mono B0.out.size)); have P1 := Lib.hid (P0.out.keep b1); clear b1)))
      go_loopw [7] (fun i wr => ∃ (j m : Nat), j ≤ ws.length ∧ i = .int .i64 j ∧ Hid ((ws.take j).all vl = true) ∧ wr = w1.drewN m) (fun i _ => ws.length - (intOf i).toNat)
      case atStart => exact ⟨0, 0, Nat.zero_le _, rfl, Lib.hid rfl, rfl⟩
      case round =>
        obtain ⟨j, m, hj, rfl, HR, rfl⟩ := hrel
        have hb := Go.below_drewN B1.out m
        have P1m := Lib.hid (P1.out.keep (Go.below_drewN (Below.refl w1.heap.size w1) m))
        by_cases hjl : j < ws.length
        · obtain ⟨g, o, rfl, hg, hcell⟩ := HA.out hw0
          obtain ⟨B, d, hc1, hc2⟩ := hcell j hjl
          have f0 := (B1.out.cell (p := ⟨g, o + j, none⟩) hg).trans hc1
          by_cases hbig : 262144 < ws[j].length
          · have HE := Lib.hid (H1.out (vls_no hjl (vl_big hbig)))
            have hbig' : (262144 : Int) < ws[j].length := by omega
            have g0 := P1m.out.cell 0
            have g1 := P1m.out.cell 1
            have z0 := P1m.out.frozen 0
            have z1 := P1m.out.frozen 1
            clear hc1 hc2 hcell hbig
            generalize ws[j].length = nj at *
            go_wp2
            have e0 : (((w1.drewN m).setCell ⟨w.heap.size, 0, none⟩ (.slice none 0 0)).setCell ⟨w.heap.size, 1, none⟩ (.slice none 0 0)).cell? ⟨w.heap.size, 0, none⟩ = some (.slice none 0 0) := (two_set g0 g1).1
            have e1 : (((w1.drewN m).setCell ⟨w.heap.size, 0, none⟩ (.slice none 0 0)).setCell ⟨w.heap.size, 1, none⟩ (.slice none 0 0)).cell? ⟨w.heap.size, 1, none⟩ = some (.slice none 0 0) := (two_set g0 g1).2
            first
              | refine bodyPost_ret (v := .tuple #[.agg #[.slice none 0 0, .slice none 0 0], .int .i64 1]) (by simp [results, Try.results27, go_sem, e0, e1]) rfl ⟨_, _, [], [], by rw [HE.out], ⟨KRow.nil _ _, KRow.nil _ _, fun h => absurd h (by rw [HE.out]; decide), fun _ => ⟨rfl, rfl⟩, Nat.zero_le _⟩, Below.setCell (Below.setCell hb (Nat.le_refl _) _) (Nat.le_refl _) _⟩
              | refine bodyPost_ret (v := .tuple #[.agg #[.slice none 0 0, .slice none 0 0], .int .i64 1]) (by simp [results, Try.results27, go_sem, e0, e1]) rfl ⟨_, _, by rw [HE.out], ⟨[], [], KRow.nil _ _, KRow.nil _ _, fun h => absurd h (by rw [HE.out]; decide), fun _ => ⟨rfl, rfl⟩, Nat.zero_le _⟩, Below.setCell (Below.setCell hb (Nat.le_refl _) _) (Nat.le_refl _) _⟩
          · have C1 := rruns_any 1 ws[j] _ (w1.drewN m) (hc2.keep hb) (by omega)
            have hv := vl_of (l := ws[j]) (by omega)
            have hbig' : ¬ (262144 : Int) < ws[j].length := by omega
            cases hh : vl ws[j] with
            | true =>
              have HR2 := Lib.hid (vls_take hjl HR.out hh)
              rw [← hv, hh] at C1
              have C2 := Lib.hid C1
              clear C1 hh HR hc1 hc2 hcell hv hbig
              generalize ws[j].length = nj at *
              go_wp2_with (first
                | (go_at_call 35; go_must (refine C2.out.mono ?_; rintro e2 w2 ⟨rfl, rfl⟩)))
              go_roundw
              case rel => exact ⟨j + 1, m, by omega, by go_num, HR2, rfl⟩
              case measure => simp [intOf]; omega
            | false =>
              have HE := Lib.hid (H1.out (vls_no hjl hh))
              rw [← hv, hh] at C1
              have C2 := Lib.hid C1
              have g0 := P1m.out.cell 0
              have g1 := P1m.out.cell 1
              have z0 := P1m.out.frozen 0
              have z1 := P1m.out.frozen 1
              clear C1 hh HR hc1 hc2 hcell hv hbig
              generalize ws[j].length = nj at *
              go_wp2_with (first
                | (go_at_call 35; go_must (refine C2.out.mono ?_; rintro e2 w2 ⟨rfl, rfl⟩)))
              have e0 : (((w1.drewN m).setCell ⟨w.heap.size, 0, none⟩ (.slice none 0 0)).setCell ⟨w.heap.size, 1, none⟩ (.slice none 0 0)).cell? ⟨w.heap.size, 0, none⟩ = some (.slice none 0 0) := (two_set g0 g1).1
              have e1 : (((w1.drewN m).setCell ⟨w.heap.size, 0, none⟩ (.slice none 0 0)).setCell ⟨w.heap.size, 1, none⟩ (.slice none 0 0)).cell? ⟨w.heap.size, 1, none⟩ = some (.slice none 0 0) := (two_set g0 g1).2
              first
                | refine bodyPost_ret (v := .tuple #[.agg #[.slice none 0 0, .slice none 0 0], .int .i64 1]) (by simp [results, Try.results27, go_sem, e0, e1]) rfl ⟨_, _, [], [], by rw [HE.out], ⟨KRow.nil _ _, KRow.nil _ _, fun h => absurd h (by rw [HE.out]; decide), fun _ => ⟨rfl, rfl⟩, Nat.zero_le _⟩, Below.setCell (Below.setCell hb (Nat.le_refl _) _) (Nat.le_refl _) _⟩
                | refine bodyPost_ret (v := .tuple #[.agg #[.slice none 0 0, .slice none 0 0], .int .i64 1]) (by simp [results, Try.results27, go_sem, e0, e1]) rfl ⟨_, _, by rw [HE.out], ⟨[], [], KRow.nil _ _, KRow.nil _ _, fun h => absurd h (by rw [HE.out]; decide), fun _ => ⟨rfl, rfl⟩, Nat.zero_le _⟩, Below.setCell (Below.setCell hb (Nat.le_refl _) _) (Nat.le_refl _) _⟩
        · have hall : ws.all vl = true := by rw [← List.take_of_length_le (show ws.length ≤ j by omega)]; exact HR.out
          have HAll := Lib.hid hall
          have HSm := Lib.hid (sameLg_eq (ws := ws) hw0)
          obtain ⟨T, hT⟩ : ∃ T, lg ws[0] = T := ⟨_, rfl⟩
          rw [hT] at HSm
          have hv0 := vls_at hall 0 hw0
          obtain ⟨g, o, rfl, hg, hcell⟩ := HA.out hw0
          obtain ⟨B0', d0, hz1, hz2⟩ := hcell 0 hw0
          rw [Nat.add_zero] at hz1
          have HZ := Lib.hid (fun w' (hb : Below w.heap.size w w') => (hb.cell (p := ⟨g, o, none⟩) hg).trans hz1)
          have C0 := Lib.hid (fun w' (hb : Below w.heap.size w w') => total_any 1 ws[0] _ w' (hz2.keep hb) (by omega) hv0.2)
          rw [hT] at C0
          have HCell := Lib.hid hcell
          have hw0' : (0 : Int) < ws.length := by omega
          clear HR hall hv0 hz1 hz2 hcell hT
          have HZ1 := HZ.out _ hb
          generalize ws[0].length = n0 at *
          generalize w1.drewN m = wx at *
          go_wp2
          go_loopw [8] (fun i wr2 => ∃ (j m : Nat), j ≤ ws.length ∧ i = .int .i64 j ∧ Hid (slT (ws.take j) T = true) ∧ wr2 = wx.drewN m) (fun i _ => ws.length - (intOf i).toNat)
          case atStart => exact ⟨0, 0, Nat.zero_le _, rfl, Lib.hid rfl, rfl⟩
          case round =>
            rename_i hrel
            obtain ⟨k, m, hk, rfl, HD, rfl⟩ := hrel
            have hb2 := Go.below_drewN hb m
            by_cases hkl : k < ws.length
            · obtain ⟨B, d, hc1, hc2⟩ := HCell.out k hkl
              have f0 := (hb.cell (p := ⟨g, o + k, none⟩) hg).trans hc1
              have hvk := vls_at HAll.out k hkl
              have CK := Lib.hid (fun w' (hb : Below w.heap.size w w') => total_any 1 ws[k] _ w' (hc2.keep hb) (by omega) hvk.2)
              have CKq := Lib.hid (fun q => (CK.out (wx.drewN q) (Go.below_drewN hb q)).mono fun _ _ h => And.intro h.1 h.2.symm)
              have C0q := Lib.hid (fun q => (C0.out (wx.drewN q) (Go.below_drewN hb q)).mono fun _ _ h => And.intro h.1 h.2.symm)
              have HTk := Lib.hid (fun h => slT_take hkl HD.out h)
              have HNk := Lib.hid (fun (h : ¬ lg ws[k] = T) => H17.out HAll.out (HSm.out.trans (slT_no hkl h)))
              clear hc1 hc2 hvk HD
              generalize lg ws[k] = Tk at *
              generalize ws[k].length = nk at *
              by_cases he : Tk = T
              · subst he
                have HT2 := Lib.hid (HTk.out rfl)
                have qT : (Tk == Tk) = true := by simp
                clear HTk HNk
                go_wp2
                go_quiet (first
                  | (go_at_call 31; go_must (first | (with_reducible exact (CKq.out _).mono fun _ _ h => ⟨h.1, _, h.2⟩) | (with_reducible exact (C0q.out _).mono fun _ _ h => ⟨h.1, _, h.2⟩))))
                go_wp2
                go_roundw
                case rel => exact ⟨k + 1, m + nq, by omega, by go_num, HT2, rfl⟩
                case measure => simp [intOf]; omega
              · have HE := Lib.hid (HNk.out he)
                have qT : (Tk == T) = false := by simpa using he
                clear HTk HNk he
                go_wp2
                go_quiet ((go_at_call 31; go_must (first | (with_reducible exact (CKq.out _).mono fun _ _ h => ⟨h.1, _, h.2⟩) | (with_reducible exact (C0q.out _).mono fun _ _ h => ⟨h.1, _, h.2⟩))))
                have PQ := P1m.out.keep (Go.below_drewN (Go.below_drewN (Below.refl wx.heap.size wx) m) nq)
                have hbq := Go.below_drewN (Go.below_drewN hb m) nq
                generalize (wx.drewN m).drewN nq = wq at *
                have g0 := PQ.cell 0
                have g1 := PQ.cell 1
                have z0 := PQ.frozen 0
                have z1 := PQ.frozen 1
                clear PQ CKq C0q CK C0
                go_wp2
                have e0 : ((wq.setCell ⟨w.heap.size, 0, none⟩ (.slice none 0 0)).setCell ⟨w.heap.size, 1, none⟩ (.slice none 0 0)).cell? ⟨w.heap.size, 0, none⟩ = some (.slice none 0 0) := (two_set g0 g1).1
                have e1 : ((wq.setCell ⟨w.heap.size, 0, none⟩ (.slice none 0 0)).setCell ⟨w.heap.size, 1, none⟩ (.slice none 0 0)).cell? ⟨w.heap.size, 1, none⟩ = some (.slice none 0 0) := (two_set g0 g1).2
                first
                  | refine bodyPost_ret (v := .tuple #[.agg #[.slice none 0 0, .slice none 0 0], .int .i64 17]) (by simp [results, Try.results27, go_sem, e0, e1]) rfl ⟨_, _, [], [], by rw [HE.out], ⟨KRow.nil _ _, KRow.nil _ _, fun h => absurd h (by rw [HE.out]; decide), fun _ => ⟨rfl, rfl⟩, Nat.zero_le _⟩, Below.setCell (Below.setCell hbq (Nat.le_refl _) _) (Nat.le_refl _) _⟩
                  | refine bodyPost_ret (v := .tuple #[.agg #[.slice none 0 0, .slice none 0 0], .int .i64 17]) (by simp [results, Try.results27, go_sem, e0, e1]) rfl ⟨_, _, by rw [HE.out], ⟨[], [], KRow.nil _ _, KRow.nil _ _, fun h => absurd h (by rw [HE.out]; decide), fun _ => ⟨rfl, rfl⟩, Nat.zero_le _⟩, Below.setCell (Below.setCell hbq (Nat.le_refl _) _) (Nat.le_refl _) _⟩
            · have hS : slT ws T = true := by rw [← List.take_of_length_le (show ws.length ≤ k by omega)]; exact HD.out
              have hall2 := HSm.out.trans hS
              have HE := Lib.hid (H0.out HAll.out hall2)
              have HMg2 := Lib.hid (fun w' hb => HMgx.out w' hb HAll.out hall2)
              have P2 := Lib.hid (P1m.out.keep (Go.below_drewN (Below.refl wx.heap.size wx) m))
              have B2 := Lib.hid hb2
              generalize wx.drewN m = wy at *
              clear HMgx HSm HD hS hall2 H0 H1 H17 hb2 C0 HZ1 HCell
              go_wp2_with (first
                | (go_at_call 48; go_must (refine (HMg2.out _ B2.out).mono ?_; rintro e3 w3 ⟨v3, out, rfl, r3, q3, l3, b3⟩; obtain ⟨VA, VN, VC, rfl, rfl⟩ := KRow.form r3; have B3 := Lib.hid (B2.out.trans (b3.mono B2.out.size)); have P3 := Lib.hid (P2.out.keep b3); have R3 := Lib.hid (KRow.mono r3 (show w.heap.size + 1 ≤ _ from P2.out.lt)); have Q3 := Lib.hid q3; have L3 := Lib.hid l3; have l3' : (out.length : Int) ≤ 262144 := (by omega); have RL := Lib.hid (KRow.lit (T := 9) nmC_size w3 w3.heap.size (Nat.le_refl _) [] #[] rfl 0 rfl (by decide)); have BL := Lib.hid (ba w3 (.cells #[] 9)); have NL := Lib.hid (HNk.out _ (B3.out.trans (BL.out.mono B3.out.size))).1; clear b3 r3 q3 l3))
                | (refine wpList_append_arg (o := ⟨some 68, _, _, _, _, _⟩) Try.underlying22 name_info rfl (by omega) nmC_size nmC_one rfl (.tmp 66) (.tmp 67) rfl rfl rfl RL.out NL.out (Nat.le_of_lt (by rw [World.size_alloc]; omega)) (by simp; omega) (by simp; omega) ?_; intro v4 w4 r4 b4; rw [List.nil_append] at r4; have bb4 := BL.out.trans b4; obtain ⟨UA, UN, UC, rfl, rfl⟩ := KRow.form r4; have B4 := Lib.hid (B3.out.trans (bb4.mono B3.out.size)); have P4 := Lib.hid (P3.out.keep bb4); have R4 := Lib.hid (KRow.mono r4 (show w.heap.size + 1 ≤ _ from P3.out.lt)); have R34 := Lib.hid (KRow.keep R3.out bb4); have g0 := P4.out.cell 0; have g1 := P4.out.cell 1; have z0 := P4.out.frozen 0; have z1 := P4.out.frozen 1; clear b4 r4 bb4)
                | fail)
              have e0 : ((w4.setCell ⟨w.heap.size, 0, none⟩ (.slice UA N.length UC)).setCell ⟨w.heap.size, 1, none⟩ (.slice VA out.length VC)).cell? ⟨w.heap.size, 0, none⟩ = some (.slice UA N.length UC) := (two_set g0 g1).1
              have e1 : ((w4.setCell ⟨w.heap.size, 0, none⟩ (.slice UA N.length UC)).setCell ⟨w.heap.size, 1, none⟩ (.slice VA out.length VC)).cell? ⟨w.heap.size, 1, none⟩ = some (.slice VA out.length VC) := (two_set g0 g1).2
              first
                | refine bodyPost_ret (v := .tuple #[.agg #[.slice UA N.length UC, .slice VA out.length VC], .int .i64 0]) (by simp [results, Try.results27, go_sem, e0, e1]) rfl ⟨_, _, N, out, by rw [HE.out], ⟨(KRow.set2 R4.out (Nat.lt_succ_self _) _ _).mono (Nat.le_succ _), (KRow.set2 R34.out (Nat.lt_succ_self _) _ _).mono (Nat.le_succ _), fun _ => ⟨rfl, Q3.out⟩, fun h => absurd HE.out h, L3.out⟩, Below.setCell (Below.setCell B4.out (Nat.le_refl _) _) (Nat.le_refl _) _⟩
                | refine bodyPost_ret (v := .tuple #[.agg #[.slice UA N.length UC, .slice VA out.length VC], .int .i64 0]) (by simp [results, Try.results27, go_sem, e0, e1]) rfl ⟨_, _, by rw [HE.out], ⟨N, out, (KRow.set2 R4.out (Nat.lt_succ_self _) _ _).mono (Nat.le_succ _), (KRow.set2 R34.out (Nat.lt_succ_self _) _ _).mono (Nat.le_succ _), fun _ => ⟨rfl, Q3.out⟩, fun h => absurd HE.out h, L3.out⟩, Below.setCell (Below.setCell B4.out (Nat.le_refl _) _) (Nat.le_refl _) _⟩
    · have HE := Lib.hid (HB.trans (ckW_n hl))
      have hne : ((ws.length : Int) == (N.length : Int)) = false := by rw [Bool.eq_false_iff]; intro h; exact hl (by have := beq_iff_eq.1 h; omega)
      clear hz hsl HB HMg hall hl hl0
      go_enter Try.func27, Try.ntmps27
      go_wp2_with (first
        | (go_at_call 34; go_must (refine (HK.out _ B0.out).mono ?_; rintro e1 w1 ⟨rfl, b1⟩; have B1 := Lib.hid (B0.out.trans (b1.mono B0.out.size)); have P1 := Lib.hid (P0.out.keep b1); have g0 := P1.out.cell 0; have g1 := P1.out.cell 1; have z0 := P1.out.frozen 0; have z1 := P1.out.frozen 1; clear b1)))
      have e0 : ((w1.setCell ⟨w.heap.size, 0, none⟩ (.slice none 0 0)).setCell ⟨w.heap.size, 1, none⟩ (.slice none 0 0)).cell? ⟨w.heap.size, 0, none⟩ = some (.slice none 0 0) := (two_set g0 g1).1
      have e1 : ((w1.setCell ⟨w.heap.size, 0, none⟩ (.slice none 0 0)).setCell ⟨w.heap.size, 1, none⟩ (.slice none 0 0)).cell? ⟨w.heap.size, 1, none⟩ = some (.slice none 0 0) := (two_set g0 g1).2
      first
        | refine bodyPost_ret (v := .tuple #[.agg #[.slice none 0 0, .slice none 0 0], .int .i64 1]) (by simp [results, Try.results27, go_sem, e0, e1]) rfl ⟨_, _, [], [], by rw [HE.out], ⟨KRow.nil _ _, KRow.nil _ _, fun h => absurd h (by rw [HE.out]; decide), fun _ => ⟨rfl, rfl⟩, Nat.zero_le _⟩, Below.setCell (Below.setCell B1.out (Nat.le_refl _) _) (Nat.le_refl _) _⟩
        | refine bodyPost_ret (v := .tuple #[.agg #[.slice none 0 0, .slice none 0 0], .int .i64 1]) (by simp [results, Try.results27, go_sem, e0, e1]) rfl ⟨_, _, by rw [HE.out], ⟨[], [], KRow.nil _ _, KRow.nil _ _, fun h => absurd h (by rw [HE.out]; decide), fun _ => ⟨rfl, rfl⟩, Nat.zero_le _⟩, Below.setCell (Below.setCell B1.out (Nat.le_refl _) _) (Nat.le_refl _) _⟩
  · have HB := bdE_n (ws := ws) hz
    have HE := Lib.hid HB
    have HNE := Lib.hid (show ¬ bdE N ws = 0 by rw [HB]; exact hz)
    have hwz : (ckN N == 0) = false := by simpa using hz
    generalize ckN N = r at *
    clear hz hsl HB HMg
    go_enter Try.func27, Try.ntmps27
    go_wp2_with (first
      | (go_at_call 34; go_must (refine (HK.out _ B0.out).mono ?_; rintro e1 w1 ⟨rfl, b1⟩; have B1 := Lib.hid (B0.out.trans (b1.mono B0.out.size)); have P1 := Lib.hid (P0.out.keep b1); have g0 := P1.out.cell 0; have g1 := P1.out.cell 1; have z0 := P1.out.frozen 0; have z1 := P1.out.frozen 1; clear b1)))
    have e0 : ((w1.setCell ⟨w.heap.size, 0, none⟩ (.slice none 0 0)).setCell ⟨w.heap.size, 1, none⟩ (.slice none 0 0)).cell? ⟨w.heap.size, 0, none⟩ = some (.slice none 0 0) := (two_set g0 g1).1
    have e1 : ((w1.setCell ⟨w.heap.size, 0, none⟩ (.slice none 0 0)).setCell ⟨w.heap.size, 1, none⟩ (.slice none 0 0)).cell? ⟨w.heap.size, 1, none⟩ = some (.slice none 0 0) := (two_set g0 g1).2
    refine bodyPost_ret (v := .tuple #[.agg #[.slice none 0 0, .slice none 0 0], .int .i64 r]) (by simp [results, Try.results27, go_sem, e0, e1]) rfl ⟨_, _, [], [], by rw [HE.out], ⟨KRow.nil _ _, KRow.nil _ _, fun h => absurd h HNE.out, fun _ => ⟨rfl, rfl⟩, Nat.zero_le _⟩, Below.setCell (Below.setCell B1.out (Nat.le_refl _) _) (Nat.le_refl _) _⟩

end Go.Proofs.Ytmfceiioigmnlaa
