/-
  The walk of the statement BlockRanges. (Written by tools/s10_genlD.py.)
-/
import Derived.Test.YtillcmddbjhepaaDoorZ28
import Derived.Test.YtillcmddbjhepaaDoorZ26
import Derived.Test.YtillcmddbjhepaaDoorZ17
namespace Go.Proofs.YtillcmddbjhepaaDoor
open Go Go.RowKit Go.Joins
open Go.BigFrame
set_option linter.unusedVariables false
set_option linter.unusedSimpArgs false

set_option maxRecDepth 100000 in
set_option maxHeartbeats 8000000 in
theorem law_ranges (N : List ByteArray) (R : List Si.Rn) (vN vR : Value) (f t : Int) (w : World) (hE : Sd.Env w) (hN : Si.NmArg w vN N) (hs : Si.szs N) (hR : Si.RnArg w vR R) :
    Calls Tryd.prog 5 #[.agg #[vN, vR], .agg #[.int .i64 f, .int .i64 t]] w fun e w' => e = .returned (.bool true) ∧ Below w.heap.size w w' := by
  have KB := Lib.hid ((ba w (.cells #[vN, vR] 25)).alloc (le_alloc (Nat.le_refl _) _) (.cells #[.int .i64 f, .int .i64 t] 43))
  have RB := Lib.hid ((RowAt.new w 25 #[vN, vR]).alloc (.cells #[.int .i64 f, .int .i64 t] 43))
  have RA := Lib.hid (show RowAt ((w.alloc (.cells #[vN, vR] 25)).alloc (.cells #[.int .i64 f, .int .i64 t] 43)) (w.heap.size + 1) 43 #[.int .i64 f, .int .i64 t] from RowAt.at (by rw [World.size_alloc]))
  have CA := Lib.hid (fun W (hb : Below w.heap.size w W) => awake_any W (hE.below hb))
  have CS := Lib.hid (fun W (hb : Below w.heap.size w W) => small_any N R vN vR W (hN.keep hb) (hR.keep hb))
  by_cases hsm : smP N R
  case neg =>
    rw [decide_eq_false hsm] at CS
    obtain ⟨A1, c1, rfl, _⟩ := hN.form
    obtain ⟨A2, c2, rfl⟩ := KArg.form hR
    have j0 := RB.out.cell 0
    have j1 := RB.out.cell 1
    clear hE hN hs hR hsm
    go_enter Tryd.func5, Tryd.ntmps5
    go_wp2_with (first
      | (go_at_call 6; go_must (refine (CS.out _ KB.out).mono ?_; rintro e w1 ⟨rfl, hb⟩; replace KB := Lib.hid (KB.out.trans (hb.mono KB.out.size)); replace RB := Lib.hid (RB.out.keep hb); have j0 := RB.out.cell 0; have j1 := RB.out.cell 1; replace RA := Lib.hid (RA.out.keep hb); have i0 := RA.out.cell 0; have i1 := RA.out.cell 1; clear hb CS))
      | (go_at_call 7; go_must (refine (CA.out _ KB.out).mono ?_; rintro e w9 ⟨rfl, hb⟩; replace KB := Lib.hid (KB.out.trans (hb.mono KB.out.size)); clear hb))
      | fail)
    go_returns
    exact ⟨rfl, KB.out⟩
  rw [decide_eq_true hsm] at CS
  have CK := Lib.hid (fun W (hb : Below w.heap.size w W) => Si.rcheck_any N R vN vR W (hN.keep hb) hs (hR.keep hb) (by have := hsm.1; omega))
  have CE := Lib.hid (fun W (hb : Below w.heap.size w W) => encode_any N R vN vR W (hE.below hb) (hN.keep hb) hs (hR.keep hb) (by have := hsm.1; omega))
  unfold encS at CE
  obtain ⟨z, hz⟩ : ∃ z, Si.ckC N R = z := ⟨_, rfl⟩
  rw [hz] at CE CK
  by_cases cz : z = 0
  case neg =>
    have cz' : (z != 0) = true := by simp; omega
    obtain ⟨A1, c1, rfl, _⟩ := hN.form
    obtain ⟨A2, c2, rfl⟩ := KArg.form hR
    have j0 := RB.out.cell 0
    have j1 := RB.out.cell 1
    clear hE hN hs hR hsm cz hz CE
    go_enter Tryd.func5, Tryd.ntmps5
    go_wp2_with (first
      | (go_at_call 6; go_must (refine (CS.out _ KB.out).mono ?_; rintro e w1 ⟨rfl, hb⟩; replace KB := Lib.hid (KB.out.trans (hb.mono KB.out.size)); replace RB := Lib.hid (RB.out.keep hb); have j0 := RB.out.cell 0; have j1 := RB.out.cell 1; replace RA := Lib.hid (RA.out.keep hb); have i0 := RA.out.cell 0; have i1 := RA.out.cell 1; clear hb CS))
      | (go_at_call 14; go_must (refine (CK.out _ KB.out).mono ?_; rintro e w2 ⟨rfl, hb⟩; replace KB := Lib.hid (KB.out.trans (hb.mono KB.out.size)); replace RB := Lib.hid (RB.out.keep hb); have j0 := RB.out.cell 0; have j1 := RB.out.cell 1; replace RA := Lib.hid (RA.out.keep hb); have i0 := RA.out.cell 0; have i1 := RA.out.cell 1; clear hb CK))
      | (go_at_call 7; go_must (refine (CA.out _ KB.out).mono ?_; rintro e w9 ⟨rfl, hb⟩; replace KB := Lib.hid (KB.out.trans (hb.mono KB.out.size)); clear hb))
      | fail)
    go_returns
    exact ⟨rfl, KB.out⟩
  rw [if_pos cz] at CE
  subst cz
  have ho := (okL_of hz).1
  have hlen := enc_len ho
  have hvr := (Si.ckC_ok hz).2.2.2.2.2
  have hps := ((Si.vr_iff _ _ 0 (by omega)).1 hvr).2.1
  have hlg := Si.jn_lg R
  have hsE : rgR (enc N (Si.jn R)) f t = (Si.slR N R f t, if 0 ≤ f ∧ f < t ∧ t ≤ Si.lg R then 0 else 2) ∧ Si.slE N R f t = (if 0 ≤ f ∧ f < t ∧ t ≤ Si.lg R then 0 else 2) ∧ Si.vr (Si.mk N.length) 0 (Si.slR N R f t) = true ∧ Si.jn (Si.slR N R f t) = Si.slR N R f t ∧ (Si.slR N R f t).length ≤ 262144 := by
    have hRl := (Si.ckC_ok hz).1
    by_cases hr : 0 ≤ f ∧ f < t ∧ t ≤ Si.lg R
    · have hE0 : Si.slE N R f t = 0 := Si.slE_0 hz (by omega)
      rw [if_pos hr, if_pos hr, (Si.slN_0 hE0).2]
      refine ⟨?_, hE0, Si.prt_vr hvr hr.1, jn_id (Si.jn_al _), Nat.le_trans (Si.prt_len R f t) hRl⟩
      rw [rgR_enc ho (by rw [hlg]; exact hr)]
      refine congrArg (fun z => (z, (0 : Nat))) ?_
      exact prt_ext (Si.jn_ps hps) hps hr.1 hr.2.1 (by omega) hr.1 (by omega) hr.2.2 fun k h0 h1 => Si.atv_jn _ hps (by omega)
    · have hE2 : Si.slE N R f t = 2 := Si.slE_2 hz (by omega)
      rw [if_neg hr, if_neg hr, (Si.slN_n (show ¬ Si.slE N R f t = 0 by omega)).2]
      exact ⟨rgR_enc2 ho (by rw [hlg]; exact hr), hE2, rfl, rfl, by simp⟩
  obtain ⟨g1, g2, g3, g4, g5⟩ := hsE
  have CRG := Lib.hid (fun (S : ByteArray) (hS : S.data.toList = enc N (Si.jn R)) W (hb : Below w.heap.size w W) => show Calls Tryd.prog 17 #[.string S, .int .i64 f, .int .i64 t] W (RgQ (rgR (enc N (Si.jn R)) f t) W) by
    have h := Range_any S f t W (hE.below hb) (by rw [size_len, hS]; omega)
    rw [hS] at h; exact h)
  have CSL := Lib.hid (fun W (hb : Below w.heap.size w W) => Si.slice_any N R vN vR f t W (hN.keep hb) hs (hR.keep hb) (by have := hsm.1; omega))
  rw [g1] at CRG
  rw [g2] at CSL
  obtain ⟨X, hX⟩ : ∃ X, Si.slR N R f t = X := ⟨_, rfl⟩
  rw [hX] at CRG CSL g3 g4 g5
  obtain ⟨c, hc⟩ : ∃ c : Nat, (if 0 ≤ f ∧ f < t ∧ t ≤ Si.lg R then 0 else 2) = c := ⟨_, rfl⟩
  rw [hc] at CRG
  have hc2 : (if 0 ≤ f ∧ f < t ∧ t ≤ Si.lg R then (0 : Int) else 2) = (c : Int) := by rw [← hc]; split <;> rfl
  rw [hc2] at CSL
  unfold RgQ at CRG
  simp only at CRG
  have CCL := Lib.hid (fun V W (hV : Si.RnArg W V X) => rclean10_any _ X V W hV (by omega) g3)
  rw [g4] at CCL
  have CSA := Lib.hid (fun V V' W (h1 : Si.RnArg W V X) (h2 : Si.RnArg W V' X) => same_any X V V' W h1 h2 (by omega))
  obtain ⟨A1, c1, rfl, _⟩ := hN.form
  obtain ⟨A2, c2, rfl⟩ := KArg.form hR
  have j0 := RB.out.cell 0
  have j1 := RB.out.cell 1
  have i0 := RA.out.cell 0
  have i1 := RA.out.cell 1
  clear hE hN hs hR hsm hz ho hlen hvr hps hlg g1 g2 g3 g4 g5 hX hc hc2
  go_enter Tryd.func5, Tryd.ntmps5
  go_wp2_with (first
    | (go_at_call 6; go_must (refine (CS.out _ KB.out).mono ?_; rintro e w1 ⟨rfl, hb⟩; replace KB := Lib.hid (KB.out.trans (hb.mono KB.out.size)); replace RB := Lib.hid (RB.out.keep hb); have j0 := RB.out.cell 0; have j1 := RB.out.cell 1; replace RA := Lib.hid (RA.out.keep hb); have i0 := RA.out.cell 0; have i1 := RA.out.cell 1; clear hb CS))
    | (go_at_call 14; go_must (refine (CK.out _ KB.out).mono ?_; rintro e w2 ⟨rfl, hb⟩; replace KB := Lib.hid (KB.out.trans (hb.mono KB.out.size)); replace RB := Lib.hid (RB.out.keep hb); have j0 := RB.out.cell 0; have j1 := RB.out.cell 1; replace RA := Lib.hid (RA.out.keep hb); have i0 := RA.out.cell 0; have i1 := RA.out.cell 1; clear hb CK))
    | (go_at_call 8; go_must (refine (CE.out _ KB.out).mono ?_; rintro e w3 ⟨S, rfl, hS, hb⟩; have HSS := Lib.hid hS; replace KB := Lib.hid (KB.out.trans (hb.mono KB.out.size)); replace RB := Lib.hid (RB.out.keep hb); have j0 := RB.out.cell 0; have j1 := RB.out.cell 1; replace RA := Lib.hid (RA.out.keep hb); have i0 := RA.out.cell 0; have i1 := RA.out.cell 1; clear hb CE hS))
    | (go_at_call 17; go_must (refine (CRG.out S HSS.out _ KB.out).mono ?_; rintro e w4 ⟨v, rfl, hr, hb⟩; obtain ⟨rA1, rn1, rc1, rfl, hrn⟩ := KRow.form hr; have HR1 := Lib.hid hr; replace KB := Lib.hid (KB.out.trans (hb.mono KB.out.size)); replace RB := Lib.hid (RB.out.keep hb); have j0 := RB.out.cell 0; have j1 := RB.out.cell 1; replace RA := Lib.hid (RA.out.keep hb); have i0 := RA.out.cell 0; have i1 := RA.out.cell 1; clear hb hr hrn CRG))
    | (go_at_call 18; go_must (refine (CSL.out _ KB.out).mono ?_; rintro e w5 ⟨v1, v2, rfl, hn, hr, hb⟩; obtain ⟨nA2, nn2, nc2, rfl, hnn⟩ := KRow.form hn; obtain ⟨rA2, rn2, rc2, rfl, hrn⟩ := KRow.form hr; have HR2 := Lib.hid (KRow.alloc hr (.cells #[.slice nA2 nn2 nc2, .slice rA2 rn2 rc2] 25)); replace HR1 := Lib.hid (KRow.alloc (KRow.keep HR1.out hb) (.cells #[.slice nA2 nn2 nc2, .slice rA2 rn2 rc2] 25)); replace KB := Lib.hid ((KB.out.trans (hb.mono KB.out.size)).alloc (KB.out.trans (hb.mono KB.out.size)).size (.cells #[.slice nA2 nn2 nc2, .slice rA2 rn2 rc2] 25)); clear hb hr hn hnn hrn CSL))
    | (go_at_call 13; go_must (refine (CCL.out _ _ (KRow.arg Si.rnC_size HR2.out)).mono ?_; rintro e w6 ⟨v, rfl, hr, hb⟩; obtain ⟨rA3, rn3, rc3, rfl, hrn⟩ := KRow.form hr; have HR3 := Lib.hid hr; replace HR1 := Lib.hid (KRow.keep HR1.out hb); replace KB := Lib.hid (KB.out.trans (hb.mono KB.out.size)); clear hb hr hrn CCL))
    | (go_at_call 12; go_must (refine (CSA.out _ _ _ (KRow.arg Si.rnC_size HR1.out) (KRow.arg Si.rnC_size HR3.out)).mono ?_; rintro e w7 ⟨rfl, hb⟩; replace KB := Lib.hid (KB.out.trans (hb.mono KB.out.size)); clear hb CSA))
    | (go_at_call 7; go_must (refine (CA.out _ KB.out).mono ?_; rintro e w9 ⟨rfl, hb⟩; replace KB := Lib.hid (KB.out.trans (hb.mono KB.out.size)); clear hb))
    | fail)
  go_returns
  exact ⟨by simp, KB.out⟩

end Go.Proofs.YtillcmddbjhepaaDoor
