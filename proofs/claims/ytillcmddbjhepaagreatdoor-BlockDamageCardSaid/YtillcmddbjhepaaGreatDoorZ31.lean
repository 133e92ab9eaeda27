/-
  At. (Written by tools/s10_genH5.py.)
  Range. (Written by tools/s10_genH6.py.)
-/
import Derived.Test.YtillcmddbjhepaaGreatDoorZ30
import Derived.Test.YtillcmddbjhepaaGreatDoorZ29
import Derived.Deep.RegionHeld3
namespace Go.Proofs.YtillcmddbjhepaaGreatDoor
open Go Go.RowKit Go.Joins
set_option linter.unusedVariables false
set_option linter.unusedSimpArgs false

def AtQ (p : Int × Nat) (w : World) (e : Ending) (w' : World) : Prop := e = .returned (.tuple #[.int .i64 p.1, .int .i64 p.2]) ∧ Below w.heap.size w w'
theorem AtQ.of {p : Int × Nat} {w w' : World} {x : Int} {y : Nat} (h : p = (x, y)) (hb : Below w.heap.size w w') : AtQ p w (.returned (.tuple #[.int .i64 x, .int .i64 y])) w' := by subst h; exact ⟨rfl, hb⟩

set_option maxRecDepth 100000 in
set_option maxHeartbeats 8000000 in
theorem At_any (s : ByteArray) (at_ : Int) (w : World) (hEn : Sd.Env w) (hs : s.size ≤ 140737488351232) :
    Calls Tryz.prog 18 #[.string s, .int .i64 at_] w (AtQ (atR s.data.toList at_) w) := by
  have hsl := size_len s
  have CH := Lib.hid (fun (_ : Unit) => readHead_any s w hEn hs)
  obtain ⟨q, hq⟩ : ∃ q, atR s.data.toList at_ = q := ⟨_, rfl⟩
  obtain ⟨⟨⟨N, R, T, E, b⟩, er⟩, h⟩ : ∃ p, rd s.data.toList = p := ⟨_, rfl⟩
  have HLP := Lib.hid (hdPts_small s.data.toList)
  have HMO := Lib.hid (hdPts_mono s.data.toList)
  unfold HdR at CH
  rw [hq]
  by_cases c : er = 0
  case neg =>
    have HBAD := Lib.hid (show q = (0, er) by rw [← hq, atR_1 (by rw [h]; exact c), h])
    rw [h] at CH
    simp only at CH
    have c' : ((er : Int) != 0) = true := by simp; omega
    clear h hq hsl
    go_enter Tryz.func18, Tryz.ntmps18
    go_wp2_with (first
      | (go_at_call 38; go_must (refine (CH.out ()).mono ?_; rintro e w1 ⟨vN, vP, T1, er1, rfl, hE, hT, hb, hN, hP⟩; obtain rfl : er1 = er := hE; obtain rfl : T1 = T := hT; obtain ⟨nA, nn, nc, rfl, hnn⟩ := KRow.form hN; obtain ⟨pA, pn, pc, rfl, hpn⟩ := KRow.form hP; have KB := Lib.hid (hb.alloc hb.size (.cells #[.slice nA nn nc, .int .i64 T1, .slice pA pn pc] 71)); clear hnn hpn hb hN hP CH))
      | fail)
    go_returns
    exact AtQ.of HBAD.out KB.out
  subst c
  have HOK := Lib.hid (hdPts_ok h (by rw [← hsl]; exact hs))
  have HTT := Lib.hid (show T ≤ 1099511627776 by
    rcases rd_form s.data.toList with ⟨e, h0, hx⟩ | ⟨N', R', T', E', b', hx, _, hy⟩
    · rw [h] at hx; injection hx with _ hx; exact absurd hx.symm h0
    · rw [h] at hx
      injection hx with hx _
      injection hx with _ hx
      injection hx with _ hx
      injection hx with hx _
      rw [hx]
      exact (rH_inv hy).1)
  have HN16 := Lib.hid (show N.length ≤ 16 by
    obtain ⟨a1, a2, a3, a4, h0, h1, _⟩ := rd_inv h
    exact (rNm_le h1 (rH_st h0).2).2.1)
  have CF0 := Lib.hid (fun vN vP W (hP : PtArg W vP (hdPts s.data.toList)) => find_any (hdPts s.data.toList) vN vP T at_ W hP HLP.out HMO.out)
  unfold FnR at CF0
  by_cases hr : 0 ≤ at_ ∧ at_ < T
  case neg =>
    have HBAD := Lib.hid (show q = (0, 2) by rw [← hq, atR_2 h hr])
    have CF := Lib.hid (fun vN vP W (hP : PtArg W vP (hdPts s.data.toList)) => (CF0.out vN vP W hP).mono (fun e w' hx => by rw [if_neg hr] at hx; exact (⟨hx.2, hx.1⟩ : e = .returned (.tuple #[.int .i64 0, .int .i64 2]) ∧ Below W.heap.size W w')))
    obtain ⟨ch, hch⟩ : ∃ ch, N.length = ch := ⟨_, rfl⟩
    have HCH := Lib.hid hch
    rw [h] at CH
    simp only at CH
    clear h hq hsl CF0 hch
    go_enter Tryz.func18, Tryz.ntmps18
    go_wp2_with (first
      | (go_at_call 38; go_must (refine (CH.out ()).mono ?_; rintro e w1 ⟨vN, vP, T1, er1, rfl, hE, hT, hb, hN, hP⟩; obtain rfl : er1 = 0 := hE; obtain rfl : T1 = T := hT; obtain ⟨nA, nn, nc, rfl, hnn⟩ := KRow.form hN; obtain ⟨pA, pn, pc, rfl, hpn⟩ := KRow.form hP; obtain rfl : nn = ch := hnn.trans HCH.out; have HH := Lib.hid (RowAt.new w1 71 #[.slice nA nn nc, .int .i64 T1, .slice pA pn pc]); have HP := Lib.hid (KArg.keep (KRow.arg ptC_size hP) (ba w1 (.cells #[.slice nA nn nc, .int .i64 T1, .slice pA pn pc] 71))); have HLW := Lib.hid hb.size; have KB := Lib.hid (hb.alloc hb.size (.cells #[.slice nA nn nc, .int .i64 T1, .slice pA pn pc] 71)); clear hnn hpn hb hN hP CH))
      | (go_at_call 42; go_must (refine (CF.out _ _ _ HP.out).mono ?_; rintro e w2 ⟨rfl, hb⟩; replace KB := Lib.hid (KB.out.trans (hb.mono KB.out.size)); clear hb CF))
      | fail)
    go_returns
    exact AtQ.of HBAD.out KB.out
  have hk := plc_P h hr
  have he : ((hdPts s.data.toList)[plc E at_ E.length]'hk).1 ≤ at_ ∧ at_ < (((hdPts s.data.toList)[plc E at_ E.length]'hk).2.1 : Int) := plc_ends h hr
  have CF := Lib.hid (fun vN vP W (hP : PtArg W vP (hdPts s.data.toList)) => (CF0.out vN vP W hP).mono (fun e w' hx => by
    rw [if_pos hr] at hx
    obtain ⟨hb, k, he, hk⟩ := hx
    rw [fdI_plc h hr.1 hr.2 hk] at he
    exact (⟨he, hb⟩ : e = .returned (.tuple #[.int .i64 (plc E at_ E.length), .int .i64 0]) ∧ Below W.heap.size W w')))
  have HA3 := Lib.hid (show pBk N.length ((hdPts s.data.toList)[plc E at_ E.length]'hk) = none → atR s.data.toList at_ = (0, 12) from atR_3 h hr)
  have HA4 := Lib.hid (show ∀ L, pBk N.length ((hdPts s.data.toList)[plc E at_ E.length]'hk) = some L → atR s.data.toList at_ = ((Si.atv L (at_ - ((hdPts s.data.toList)[plc E at_ E.length]'hk).1)).1, 0) from fun L => atR_4 h hr (L := L))
  rw [hq] at HA3 HA4
  rw [h] at CH
  simp only at CH
  obtain ⟨ch, hch⟩ : ∃ ch, N.length = ch := ⟨_, rfl⟩
  have HCH := Lib.hid hch
  rw [hch] at HA3 HA4 HN16
  have HOKk := Lib.hid (HOK.out _ (List.getElem_mem hk))
  clear h hq hsl CF0 hch HOK HMO
  generalize hP : hdPts s.data.toList = P at *
  generalize hkk : plc E at_ E.length = k at *
  clear hP hkk
  obtain ⟨p0, hp0⟩ : ∃ p0, P[k].1 = p0 := ⟨_, rfl⟩
  obtain ⟨p1, hp1⟩ : ∃ p1, P[k].2.1 = p1 := ⟨_, rfl⟩
  obtain ⟨p2, hp2⟩ : ∃ p2, P[k].2.2.1 = p2 := ⟨_, rfl⟩
  obtain ⟨p3, hp3⟩ : ∃ p3, P[k].2.2.2.1 = p3 := ⟨_, rfl⟩
  obtain ⟨p4, hp4⟩ : ∃ p4, P[k].2.2.2.2.1 = p4 := ⟨_, rfl⟩
  obtain ⟨p5, hp5⟩ : ∃ p5, P[k].2.2.2.2.2 = p5 := ⟨_, rfl⟩
  have HPC := Lib.hid (show ∀ h : k < P.length, P[k].1 = p0 ∧ P[k].2.1 = p1 ∧ P[k].2.2.1 = p2 ∧ P[k].2.2.2.1 = p3 ∧ P[k].2.2.2.2.1 = p4 ∧ P[k].2.2.2.2.2 = p5 from fun _ => ⟨hp0, hp1, hp2, hp3, hp4, hp5⟩)
  obtain ⟨r, hrr⟩ : ∃ r, pBk ch P[k] = r := ⟨_, rfl⟩
  have CP := Lib.hid (fun W (hW : Below w.heap.size w W) => readPart_any p0 p1 p2 p3 p4 p5 ch W (hEn.below hW) (by rw [← hp5]; exact HOKk.out.2.2.2) HN16.out (by rw [← hp2]; exact HOKk.out.2.2.1) (by rw [← hp0, ← hp1]; exact HOKk.out.1) (by rw [← hp1]; exact HOKk.out.2.1))
  have hpb : rBk p5.data.toList (2 ^ ch - 1) p2 p4 (p1 - p0) = r := by rw [← hrr]; unfold pBk; rw [hp5, hp2, hp4, hp1, hp0]
  rw [hpb] at CP
  have HLG := Lib.hid (fun L (hL : r = some L) => show Si.lg L = (p1 : Int) - (p0 : Int) ∧ (∀ x ∈ L, okRn (2 ^ ch - 1) x) ∧ L.length ≤ 16 from by
    have h1 := pBk_lg (hrr.trans hL) HOKk.out.1
    refine ⟨by rw [h1.1, hp1, hp0], h1.2, ?_⟩
    rw [hL] at hpb
    have h2 := rBk_len hpb
    have h3 := HOKk.out.2.2.1
    rw [hp2] at h3
    omega)
  rw [hrr, hp0] at HA4
  rw [hrr] at HA3
  rw [hp0, hp1] at he
  have HE := Lib.hid he
  have HR := Lib.hid hr
  have HKP := Lib.hid hk
  clear hp0 hp1 hp2 hp3 hp4 hp5 hrr hpb hEn HOKk he hr hk
  go_enter Tryz.func18, Tryz.ntmps18
  go_wp2_with (first
    | (go_at_call 38; go_must (refine (CH.out ()).mono ?_; rintro e w1 ⟨vN, vP, T1, er1, rfl, hE, hT, hb, hN, hP⟩; obtain rfl : er1 = 0 := hE; obtain rfl : T1 = T := hT; obtain ⟨nA, nn, nc, rfl, hnn⟩ := KRow.form hN; obtain ⟨pA, pn, pc, rfl, hpn⟩ := KRow.form hP; obtain rfl : nn = ch := hnn.trans HCH.out; have HH := Lib.hid (RowAt.new w1 71 #[.slice nA nn nc, .int .i64 T1, .slice pA pn pc]); have HP := Lib.hid (KArg.keep (KRow.arg ptC_size hP) (ba w1 (.cells #[.slice nA nn nc, .int .i64 T1, .slice pA pn pc] 71))); have HLW := Lib.hid hb.size; have KB := Lib.hid (hb.alloc hb.size (.cells #[.slice nA nn nc, .int .i64 T1, .slice pA pn pc] 71)); clear hnn hpn hb hN hP CH))
    | (go_at_call 42; go_must (refine (CF.out _ _ _ HP.out).mono ?_; rintro e w2 ⟨rfl, hb⟩; replace KB := Lib.hid (KB.out.trans (hb.mono KB.out.size)); replace HH := Lib.hid (HH.out.keep hb); replace HP := Lib.hid (KArg.keep HP.out hb); clear hb CF))
    | fail)
  obtain ⟨A', c', e1, q1⟩ := HP.out
  simp only [Value.slice.injEq] at e1
  obtain ⟨rfl, hpn, rfl⟩ := e1
  obtain ⟨g, o, rfl, hg, hcl⟩ := q1 (by have := HKP.out; omega)
  have hki : (k : Int) < (pn : Int) := by have := HKP.out; omega
  obtain ⟨a0, a1, a2, a3, a4, a5⟩ := arg_six hcl k HKP.out
  have HPD := HPC.out HKP.out
  rw [HPD.1] at a0
  rw [HPD.2.1] at a1
  rw [HPD.2.2.1] at a2
  rw [HPD.2.2.2.1] at a3
  rw [HPD.2.2.2.2.1] at a4
  rw [HPD.2.2.2.2.2] at a5
  have hpi : (pn : Int) ≤ 16384 := by have := HLP.out; omega
  have AA := Lib.hid (And.intro a0 (And.intro a1 (And.intro a2 (And.intro a3 (And.intro a4 a5)))))
  have HGL := Lib.hid hg
  have HS := Lib.hid (fun W (hb : Below w2.heap.size w2 W) => show W.cell? ⟨w1.heap.size, 0, none⟩ = some (.slice nA nn nc) ∧ W.cell? ⟨w1.heap.size, 2, none⟩ = some (.slice (some ⟨g, o, none⟩) pn pc) ∧ W.cell? ⟨g, o + k * 6, none⟩ = some (.int .i64 p0) ∧ W.cell? ⟨g, o + k * 6 + 1, none⟩ = some (.int .i64 p1) ∧ W.cell? ⟨g, o + k * 6 + 2, none⟩ = some (.int .i64 p2) ∧ W.cell? ⟨g, o + k * 6 + 3, none⟩ = some (.int .i64 p3) ∧ W.cell? ⟨g, o + k * 6 + 4, none⟩ = some (.int .i64 p4) ∧ W.cell? ⟨g, o + k * 6 + 5, none⟩ = some (.string p5) ∧ Below w2.heap.size w2 W from
    ⟨(HH.out.keep hb).cell 0, (HH.out.keep hb).cell 2, (hb.cell (p := ⟨g, o + k * 6, none⟩) HGL.out).trans AA.out.1, (hb.cell (p := ⟨g, o + k * 6 + 1, none⟩) HGL.out).trans AA.out.2.1, (hb.cell (p := ⟨g, o + k * 6 + 2, none⟩) HGL.out).trans AA.out.2.2.1, (hb.cell (p := ⟨g, o + k * 6 + 3, none⟩) HGL.out).trans AA.out.2.2.2.1, (hb.cell (p := ⟨g, o + k * 6 + 4, none⟩) HGL.out).trans AA.out.2.2.2.2.1, (hb.cell (p := ⟨g, o + k * 6 + 5, none⟩) HGL.out).trans AA.out.2.2.2.2.2, hb⟩)
  have HS0 := Lib.hid (HS.out _ (Below.refl _ _).drew)
  have HBL := Lib.hid (fun W (h : W.cell? ⟨w1.heap.size, 0, none⟩ = some (.slice nA nn nc) ∧ W.cell? ⟨w1.heap.size, 2, none⟩ = some (.slice (some ⟨g, o, none⟩) pn pc) ∧ W.cell? ⟨g, o + k * 6, none⟩ = some (.int .i64 p0) ∧ W.cell? ⟨g, o + k * 6 + 1, none⟩ = some (.int .i64 p1) ∧ W.cell? ⟨g, o + k * 6 + 2, none⟩ = some (.int .i64 p2) ∧ W.cell? ⟨g, o + k * 6 + 3, none⟩ = some (.int .i64 p3) ∧ W.cell? ⟨g, o + k * 6 + 4, none⟩ = some (.int .i64 p4) ∧ W.cell? ⟨g, o + k * 6 + 5, none⟩ = some (.string p5) ∧ Below w2.heap.size w2 W) => h.2.2.2.2.2.2.2.2)
  have CP2 := Lib.hid (fun W (hb : Below w2.heap.size w2 W) => CP.out W (KB.out.trans (hb.mono KB.out.size)))
  clear a0 a1 a2 a3 a4 a5 hcl q1 hpn CP hg HPD
  cases r with
  | none =>
    have HBAD := Lib.hid (HA3.out rfl)
    clear HA3 HA4 HLG
    go_region_held3 (fun W => W.cell? ⟨w1.heap.size, 0, none⟩ = some (.slice nA nn nc) ∧ W.cell? ⟨w1.heap.size, 2, none⟩ = some (.slice (some ⟨g, o, none⟩) pn pc) ∧ W.cell? ⟨g, o + k * 6, none⟩ = some (.int .i64 p0) ∧ W.cell? ⟨g, o + k * 6 + 1, none⟩ = some (.int .i64 p1) ∧ W.cell? ⟨g, o + k * 6 + 2, none⟩ = some (.int .i64 p2) ∧ W.cell? ⟨g, o + k * 6 + 3, none⟩ = some (.int .i64 p3) ∧ W.cell? ⟨g, o + k * 6 + 4, none⟩ = some (.int .i64 p4) ∧ W.cell? ⟨g, o + k * 6 + 5, none⟩ = some (.string p5) ∧ Below w2.heap.size w2 W) (first | exact HS0.out | assumption | go_keep)
      (first
        | (go_at_call 44; refine (CP2.out _ (HBL.out _ (by assumption))).mono ?_; rintro x w3 ⟨v, er2, rfl, ⟨rA, rn, rc, rfl⟩, hE, hr, b3⟩; obtain rfl : er2 = 12 := hE; have h3 := HS.out w3 ((HBL.out _ (by assumption)).trans (b3.mono (HBL.out _ (by assumption)).size)))
        | fail)
    all_goals
      rename_i hh
      have HH2 := Lib.hid (HBL.out _ hh)
      clear hh
      go_wp2
      go_returns
      exact AtQ.of HBAD.out (KB.out.trans (HH2.out.mono KB.out.size))
  | some L =>
    obtain ⟨hl1, hl2, hl3⟩ := HLG.out L rfl
    have HF := Lib.hid (HA4.out L rfl)
    have ha0 : 0 ≤ at_ - (p0 : Int) ∧ at_ - (p0 : Int) ≤ 1099511627776 := by have := HE.out; have := HTT.out; have := HR.out; omega
    have CL := Lib.hid (fun V W (hV : Si.RnArg W V L) => levelAt_any L V (at_ - (p0 : Int)) W hV ha0 (fun x hx => by have := hl2 x hx; exact ⟨this.2.2.1, this.2.2.2⟩) (by rw [hl1]; have := HE.out; omega) (by omega))
    have ha1 : at_ ≤ 1099511627776 := by have := HTT.out; have := HR.out; omega
    have ha2 : 0 ≤ at_ := HR.out.1
    have hp0b : (p0 : Int) ≤ at_ := HE.out.1
    clear HA3 HA4 HLG hl1 hl2 hl3
    go_region_held3 (fun W => W.cell? ⟨w1.heap.size, 0, none⟩ = some (.slice nA nn nc) ∧ W.cell? ⟨w1.heap.size, 2, none⟩ = some (.slice (some ⟨g, o, none⟩) pn pc) ∧ W.cell? ⟨g, o + k * 6, none⟩ = some (.int .i64 p0) ∧ W.cell? ⟨g, o + k * 6 + 1, none⟩ = some (.int .i64 p1) ∧ W.cell? ⟨g, o + k * 6 + 2, none⟩ = some (.int .i64 p2) ∧ W.cell? ⟨g, o + k * 6 + 3, none⟩ = some (.int .i64 p3) ∧ W.cell? ⟨g, o + k * 6 + 4, none⟩ = some (.int .i64 p4) ∧ W.cell? ⟨g, o + k * 6 + 5, none⟩ = some (.string p5) ∧ Below w2.heap.size w2 W) (first | exact HS0.out | assumption | go_keep)
      (first
        | (go_at_call 44; refine (CP2.out _ (HBL.out _ (by assumption))).mono ?_; rintro x w3 ⟨v, er2, rfl, ⟨rA, rn, rc, rfl⟩, hE, hr, b3⟩; obtain rfl : er2 = 0 := hE; have HRN := Lib.hid (KRow.arg Si.rnC_size hr); have h3 := HS.out w3 ((HBL.out _ (by assumption)).trans (b3.mono (HBL.out _ (by assumption)).size)))
        | fail)
    rename_i hh
    have HH2 := Lib.hid (HBL.out _ hh)
    have j2 := hh.2.1
    have j3 := hh.2.2.1
    clear hh
    go_wp2_with (first
      | (go_at_call 45; go_must (refine (CL.out _ _ HRN.out).mono ?_; rintro e w4 ⟨rfl, hb⟩; have HH3 := Lib.hid (HH2.out.trans (hb.mono HH2.out.size)); clear hb CL))
      | fail)
    go_returns
    exact AtQ.of HF.out (KB.out.trans (HH3.out.mono KB.out.size))

end Go.Proofs.YtillcmddbjhepaaGreatDoor

namespace Go.Proofs.YtillcmddbjhepaaGreatDoor
open Go Go.RowKit Go.Joins
set_option linter.unusedVariables false
set_option linter.unusedSimpArgs false

def RgQ (p : List Si.Rn × Nat) (w : World) (e : Ending) (w' : World) : Prop := ∃ v, e = .returned (.tuple #[v, .int .i64 p.2]) ∧ Si.RnRow w' w.heap.size v p.1 ∧ Below w.heap.size w w'
theorem RgQ.bad {p : List Si.Rn × Nat} {w w' : World} {y : Nat} (h : p = ([], y)) (hb : Below w.heap.size w w') : RgQ p w (.returned (.tuple #[.slice none 0 0, .int .i64 y])) w' := by subst h; exact ⟨_, rfl, KRow.nil _ _, hb⟩
theorem ptArg_sub {W : World} {B g n c k1 k2 : Nat} {P : List Pt} (h : PtRow W B (.slice (some ⟨g, 0, none⟩) n c) P) (h1 : k1 ≤ k2) (h2 : k2 < P.length) (c2 : Nat) : PtArg W (.slice (some ⟨g, k1 * 6, none⟩) (k2 + 1 - k1) c2) (sub P k1 k2) := by
  have hl := sub_len P k1 k2 h1 h2
  refine ⟨some ⟨g, k1 * 6, none⟩, c2, by rw [hl], fun _ => ⟨g, k1 * 6, rfl, ?_, fun j hj i hi => ?_⟩⟩
  · exact (KRow.lt h g rfl).2
  · rw [sub_at _ _ _ _ hj (by omega), ← KRow.cell ptC_size h (k1 + j) (by omega) i hi, Nat.add_mul]

set_option maxRecDepth 100000 in
set_option maxHeartbeats 8000000 in
theorem Range_any (s : ByteArray) (f t : Int) (w : World) (hEn : Sd.Env w) (hs : s.size ≤ 140737488351232) :
    Calls Tryz.prog 20 #[.string s, .int .i64 f, .int .i64 t] w (RgQ (rgR s.data.toList f t) w) := by
  have hsl := size_len s
  have CH := Lib.hid (fun (_ : Unit) => readHead_any s w hEn hs)
  obtain ⟨q, hq⟩ : ∃ q, rgR s.data.toList f t = q := ⟨_, rfl⟩
  obtain ⟨⟨⟨N, R, T, E, b⟩, er⟩, h⟩ : ∃ p, rd s.data.toList = p := ⟨_, rfl⟩
  have HLP := Lib.hid (hdPts_small s.data.toList)
  have HMO := Lib.hid (hdPts_mono s.data.toList)
  unfold HdR at CH
  rw [hq]
  by_cases c : er = 0
  case neg =>
    have HBAD := Lib.hid (show q = ([], er) by rw [← hq, rgR_1 (by rw [h]; exact c), h])
    rw [h] at CH
    simp only at CH
    have c' : ((er : Int) != 0) = true := by simp; omega
    clear h hq hsl
    go_enter Tryz.func20, Tryz.ntmps20
    go_wp2_with (first
      | (go_at_call 38; go_must (refine (CH.out ()).mono ?_; rintro e w1 ⟨vN, vP, T1, er1, rfl, hE, hT, hb, hN, hP⟩; obtain rfl : er1 = er := hE; obtain rfl : T1 = T := hT; obtain ⟨nA, nn, nc, rfl, hnn⟩ := KRow.form hN; obtain ⟨pA, pn, pc, rfl, hpn⟩ := KRow.form hP; have KB := Lib.hid (hb.alloc hb.size (.cells #[.slice nA nn nc, .int .i64 T1, .slice pA pn pc] 71)); clear hnn hpn hb hN hP CH))
      | fail)
    go_returns
    exact RgQ.bad HBAD.out KB.out
  subst c
  have HOK := Lib.hid (hdPts_ok h (by rw [← hsl]; exact hs))
  have HTT := Lib.hid (show T ≤ 1099511627776 by
    rcases rd_form s.data.toList with ⟨e, h0, hx⟩ | ⟨N', R', T', E', b', hx, _, hy⟩
    · rw [h] at hx; injection hx with _ hx; exact absurd hx.symm h0
    · rw [h] at hx
      injection hx with hx _
      injection hx with _ hx
      injection hx with _ hx
      injection hx with hx _
      rw [hx]
      exact (rH_inv hy).1)
  have HN16 := Lib.hid (show N.length ≤ 16 by
    obtain ⟨a1, a2, a3, a4, h0, h1, _⟩ := rd_inv h
    exact (rNm_le h1 (rH_st h0).2).2.1)
  have CF0 := Lib.hid (fun at_ vN vP W (hP : PtArg W vP (hdPts s.data.toList)) => find_any (hdPts s.data.toList) vN vP T at_ W hP HLP.out HMO.out)
  unfold FnR at CF0
  by_cases hr : 0 ≤ f ∧ f < t ∧ t ≤ T
  case neg =>
    have HBAD := Lib.hid (show q = ([], 2) by rw [← hq, rgR_2 h hr])
    obtain ⟨ch, hch⟩ : ∃ ch, N.length = ch := ⟨_, rfl⟩
    have HCH := Lib.hid hch
    rw [h] at CH
    simp only at CH
    clear h hq hsl CF0 hch
    by_cases d1 : f < 0
    · clear hr
      go_enter Tryz.func20, Tryz.ntmps20
      go_wp2_with (first
        | (go_at_call 38; go_must (refine (CH.out ()).mono ?_; rintro e w1 ⟨vN, vP, T1, er1, rfl, hE, hT, hb, hN, hP⟩; obtain rfl : er1 = 0 := hE; obtain rfl : T1 = T := hT; obtain ⟨nA, nn, nc, rfl, hnn⟩ := KRow.form hN; obtain ⟨pA, pn, pc, rfl, hpn⟩ := KRow.form hP; obtain rfl : nn = ch := hnn.trans HCH.out; have HH := Lib.hid (RowAt.new w1 71 #[.slice nA nn nc, .int .i64 T1, .slice pA pn pc]); have HP := Lib.hid (KRow.alloc hP (.cells #[.slice nA nn nc, .int .i64 T1, .slice pA pn pc] 71)); have HLW := Lib.hid hb.size; have j1 : (w1.alloc (.cells #[.slice nA nn nc, .int .i64 T1, .slice pA pn pc] 71)).cell? ⟨w1.heap.size, 1, none⟩ = some (.int .i64 T1) := HH.out.cell 1; have KB := Lib.hid (hb.alloc hb.size (.cells #[.slice nA nn nc, .int .i64 T1, .slice pA pn pc] 71)); clear hnn hpn hb hN hP CH))
        | fail)
      go_returns
      exact RgQ.bad HBAD.out KB.out
    · by_cases d2 : t ≤ f
      · have d2' : decide (t ≤ f) = true := decide_eq_true d2
        have d1' : decide (f < 0) = false := decide_eq_false d1
        clear hr
        go_enter Tryz.func20, Tryz.ntmps20
        go_wp2_with (first
          | (go_at_call 38; go_must (refine (CH.out ()).mono ?_; rintro e w1 ⟨vN, vP, T1, er1, rfl, hE, hT, hb, hN, hP⟩; obtain rfl : er1 = 0 := hE; obtain rfl : T1 = T := hT; obtain ⟨nA, nn, nc, rfl, hnn⟩ := KRow.form hN; obtain ⟨pA, pn, pc, rfl, hpn⟩ := KRow.form hP; obtain rfl : nn = ch := hnn.trans HCH.out; have HH := Lib.hid (RowAt.new w1 71 #[.slice nA nn nc, .int .i64 T1, .slice pA pn pc]); have HP := Lib.hid (KRow.alloc hP (.cells #[.slice nA nn nc, .int .i64 T1, .slice pA pn pc] 71)); have HLW := Lib.hid hb.size; have j1 : (w1.alloc (.cells #[.slice nA nn nc, .int .i64 T1, .slice pA pn pc] 71)).cell? ⟨w1.heap.size, 1, none⟩ = some (.int .i64 T1) := HH.out.cell 1; have KB := Lib.hid (hb.alloc hb.size (.cells #[.slice nA nn nc, .int .i64 T1, .slice pA pn pc] 71)); clear hnn hpn hb hN hP CH))
          | fail)
        go_returns
        exact RgQ.bad HBAD.out KB.out
      · have d3 : (T : Int) < t := by omega
        have d2' : decide (t ≤ f) = false := decide_eq_false d2
        have d1' : decide (f < 0) = false := decide_eq_false d1
        clear hr
        go_enter Tryz.func20, Tryz.ntmps20
        go_wp2_with (first
          | (go_at_call 38; go_must (refine (CH.out ()).mono ?_; rintro e w1 ⟨vN, vP, T1, er1, rfl, hE, hT, hb, hN, hP⟩; obtain rfl : er1 = 0 := hE; obtain rfl : T1 = T := hT; obtain ⟨nA, nn, nc, rfl, hnn⟩ := KRow.form hN; obtain ⟨pA, pn, pc, rfl, hpn⟩ := KRow.form hP; obtain rfl : nn = ch := hnn.trans HCH.out; have HH := Lib.hid (RowAt.new w1 71 #[.slice nA nn nc, .int .i64 T1, .slice pA pn pc]); have HP := Lib.hid (KRow.alloc hP (.cells #[.slice nA nn nc, .int .i64 T1, .slice pA pn pc] 71)); have HLW := Lib.hid hb.size; have j1 : (w1.alloc (.cells #[.slice nA nn nc, .int .i64 T1, .slice pA pn pc] 71)).cell? ⟨w1.heap.size, 1, none⟩ = some (.int .i64 T1) := HH.out.cell 1; have KB := Lib.hid (hb.alloc hb.size (.cells #[.slice nA nn nc, .int .i64 T1, .slice pA pn pc] 71)); clear hnn hpn hb hN hP CH))
          | fail)
        go_returns
        exact RgQ.bad HBAD.out KB.out
  have hf : 0 ≤ f ∧ f < (T : Int) := by omega
  have ht : 0 ≤ t - 1 ∧ t - 1 < (T : Int) := by omega
  have hk1 := plc_P h hf
  have hk2 := plc_P h ht
  have hk12 := plc_mono h hf.1 (show f ≤ t - 1 by omega) ht.2
  have he : ((hdPts s.data.toList)[plc E f E.length]'hk1).1 ≤ f ∧ f < (((hdPts s.data.toList)[plc E f E.length]'hk1).2.1 : Int) := plc_ends h hf
  have he2 : ((hdPts s.data.toList)[plc E (t - 1) E.length]'hk2).1 ≤ t - 1 ∧ t - 1 < (((hdPts s.data.toList)[plc E (t - 1) E.length]'hk2).2.1 : Int) := plc_ends h ht
  have hcn := hdPts_chnP h (plc E f E.length) (plc E (t - 1) E.length)
  have CF := Lib.hid (fun vN vP W (hP : PtArg W vP (hdPts s.data.toList)) => (CF0.out f vN vP W hP).mono (fun e w' hx => by
    rw [if_pos hf] at hx
    obtain ⟨hb, k, he, hk⟩ := hx
    rw [fdI_plc h hf.1 hf.2 hk] at he
    exact (⟨he, hb⟩ : e = .returned (.tuple #[.int .i64 (plc E f E.length), .int .i64 0]) ∧ Below W.heap.size W w')))
  have CG := Lib.hid (fun vN vP W (hP : PtArg W vP (hdPts s.data.toList)) => (CF0.out (t - 1) vN vP W hP).mono (fun e w' hx => by
    rw [if_pos ht] at hx
    obtain ⟨hb, k, he, hk⟩ := hx
    rw [fdI_plc h ht.1 ht.2 hk] at he
    exact (⟨he, hb⟩ : e = .returned (.tuple #[.int .i64 (plc E (t - 1) E.length), .int .i64 0]) ∧ Below W.heap.size W w')))
  have HA3 := Lib.hid (rgR_3 h hr)
  have HA4 := Lib.hid (fun L => rgR_4 h hr hk1 (L := L))
  rw [hq] at HA3 HA4
  rw [h] at CH
  simp only at CH
  obtain ⟨ch, hch⟩ : ∃ ch, N.length = ch := ⟨_, rfl⟩
  have HCH := Lib.hid hch
  rw [hch] at HA3 HA4 HN16
  clear h hq hsl CF0 hch HMO
  generalize hP : hdPts s.data.toList = P at *
  generalize hkk1 : plc E f E.length = k1 at *
  generalize hkk2 : plc E (t - 1) E.length = k2 at *
  clear hP hkk1 hkk2
  obtain ⟨p0, hp0⟩ : ∃ p0, P[k1].1 = p0 := ⟨_, rfl⟩
  obtain ⟨r, hrr⟩ : ∃ r, pBs ch (sub P k1 k2) = r := ⟨_, rfl⟩
  have hsl := sub_len P k1 k2 hk12 hk2
  have CP := Lib.hid (fun W (hW : Below w.heap.size w W) vQ vP nA nc (hQ : PtArg W vQ (sub P k1 k2)) => readParts_any (sub P k1 k2) vQ vP nA ch nc T W (hEn.below hW) hQ (fun p hp => HOK.out p (sub_mem hp)) (by have := HLP.out; omega) HN16.out)
  rw [hrr] at CP
  have HLG := Lib.hid (fun L (hL : r = some L) => show Si.vr ((2 ^ ch - 1 : Nat) : Int) 0 L = true ∧ L.length ≤ 262144 from by
    rw [hL] at hrr
    have h1 := pBs_lg hcn hrr (by omega)
    obtain ⟨h2, h3⟩ := pBs_all (fun p hp => HOK.out p (sub_mem hp)) hrr
    have e0 : (sub P k1 k2)[0]'(by omega) = P[k1] := by rw [sub_at _ _ _ _ _ (by omega)]; rfl
    have e1 : (sub P k1 k2)[(sub P k1 k2).length - 1]'(by omega) = P[k2] := by
      rw [sub_at _ _ _ _ _ (by omega)]
      congr 1
      omega
    rw [e0, e1] at h1
    have h4 := (HOK.out _ (List.getElem_mem hk2)).2.1
    refine ⟨(Si.vr_iff _ _ 0 (by omega)).2 ⟨fun x hx => ?_, fun x hx => (h2 x hx).2.2.1, by omega⟩, by have := HLP.out; omega⟩
    exact ⟨(h2 x hx).1, (h2 x hx).2.1⟩)
  rw [hrr, hp0] at HA4
  rw [hrr] at HA3
  rw [hp0] at he
  have HE := Lib.hid he.1
  have HR := Lib.hid hr
  have HKP := Lib.hid (show k1 ≤ k2 ∧ k2 < P.length from ⟨hk12, hk2⟩)
  have HPC := Lib.hid (show ∀ h : k1 < P.length, P[k1].1 = p0 from fun _ => hp0)
  have d1 : ¬ f < 0 := by omega
  have d2 : ¬ t ≤ f := by omega
  have d3 : ¬ (T : Int) < t := by omega
  have d1' : decide (f < 0) = false := decide_eq_false d1
  have d2' : decide (t ≤ f) = false := decide_eq_false d2
  have d3' : decide ((T : Int) < t) = false := decide_eq_false d3
  have hwt : IntKind.i64.wrap (t - 1) = t - 1 := IntWalk.i64_in _ (by have := HTT.out; omega)
  have hfb : f ≤ 1099511627776 := by have := HTT.out; omega
  have htb : t ≤ 1099511627776 := by have := HTT.out; omega
  clear hp0 hrr hEn he he2 hr hk1 hk2 hk12 hcn hsl hf ht
  go_enter Tryz.func20, Tryz.ntmps20
  go_wp2_with (first
    | (go_at_call 38; go_must (refine (CH.out ()).mono ?_; rintro e w1 ⟨vN, vP, T1, er1, rfl, hE, hT, hb, hN, hP⟩; obtain rfl : er1 = 0 := hE; obtain rfl : T1 = T := hT; obtain ⟨nA, nn, nc, rfl, hnn⟩ := KRow.form hN; obtain ⟨pA, pn, pc, rfl, hpn⟩ := KRow.form hP; obtain rfl : nn = ch := hnn.trans HCH.out; have HH := Lib.hid (RowAt.new w1 71 #[.slice nA nn nc, .int .i64 T1, .slice pA pn pc]); have HP := Lib.hid (KRow.alloc hP (.cells #[.slice nA nn nc, .int .i64 T1, .slice pA pn pc] 71)); have HLW := Lib.hid hb.size; have j1 : (w1.alloc (.cells #[.slice nA nn nc, .int .i64 T1, .slice pA pn pc] 71)).cell? ⟨w1.heap.size, 1, none⟩ = some (.int .i64 T1) := HH.out.cell 1; have KB := Lib.hid (hb.alloc hb.size (.cells #[.slice nA nn nc, .int .i64 T1, .slice pA pn pc] 71)); clear hnn hpn hb hN hP CH))
    | (go_at_call 42; go_must (first
      | (have tok := T5.out; (with_reducible refine (CG.out _ _ _ (KRow.arg ptC_size HP.out)).mono ?_); rintro e w3 ⟨rfl, hb⟩; replace KB := Lib.hid (KB.out.trans (hb.mono KB.out.size)); replace HH := Lib.hid (HH.out.keep hb); replace HP := Lib.hid (KRow.keep HP.out hb); clear hb CG)
      | ((with_reducible refine (CF.out _ _ _ (KRow.arg ptC_size HP.out)).mono ?_); rintro e w2 ⟨rfl, hb⟩; have T5 := Lib.hid trivial; replace KB := Lib.hid (KB.out.trans (hb.mono KB.out.size)); replace HH := Lib.hid (HH.out.keep hb); replace HP := Lib.hid (KRow.keep HP.out hb); have i0 : w2.cell? ⟨w1.heap.size, 0, none⟩ = some (.slice nA nn nc) := HH.out.cell 0; have i1 : w2.cell? ⟨w1.heap.size, 1, none⟩ = some (.int .i64 T1) := HH.out.cell 1; have i2 : w2.cell? ⟨w1.heap.size, 2, none⟩ = some (.slice pA pn pc) := HH.out.cell 2; clear hb CF)))
    | fail)
  obtain ⟨g, c, hvv⟩ := KRow.full HP.out (by have := HKP.out; omega)
  simp only [Value.slice.injEq] at hvv
  obtain ⟨rfl, hpn, rfl⟩ := hvv
  have HLE := Lib.hid (KRow.len HP.out)
  have hki : (k1 : Int) < (pn : Int) := by have := HKP.out; omega
  obtain ⟨m, hm⟩ : ∃ m, k2 + 1 = m := ⟨_, rfl⟩
  have hpi : (pn : Int) ≤ 16384 := by have := HLP.out; omega
  have hwm : IntKind.i64.wrap ((k2 : Int) + 1) = (m : Int) := by rw [show (k2 : Int) + 1 = (m : Int) by omega]; exact IntWalk.i64_in _ (by have := HKP.out; omega)
  have hm1 : (k1 : Int) ≤ (m : Int) := by have := HKP.out; omega
  have hm2 : (m : Int) ≤ (pc : Int) := by have := HKP.out; have := HLE.out; omega
  have hpk : ¬ pc = k1 := by have := HKP.out; have := HLE.out; omega
  have HGW := Lib.hid (KRow.lt HP.out g rfl).2
  have HS := Lib.hid (fun W (hb : Below w3.heap.size w3 W) => show W.cell? ⟨w1.heap.size, 0, none⟩ = some (.slice nA nn nc) ∧ W.cell? ⟨w1.heap.size, 1, none⟩ = some (.int .i64 T1) ∧ W.cell? ⟨w1.heap.size, 2, none⟩ = some (.slice (some ⟨g, 0, none⟩) pn pc) ∧ Below w3.heap.size w3 W from
    ⟨(HH.out.keep hb).cell 0, (HH.out.keep hb).cell 1, (HH.out.keep hb).cell 2, hb⟩)
  have HS0 := Lib.hid (HS.out _ (Below.refl _ _).drew)
  have HBL := Lib.hid (fun W (h : W.cell? ⟨w1.heap.size, 0, none⟩ = some (.slice nA nn nc) ∧ W.cell? ⟨w1.heap.size, 1, none⟩ = some (.int .i64 T1) ∧ W.cell? ⟨w1.heap.size, 2, none⟩ = some (.slice (some ⟨g, 0, none⟩) pn pc) ∧ Below w3.heap.size w3 W) => h.2.2.2)
  have HSB := Lib.hid (fun W (hb : Below w3.heap.size w3 W) c2 => ptArg_sub (KRow.keep HP.out hb) HKP.out.1 HKP.out.2 c2)
  rw [hm] at HSB
  have CP2 := Lib.hid (fun W (hb : Below w3.heap.size w3 W) c2 vP nA nc => CP.out W (KB.out.trans (hb.mono KB.out.size)) _ vP nA nc (HSB.out W hb c2))
  have HC0 := Lib.hid (fun W (hb : Below w3.heap.size w3 W) => show W.cell? ⟨g, k1 * 6, none⟩ = some (.int .i64 p0) by
    have h1 := KRow.cell ptC_size (KRow.keep HP.out hb) k1 (Nat.lt_of_le_of_lt HKP.out.1 HKP.out.2) 0 (by omega)
    rw [Nat.add_zero] at h1
    rw [h1]
    show some (Value.int .i64 _) = _
    rw [HPC.out])
  have HMM := Lib.hid hm
  clear hpn CP HSB hm
  cases r with
  | none =>
    have HBAD := Lib.hid (HA3.out rfl)
    clear HA3 HA4 HLG
    go_region_held3 (fun W => W.cell? ⟨w1.heap.size, 0, none⟩ = some (.slice nA nn nc) ∧ W.cell? ⟨w1.heap.size, 1, none⟩ = some (.int .i64 T1) ∧ W.cell? ⟨w1.heap.size, 2, none⟩ = some (.slice (some ⟨g, 0, none⟩) pn pc) ∧ Below w3.heap.size w3 W) (first | exact HS0.out | assumption | go_keep)
      (first
        | (go_at_call 39; refine (CP2.out _ (HBL.out _ (by assumption)) _ _ _ _).mono ?_; rintro x w4 ⟨v, er2, rfl, ⟨rA, rn, rc, rfl⟩, hE, hr, b3⟩; obtain rfl : er2 = 12 := hE; have h3 := HS.out w4 ((HBL.out _ (by assumption)).trans (b3.mono (HBL.out _ (by assumption)).size)))
        | fail)
    all_goals
      rename_i hh
      have HH2 := Lib.hid (HBL.out _ hh)
      clear hh
      go_wp2
      go_returns
      exact RgQ.bad HBAD.out (KB.out.trans (HH2.out.mono KB.out.size))
  | some L =>
    obtain ⟨hl1, hl2⟩ := HLG.out L rfl
    have HF := Lib.hid (HA4.out L rfl)
    have hp0b : (p0 : Int) ≤ f := HE.out
    have CC := Lib.hid (fun V W (hV : Si.RnArg W V L) => cut_any _ L V (f - (p0 : Int)) (t - (p0 : Int)) W hV hl2 hl1 (by omega) (by omega) (by have := HR.out; omega) (by omega))
    clear HA3 HA4 HLG hl1 hl2
    go_region_held3 (fun W => W.cell? ⟨w1.heap.size, 0, none⟩ = some (.slice nA nn nc) ∧ W.cell? ⟨w1.heap.size, 1, none⟩ = some (.int .i64 T1) ∧ W.cell? ⟨w1.heap.size, 2, none⟩ = some (.slice (some ⟨g, 0, none⟩) pn pc) ∧ Below w3.heap.size w3 W) (first | exact HS0.out | assumption | go_keep)
      (first
        | (go_at_call 39; refine (CP2.out _ (HBL.out _ (by assumption)) _ _ _ _).mono ?_; rintro x w4 ⟨v, er2, rfl, ⟨rA, rn, rc, rfl⟩, hE, hr, b3⟩; obtain rfl : er2 = 0 := hE; have HRN := Lib.hid (KRow.arg Si.rnC_size hr); have h3 := HS.out w4 ((HBL.out _ (by assumption)).trans (b3.mono (HBL.out _ (by assumption)).size)))
        | fail)
    rename_i hh
    have HH2 := Lib.hid (HBL.out _ hh)
    have j2 := hh.2.2.1
    have j3 := HC0.out _ HH2.out
    clear hh
    go_wp2_with (first
      | (go_at_call 46; go_must (refine (CC.out _ _ HRN.out).mono ?_; rintro e w5 ⟨v5, rfl, hr5, hb⟩; have HR5 := Lib.hid hr5; have HH3 := Lib.hid (HH2.out.trans (hb.mono HH2.out.size)); have HSZ := Lib.hid (Nat.le_trans KB.out.size HH2.out.size); obtain ⟨fA, fn, fc, rfl, hfn⟩ := KRow.form hr5; clear hb CC hr5 hfn))
      | fail)
    go_returns
    rw [HF.out]
    exact ⟨_, rfl, KRow.mono HR5.out HSZ.out, KB.out.trans (HH3.out.mono KB.out.size)⟩

end Go.Proofs.YtillcmddbjhepaaGreatDoor
