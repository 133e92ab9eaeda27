/-
  The walk of the statement BlockReads.
  The walk of the statement BlockDamage. (Written by tools/s10_genl7.py.)
-/
import Derived.Test.YtillcmddbjhepaaGreatDoorZ40
import Derived.Test.YtillcmddbjhepaaGreatDoorZ30
import Derived.Test.YtillcmddbjhepaaGreatDoorZ37
import Derived.Test.YtillcmddbjhepaaGreatDoorZ23
import Derived.Test.YtillcmddbjhepaaGreatDoorZ34
namespace Go.Proofs.YtillcmddbjhepaaGreatDoor
open Go Go.RowKit Go.Joins
open Go.BigFrame
set_option linter.unusedVariables false
set_option linter.unusedSimpArgs false

set_option maxRecDepth 100000 in
set_option maxHeartbeats 8000000 in
theorem law_reads (s : ByteArray) (at_ f t : Int) (w : World) (hE : Sd.Env w) :
    Calls Tryz.prog 5 #[.string s, .int .i64 at_, .agg #[.int .i64 f, .int .i64 t]] w fun e w' => e = .returned (.bool true) ∧ Below w.heap.size w w' := by
  have KB := Lib.hid (ba w (.cells #[.int .i64 f, .int .i64 t] 35))
  have RB := Lib.hid (RowAt.new w 35 #[.int .i64 f, .int .i64 t])
  have i0 := RB.out.cell 0
  have k0 := RB.out.cell 1
  have CA := Lib.hid (fun W (hb : Below w.heap.size w W) => awake_any W (hE.below hb))
  by_cases hsm : s.size ≤ 800
  · have hsi : (s.size : Int) ≤ 800 := by omega
    have hsd : decide ((800 : Int) < s.size) = false := decide_eq_false (by omega)
    have C1 := Lib.hid (fun W (hb : Below w.heap.size w W) => count_any s W (hE.below hb) (by omega))
    have C2 := Lib.hid (fun W (hb : Below w.heap.size w W) => rCount_any s W (by omega))
    have C3 := Lib.hid (fun W (hb : Below w.heap.size w W) => (Find_any s at_ W (hE.below hb) (by omega)).mono fun e w' hx => hx.val)
    have C4 := Lib.hid (fun W (hb : Below w.heap.size w W) => rFind_any s at_ W (by omega))
    have C5 := Lib.hid (fun W (hb : Below w.heap.size w W) => At_any s at_ W (hE.below hb) (by omega))
    have C6 := Lib.hid (fun W (hb : Below w.heap.size w W) => rAt_any s at_ W (by omega))
    have C7 := Lib.hid (fun W (hb : Below w.heap.size w W) => Range_any s f t W (hE.below hb) (by omega))
    have C8 := Lib.hid (fun W (hb : Below w.heap.size w W) => rRange_any s f t W (by omega))
    have HRL := Lib.hid (rgR_len s.data.toList f t (by rw [← size_len]; omega))
    generalize (rd s.data.toList).1.2.2.2.1.length = n1 at *
    generalize (rd s.data.toList).2 = n2 at *
    generalize fdR s.data.toList at_ = p1 at *
    generalize atR s.data.toList at_ = p2 at *
    generalize rgR s.data.toList f t = p3 at *
    obtain ⟨a1, b1⟩ := p1
    obtain ⟨a2, b2⟩ := p2
    obtain ⟨L, b3⟩ := p3
    unfold AtQ at C5 C6
    unfold RgQ at C7 C8
    simp only at C3 C4 C5 C6 C7 C8 HRL
    have CX := Lib.hid (fun v1 v2 W (h1 : Si.RnArg W v1 L) (h2 : Si.RnArg W v2 L) => same_any L v1 v2 W h1 h2 HRL.out)
    clear hE
    go_enter Tryz.func5, Tryz.ntmps5
    go_wp2_with (first
      | (go_at_call 8; go_must (refine (CA.out _ KB.out).mono ?_; rintro e w9 ⟨rfl, hb⟩; replace KB := Lib.hid (KB.out.trans (hb.mono KB.out.size)); clear hb))
      | (go_at_call 14; go_must (refine (C1.out _ KB.out).mono ?_; rintro e w1 ⟨rfl, hb⟩; replace KB := Lib.hid (KB.out.trans (hb.mono KB.out.size)); replace RB := Lib.hid (RB.out.keep hb); have i1 := RB.out.cell 0; have k1 := RB.out.cell 1; clear hb C1 i0 k0))
      | (go_at_call 15; go_must (refine (C2.out _ KB.out).mono ?_; rintro e w2 ⟨rfl, hb⟩; replace KB := Lib.hid (KB.out.trans (hb.mono KB.out.size)); replace RB := Lib.hid (RB.out.keep hb); have i2 := RB.out.cell 0; have k2 := RB.out.cell 1; clear hb C2 i1 k1))
      | (go_at_call 16; go_must (refine (C3.out _ KB.out).mono ?_; rintro e w3 ⟨rfl, hb⟩; replace KB := Lib.hid (KB.out.trans (hb.mono KB.out.size)); replace RB := Lib.hid (RB.out.keep hb); have i3 := RB.out.cell 0; have k3 := RB.out.cell 1; clear hb C3 i2 k2))
      | (go_at_call 17; go_must (refine (C4.out _ KB.out).mono ?_; rintro e w4 ⟨rfl, hb⟩; replace KB := Lib.hid (KB.out.trans (hb.mono KB.out.size)); replace RB := Lib.hid (RB.out.keep hb); have i4 := RB.out.cell 0; have k4 := RB.out.cell 1; clear hb C4 i3 k3))
      | (go_at_call 18; go_must (refine (C5.out _ KB.out).mono ?_; rintro e w5 ⟨rfl, hb⟩; replace KB := Lib.hid (KB.out.trans (hb.mono KB.out.size)); replace RB := Lib.hid (RB.out.keep hb); have i5 := RB.out.cell 0; have k5 := RB.out.cell 1; clear hb C5 i4 k4))
      | (go_at_call 19; go_must (refine (C6.out _ KB.out).mono ?_; rintro e w6 ⟨rfl, hb⟩; replace KB := Lib.hid (KB.out.trans (hb.mono KB.out.size)); replace RB := Lib.hid (RB.out.keep hb); have i6 := RB.out.cell 0; have k6 := RB.out.cell 1; clear hb C6 i5 k5))
      | (go_at_call 20; go_must (refine (C7.out _ KB.out).mono ?_; rintro e w7 ⟨v, rfl, hr, hb⟩; obtain ⟨rA1, rn1, rc1, rfl, hrn⟩ := KRow.form hr; have HR1 := Lib.hid hr; replace KB := Lib.hid (KB.out.trans (hb.mono KB.out.size)); replace RB := Lib.hid (RB.out.keep hb); have i7 := RB.out.cell 0; have k7 := RB.out.cell 1; clear hb hr hrn C7 i6 k6))
      | (go_at_call 21; go_must (refine (C8.out _ KB.out).mono ?_; rintro e w8 ⟨v, rfl, hr, hb⟩; obtain ⟨rA2, rn2, rc2, rfl, hrn⟩ := KRow.form hr; have HR2 := Lib.hid hr; replace HR1 := Lib.hid (KRow.keep HR1.out hb); replace KB := Lib.hid (KB.out.trans (hb.mono KB.out.size)); clear hb hr hrn C8 i7 k7))
      | (go_at_call 22; go_must (refine (CX.out _ _ _ (KRow.arg Si.rnC_size HR1.out) (KRow.arg Si.rnC_size HR2.out)).mono ?_; rintro e w9 ⟨rfl, hb⟩; replace KB := Lib.hid (KB.out.trans (hb.mono KB.out.size)); clear hb CX))
      | fail)
    go_returns
    exact ⟨by simp, KB.out⟩
  · have hsi : ¬ (s.size : Int) ≤ 800 := by omega
    have hsd : decide ((800 : Int) < s.size) = true := decide_eq_true (by omega)
    clear hE
    go_enter Tryz.func5, Tryz.ntmps5
    go_wp2_with (first
      | (go_at_call 8; go_must (refine (CA.out _ KB.out).mono ?_; rintro e w9 ⟨rfl, hb⟩; replace KB := Lib.hid (KB.out.trans (hb.mono KB.out.size)); clear hb))
      | fail)
    go_returns
    exact ⟨rfl, KB.out⟩

end Go.Proofs.YtillcmddbjhepaaGreatDoor

namespace Go.Proofs.YtillcmddbjhepaaGreatDoor
open Go Go.RowKit Go.Joins
open Go.BigFrame
set_option linter.unusedVariables false
set_option linter.unusedSimpArgs false

set_option maxRecDepth 100000 in
set_option maxHeartbeats 8000000 in
theorem law_damage (N : List ByteArray) (R : List Si.Rn) (vN vR : Value) (p v a : Int) (w : World) (hE : Sd.Env w) (hN : Si.NmArg w vN N) (hs : Si.szs N) (hR : Si.RnArg w vR R) :
    Calls Tryz.prog 6 #[.agg #[vN, vR], .agg #[.int .i64 p, .int .i64 v, .int .i64 a]] w fun e w' => e = .returned (.bool true) ∧ Below w.heap.size w w' := by
  have KB := Lib.hid ((ba w (.cells #[vN, vR] 25)).alloc (le_alloc (Nat.le_refl _) _) (.cells #[.int .i64 p, .int .i64 v, .int .i64 a] 43))
  have RB := Lib.hid ((RowAt.new w 25 #[vN, vR]).alloc (.cells #[.int .i64 p, .int .i64 v, .int .i64 a] 43))
  have RA := Lib.hid (show RowAt ((w.alloc (.cells #[vN, vR] 25)).alloc (.cells #[.int .i64 p, .int .i64 v, .int .i64 a] 43)) (w.heap.size + 1) 43 #[.int .i64 p, .int .i64 v, .int .i64 a] from RowAt.at (by rw [World.size_alloc]))
  have CA := Lib.hid (fun W (hb : Below w.heap.size w W) => awake_any W (hE.below hb))
  have CS := Lib.hid (fun W (hb : Below w.heap.size w W) => small_any N R vN vR W (hN.keep hb) (hR.keep hb))
  by_cases hsm : smP N R
  case neg =>
    rw [decide_eq_false hsm] at CS
    obtain ⟨A1, c1, rfl, _⟩ := hN.form
    obtain ⟨A2, c2, rfl⟩ := KArg.form hR
    have j0 := RB.out.cell 0
    have j1 := RB.out.cell 1
    clear hE hN hs hR hsm
    go_enter Tryz.func6, Tryz.ntmps6
    go_wp2_with (first
      | (go_at_call 7; go_must (refine (CS.out _ KB.out).mono ?_; rintro e w1 ⟨rfl, hb⟩; replace KB := Lib.hid (KB.out.trans (hb.mono KB.out.size)); replace RB := Lib.hid (RB.out.keep hb); replace RA := Lib.hid (RA.out.keep hb); clear j0 j1; clear hb CS))
      | (go_at_call 8; go_must (refine (CA.out _ KB.out).mono ?_; rintro e w9 ⟨rfl, hb⟩; replace KB := Lib.hid (KB.out.trans (hb.mono KB.out.size)); clear hb))
      | fail)
    go_returns
    exact ⟨rfl, KB.out⟩
  rw [decide_eq_true hsm] at CS
  have CE := Lib.hid (fun W (hb : Below w.heap.size w W) => rencode_any N R vN vR W (hN.keep hb) hs (hR.keep hb) (by have := hsm.1; omega))
  unfold encS at CE
  obtain ⟨z, hz⟩ : ∃ z, Si.ckC N R = z := ⟨_, rfl⟩
  rw [hz] at CE
  by_cases cz : z = 0
  case neg =>
    have cz' : (z != 0) = true := by simp; omega
    rw [if_neg cz] at CE
    have CH := Lib.hid (fun (S : ByteArray) (hS : S.data.toList = []) W => show Calls Tryz.prog 23 #[.string S] W (HhR (noH, 5) W) by
      have h := rReadHead_any S W (by rw [size_len, hS]; simp)
      rw [hS, show rd [] = (noH, 5) from rd_0 (l := []) (by decide)] at h
      exact h)
    have HS := Lib.hid (fun (S : ByteArray) (hS : S.data.toList = []) => trivial)
    unfold HhR at CH
    obtain ⟨A1, c1, rfl, _⟩ := hN.form
    obtain ⟨A2, c2, rfl⟩ := KArg.form hR
    have j0 := RB.out.cell 0
    have j1 := RB.out.cell 1
    clear hE hN hs hR hsm cz hz
    go_enter Tryz.func6, Tryz.ntmps6
    go_wp2_with (first
      | (go_at_call 7; go_must (refine (CS.out _ KB.out).mono ?_; rintro e w1 ⟨rfl, hb⟩; replace KB := Lib.hid (KB.out.trans (hb.mono KB.out.size)); replace RB := Lib.hid (RB.out.keep hb); replace RA := Lib.hid (RA.out.keep hb); clear j0 j1; have j0 := RB.out.cell 0; have j1 := RB.out.cell 1; clear hb CS))
      | (go_at_call 8; go_must (refine (CA.out _ KB.out).mono ?_; rintro e w9 ⟨rfl, hb⟩; replace KB := Lib.hid (KB.out.trans (hb.mono KB.out.size)); clear hb))
      | (go_at_call 10; go_must (refine (CE.out _ KB.out).mono ?_; rintro e w2 ⟨S, rfl, hS, hb⟩; replace KB := Lib.hid (KB.out.trans (hb.mono KB.out.size)); replace RA := Lib.hid (RA.out.keep hb); have hS2 := HS.out S hS;  have HSS := Lib.hid hS; clear hb CE hS hS2 j0 j1))
      | (go_at_call 23; go_must (refine (CH.out S HSS.out _).mono ?_; rintro e w3 ⟨vN2, vB2, rfl, hb, hN, hE⟩; obtain ⟨nA, nn, nc, rfl, hnn⟩ := KRow.form hN; obtain ⟨eA, en, ec, rfl, hen⟩ := KRow.form hE; replace KB := Lib.hid ((KB.out.trans (hb.mono KB.out.size)).alloc (KB.out.trans (hb.mono KB.out.size)).size (.cells #[.slice nA nn nc, .int .i64 (noH.2.1 : Nat), .int .i64 (noH.2.2.1 : Nat), .slice eA en ec, .int .i64 (noH.2.2.2.2 : Nat)] 46)); clear hnn hen hb hN hE CH))
      | fail)
    go_returns
    exact ⟨rfl, KB.out⟩
  rw [if_pos cz] at CE
  subst cz
  have ho := (okL_of hz).1
  obtain ⟨L, hL⟩ : ∃ L, Si.jn R = L := ⟨_, rfl⟩
  rw [hL] at CE ho
  have hlen := enc_len ho
  obtain ⟨b, h1, hb1, hb2, hb3, hb4, _⟩ := dmg ho (p := 0) (x := 0)
  have CH := Lib.hid (fun (S : ByteArray) (hS : S.data.toList = enc N L) W => show Calls Tryz.prog 23 #[.string S] W (HhR ((N, L.length, (Si.lg L).toNat, enL L, b), 0) W) by
    have h := rReadHead_any S W (by rw [size_len, hS]; omega)
    rw [hS, h1] at h
    exact h)
  have HS := Lib.hid (fun (S : ByteArray) (hS : S.data.toList = enc N L) => show S.size = (enc N L).length by rw [size_len, hS])
  have HT := Lib.hid (lgT_nat ho)
  unfold HhR at CH
  simp only at CH
  have HDM := Lib.hid (fun (pn : Nat) (hb : b ≤ pn) (S u : ByteArray) (hS : S.data.toList = enc N L) (hp : pn < S.size) (x : UInt8) (hu : u.data.toList = S.data.toList.set pn x) (hx : x ≠ S[pn]) => show dc u.data.toList = (([], []), 12) ∧ ∀ a : Int, 0 ≤ a → a < Si.lg L → fdR u.data.toList a = (plc (enL L) a (enL L).length, 0) ∧
        (plc (enL L) a (enL L).length = htc (enL L) (pn - b) (enL L).length → atR u.data.toList a = (0, 12)) ∧
        (plc (enL L) a (enL L).length ≠ htc (enL L) (pn - b) (enL L).length → atR u.data.toList a = ((Si.atv L a).1, 0)) by
    obtain ⟨b', g1, _, _, _, _, g2⟩ := dmg ho (p := pn) (x := x)
    rw [h1] at g1
    injection g1 with g1 _
    injection g1 with _ g1
    injection g1 with _ g1
    injection g1 with _ g1
    injection g1 with _ g1
    subst g1
    rw [hu, hS]
    refine g2 hb (by rw [← hS, ← size_len]; exact hp) ?_
    have : S[pn] = (enc N L)[pn]'(by rw [← hS, ← size_len]; exact hp) := by
      rw [← getElem_toList S pn hp]
      simp only [hS]
    rw [← this]; exact hx)
  have HAS := Lib.hid (fun (S : ByteArray) (hS : S.data.toList = enc N L) (h0 : 0 ≤ a) (h2 : a < Si.lg L) => show atR S.data.toList a = ((Si.atv L a).1, 0) by rw [hS]; exact atR_enc ho ⟨h0, h2⟩)
  have CDE := Lib.hid (fun (S : ByteArray) (hS : S.size ≤ 140737488351232) W (hb : Below w.heap.size w W) => Decode_any S W (hE.below hb) hS)
  have CFI := Lib.hid (fun (S : ByteArray) (hS : S.size ≤ 140737488351232) W (hb : Below w.heap.size w W) => (Find_any S a W (hE.below hb) hS).mono fun e w' hx => hx.val)
  have CAT := Lib.hid (fun (S : ByteArray) (hS : S.size ≤ 140737488351232) W (hb : Below w.heap.size w W) => At_any S a W (hE.below hb) hS)
  obtain ⟨E, hEE⟩ : ∃ E, enL L = E := ⟨_, rfl⟩
  rw [hEE] at CH HDM hb2 hb3 hb4
  obtain ⟨T, hTT⟩ : ∃ T, (Si.lg L).toNat = T := ⟨_, rfl⟩
  rw [hTT] at CH HT
  obtain ⟨n, hn⟩ : ∃ n, (enc N L).length = n := ⟨_, rfl⟩
  rw [hn] at HS hlen hb1 hb4
  obtain ⟨RL, hRL⟩ : ∃ RL, L.length = RL := ⟨_, rfl⟩
  rw [hRL] at CH
  obtain ⟨NE, hNE⟩ : ∃ NE, E.length = NE := ⟨_, rfl⟩
  have HNE := Lib.hid hNE
  rw [hNE] at HDM hb2
  obtain ⟨A1, c1, rfl, _⟩ := hN.form
  obtain ⟨A2, c2, rfl⟩ := KArg.form hR
  have j0 := RB.out.cell 0
  have j1 := RB.out.cell 1
  have HB := Lib.hid (show b ≤ n ∧ NE ≤ 16384 ∧ (∀ e ∈ E, okE e) ∧ b + szE E = n ∧ n ≤ 100000000 from ⟨hb1, hb2, hb3, hb4, hlen⟩)
  clear hE hN hs hR hsm hz hL ho h1 hEE hTT hn hRL hNE hb1 hb2 hb3 hb4 hlen
  by_cases d1 : p < (b : Int)
  · have d1' : decide (p < (b : Int)) = true := decide_eq_true d1
    go_enter Tryz.func6, Tryz.ntmps6
    go_wp2_with (first
      | (go_at_call 7; go_must (refine (CS.out _ KB.out).mono ?_; rintro e w1 ⟨rfl, hb⟩; replace KB := Lib.hid (KB.out.trans (hb.mono KB.out.size)); replace RB := Lib.hid (RB.out.keep hb); replace RA := Lib.hid (RA.out.keep hb); clear j0 j1; have j0 := RB.out.cell 0; have j1 := RB.out.cell 1; clear hb CS))
      | (go_at_call 8; go_must (refine (CA.out _ KB.out).mono ?_; rintro e w9 ⟨rfl, hb⟩; replace KB := Lib.hid (KB.out.trans (hb.mono KB.out.size)); clear hb))
      | (go_at_call 10; go_must (refine (CE.out _ KB.out).mono ?_; rintro e w2 ⟨S, rfl, hS, hb⟩; replace KB := Lib.hid (KB.out.trans (hb.mono KB.out.size)); replace RA := Lib.hid (RA.out.keep hb); have hS2 := HS.out S hS;  have HSS := Lib.hid hS; clear hb CE hS hS2 j0 j1))
      | (go_at_call 23; go_must (refine (CH.out S HSS.out _).mono ?_; rintro e w3 ⟨vN2, vB2, rfl, hb, hN, hE⟩; obtain ⟨nA, nn, nc, rfl, hnn⟩ := KRow.form hN; obtain ⟨eA, en, ec, rfl, hen⟩ := KRow.form hE; obtain rfl : en = NE := hen.trans HNE.out; replace RA := Lib.hid ((RA.out.keep hb).alloc (.cells #[.slice nA nn nc, .int .i64 RL, .int .i64 T, .slice eA en ec, .int .i64 b] 46)); replace KB := Lib.hid ((KB.out.trans (hb.mono KB.out.size)).alloc (KB.out.trans (hb.mono KB.out.size)).size (.cells #[.slice nA nn nc, .int .i64 RL, .int .i64 T, .slice eA en ec, .int .i64 b] 46)); have HH := Lib.hid (RowAt.new w3 46 #[.slice nA nn nc, .int .i64 RL, .int .i64 T, .slice eA en ec, .int .i64 b]); have HER := Lib.hid (KRow.alloc hE (.cells #[.slice nA nn nc, .int .i64 RL, .int .i64 T, .slice eA en ec, .int .i64 b] 46)); have i0 := RA.out.cell 0; have i1 := RA.out.cell 1; have i2 := RA.out.cell 2; have h2 := HH.out.cell 2; have h3 := HH.out.cell 3; have h4 := HH.out.cell 4; clear hnn hen hb hN hE CH))
      | fail)
    go_returns
    exact ⟨rfl, KB.out⟩
  by_cases d2 : (n : Int) ≤ p
  · have d1' : decide (p < (b : Int)) = false := decide_eq_false d1
    go_enter Tryz.func6, Tryz.ntmps6
    go_wp2_with (first
      | (go_at_call 7; go_must (refine (CS.out _ KB.out).mono ?_; rintro e w1 ⟨rfl, hb⟩; replace KB := Lib.hid (KB.out.trans (hb.mono KB.out.size)); replace RB := Lib.hid (RB.out.keep hb); replace RA := Lib.hid (RA.out.keep hb); clear j0 j1; have j0 := RB.out.cell 0; have j1 := RB.out.cell 1; clear hb CS))
      | (go_at_call 8; go_must (refine (CA.out _ KB.out).mono ?_; rintro e w9 ⟨rfl, hb⟩; replace KB := Lib.hid (KB.out.trans (hb.mono KB.out.size)); clear hb))
      | (go_at_call 10; go_must (refine (CE.out _ KB.out).mono ?_; rintro e w2 ⟨S, rfl, hS, hb⟩; replace KB := Lib.hid (KB.out.trans (hb.mono KB.out.size)); replace RA := Lib.hid (RA.out.keep hb); have hS2 := HS.out S hS; have k2 : decide ((S.size : Int) ≤ p) = true := decide_eq_true (by omega); have HSS := Lib.hid hS; clear hb CE hS hS2 j0 j1))
      | (go_at_call 23; go_must (refine (CH.out S HSS.out _).mono ?_; rintro e w3 ⟨vN2, vB2, rfl, hb, hN, hE⟩; obtain ⟨nA, nn, nc, rfl, hnn⟩ := KRow.form hN; obtain ⟨eA, en, ec, rfl, hen⟩ := KRow.form hE; obtain rfl : en = NE := hen.trans HNE.out; replace RA := Lib.hid ((RA.out.keep hb).alloc (.cells #[.slice nA nn nc, .int .i64 RL, .int .i64 T, .slice eA en ec, .int .i64 b] 46)); replace KB := Lib.hid ((KB.out.trans (hb.mono KB.out.size)).alloc (KB.out.trans (hb.mono KB.out.size)).size (.cells #[.slice nA nn nc, .int .i64 RL, .int .i64 T, .slice eA en ec, .int .i64 b] 46)); have HH := Lib.hid (RowAt.new w3 46 #[.slice nA nn nc, .int .i64 RL, .int .i64 T, .slice eA en ec, .int .i64 b]); have HER := Lib.hid (KRow.alloc hE (.cells #[.slice nA nn nc, .int .i64 RL, .int .i64 T, .slice eA en ec, .int .i64 b] 46)); have i0 := RA.out.cell 0; have i1 := RA.out.cell 1; have i2 := RA.out.cell 2; have h2 := HH.out.cell 2; have h3 := HH.out.cell 3; have h4 := HH.out.cell 4; clear hnn hen hb hN hE CH))
      | fail)
    go_returns
    exact ⟨rfl, KB.out⟩
  by_cases d3 : v < 0
  · have d1' : decide (p < (b : Int)) = false := decide_eq_false d1
    have d3' : decide (v < 0) = true := decide_eq_true d3
    go_enter Tryz.func6, Tryz.ntmps6
    go_wp2_with (first
      | (go_at_call 7; go_must (refine (CS.out _ KB.out).mono ?_; rintro e w1 ⟨rfl, hb⟩; replace KB := Lib.hid (KB.out.trans (hb.mono KB.out.size)); replace RB := Lib.hid (RB.out.keep hb); replace RA := Lib.hid (RA.out.keep hb); clear j0 j1; have j0 := RB.out.cell 0; have j1 := RB.out.cell 1; clear hb CS))
      | (go_at_call 8; go_must (refine (CA.out _ KB.out).mono ?_; rintro e w9 ⟨rfl, hb⟩; replace KB := Lib.hid (KB.out.trans (hb.mono KB.out.size)); clear hb))
      | (go_at_call 10; go_must (refine (CE.out _ KB.out).mono ?_; rintro e w2 ⟨S, rfl, hS, hb⟩; replace KB := Lib.hid (KB.out.trans (hb.mono KB.out.size)); replace RA := Lib.hid (RA.out.keep hb); have hS2 := HS.out S hS; have k2 : decide ((S.size : Int) ≤ p) = false := decide_eq_false (by omega); have HSS := Lib.hid hS; clear hb CE hS hS2 j0 j1))
      | (go_at_call 23; go_must (refine (CH.out S HSS.out _).mono ?_; rintro e w3 ⟨vN2, vB2, rfl, hb, hN, hE⟩; obtain ⟨nA, nn, nc, rfl, hnn⟩ := KRow.form hN; obtain ⟨eA, en, ec, rfl, hen⟩ := KRow.form hE; obtain rfl : en = NE := hen.trans HNE.out; replace RA := Lib.hid ((RA.out.keep hb).alloc (.cells #[.slice nA nn nc, .int .i64 RL, .int .i64 T, .slice eA en ec, .int .i64 b] 46)); replace KB := Lib.hid ((KB.out.trans (hb.mono KB.out.size)).alloc (KB.out.trans (hb.mono KB.out.size)).size (.cells #[.slice nA nn nc, .int .i64 RL, .int .i64 T, .slice eA en ec, .int .i64 b] 46)); have HH := Lib.hid (RowAt.new w3 46 #[.slice nA nn nc, .int .i64 RL, .int .i64 T, .slice eA en ec, .int .i64 b]); have HER := Lib.hid (KRow.alloc hE (.cells #[.slice nA nn nc, .int .i64 RL, .int .i64 T, .slice eA en ec, .int .i64 b] 46)); have i0 := RA.out.cell 0; have i1 := RA.out.cell 1; have i2 := RA.out.cell 2; have h2 := HH.out.cell 2; have h3 := HH.out.cell 3; have h4 := HH.out.cell 4; clear hnn hen hb hN hE CH))
      | fail)
    go_returns
    exact ⟨rfl, KB.out⟩
  by_cases d4 : 7 < v
  · have d1' : decide (p < (b : Int)) = false := decide_eq_false d1
    have d3' : decide (v < 0) = false := decide_eq_false d3
    have d4' : decide (7 < v) = true := decide_eq_true d4
    go_enter Tryz.func6, Tryz.ntmps6
    go_wp2_with (first
      | (go_at_call 7; go_must (refine (CS.out _ KB.out).mono ?_; rintro e w1 ⟨rfl, hb⟩; replace KB := Lib.hid (KB.out.trans (hb.mono KB.out.size)); replace RB := Lib.hid (RB.out.keep hb); replace RA := Lib.hid (RA.out.keep hb); clear j0 j1; have j0 := RB.out.cell 0; have j1 := RB.out.cell 1; clear hb CS))
      | (go_at_call 8; go_must (refine (CA.out _ KB.out).mono ?_; rintro e w9 ⟨rfl, hb⟩; replace KB := Lib.hid (KB.out.trans (hb.mono KB.out.size)); clear hb))
      | (go_at_call 10; go_must (refine (CE.out _ KB.out).mono ?_; rintro e w2 ⟨S, rfl, hS, hb⟩; replace KB := Lib.hid (KB.out.trans (hb.mono KB.out.size)); replace RA := Lib.hid (RA.out.keep hb); have hS2 := HS.out S hS; have k2 : decide ((S.size : Int) ≤ p) = false := decide_eq_false (by omega); have HSS := Lib.hid hS; clear hb CE hS hS2 j0 j1))
      | (go_at_call 23; go_must (refine (CH.out S HSS.out _).mono ?_; rintro e w3 ⟨vN2, vB2, rfl, hb, hN, hE⟩; obtain ⟨nA, nn, nc, rfl, hnn⟩ := KRow.form hN; obtain ⟨eA, en, ec, rfl, hen⟩ := KRow.form hE; obtain rfl : en = NE := hen.trans HNE.out; replace RA := Lib.hid ((RA.out.keep hb).alloc (.cells #[.slice nA nn nc, .int .i64 RL, .int .i64 T, .slice eA en ec, .int .i64 b] 46)); replace KB := Lib.hid ((KB.out.trans (hb.mono KB.out.size)).alloc (KB.out.trans (hb.mono KB.out.size)).size (.cells #[.slice nA nn nc, .int .i64 RL, .int .i64 T, .slice eA en ec, .int .i64 b] 46)); have HH := Lib.hid (RowAt.new w3 46 #[.slice nA nn nc, .int .i64 RL, .int .i64 T, .slice eA en ec, .int .i64 b]); have HER := Lib.hid (KRow.alloc hE (.cells #[.slice nA nn nc, .int .i64 RL, .int .i64 T, .slice eA en ec, .int .i64 b] 46)); have i0 := RA.out.cell 0; have i1 := RA.out.cell 1; have i2 := RA.out.cell 2; have h2 := HH.out.cell 2; have h3 := HH.out.cell 3; have h4 := HH.out.cell 4; clear hnn hen hb hN hE CH))
      | fail)
    go_returns
    exact ⟨rfl, KB.out⟩
  by_cases d5 : a < 0
  · have d1' : decide (p < (b : Int)) = false := decide_eq_false d1
    have d3' : decide (v < 0) = false := decide_eq_false d3
    have d4' : decide (7 < v) = false := decide_eq_false d4
    have d5' : decide (a < 0) = true := decide_eq_true d5
    go_enter Tryz.func6, Tryz.ntmps6
    go_wp2_with (first
      | (go_at_call 7; go_must (refine (CS.out _ KB.out).mono ?_; rintro e w1 ⟨rfl, hb⟩; replace KB := Lib.hid (KB.out.trans (hb.mono KB.out.size)); replace RB := Lib.hid (RB.out.keep hb); replace RA := Lib.hid (RA.out.keep hb); clear j0 j1; have j0 := RB.out.cell 0; have j1 := RB.out.cell 1; clear hb CS))
      | (go_at_call 8; go_must (refine (CA.out _ KB.out).mono ?_; rintro e w9 ⟨rfl, hb⟩; replace KB := Lib.hid (KB.out.trans (hb.mono KB.out.size)); clear hb))
      | (go_at_call 10; go_must (refine (CE.out _ KB.out).mono ?_; rintro e w2 ⟨S, rfl, hS, hb⟩; replace KB := Lib.hid (KB.out.trans (hb.mono KB.out.size)); replace RA := Lib.hid (RA.out.keep hb); have hS2 := HS.out S hS; have k2 : decide ((S.size : Int) ≤ p) = false := decide_eq_false (by omega); have HSS := Lib.hid hS; clear hb CE hS hS2 j0 j1))
      | (go_at_call 23; go_must (refine (CH.out S HSS.out _).mono ?_; rintro e w3 ⟨vN2, vB2, rfl, hb, hN, hE⟩; obtain ⟨nA, nn, nc, rfl, hnn⟩ := KRow.form hN; obtain ⟨eA, en, ec, rfl, hen⟩ := KRow.form hE; obtain rfl : en = NE := hen.trans HNE.out; replace RA := Lib.hid ((RA.out.keep hb).alloc (.cells #[.slice nA nn nc, .int .i64 RL, .int .i64 T, .slice eA en ec, .int .i64 b] 46)); replace KB := Lib.hid ((KB.out.trans (hb.mono KB.out.size)).alloc (KB.out.trans (hb.mono KB.out.size)).size (.cells #[.slice nA nn nc, .int .i64 RL, .int .i64 T, .slice eA en ec, .int .i64 b] 46)); have HH := Lib.hid (RowAt.new w3 46 #[.slice nA nn nc, .int .i64 RL, .int .i64 T, .slice eA en ec, .int .i64 b]); have HER := Lib.hid (KRow.alloc hE (.cells #[.slice nA nn nc, .int .i64 RL, .int .i64 T, .slice eA en ec, .int .i64 b] 46)); have i0 := RA.out.cell 0; have i1 := RA.out.cell 1; have i2 := RA.out.cell 2; have h2 := HH.out.cell 2; have h3 := HH.out.cell 3; have h4 := HH.out.cell 4; clear hnn hen hb hN hE CH))
      | fail)
    go_returns
    exact ⟨rfl, KB.out⟩
  by_cases d6 : (T : Int) ≤ a
  · have d1' : decide (p < (b : Int)) = false := decide_eq_false d1
    have d3' : decide (v < 0) = false := decide_eq_false d3
    have d4' : decide (7 < v) = false := decide_eq_false d4
    have d5' : decide (a < 0) = false := decide_eq_false d5
    have d6' : decide ((T : Int) ≤ a) = true := decide_eq_true d6
    go_enter Tryz.func6, Tryz.ntmps6
    go_wp2_with (first
      | (go_at_call 7; go_must (refine (CS.out _ KB.out).mono ?_; rintro e w1 ⟨rfl, hb⟩; replace KB := Lib.hid (KB.out.trans (hb.mono KB.out.size)); replace RB := Lib.hid (RB.out.keep hb); replace RA := Lib.hid (RA.out.keep hb); clear j0 j1; have j0 := RB.out.cell 0; have j1 := RB.out.cell 1; clear hb CS))
      | (go_at_call 8; go_must (refine (CA.out _ KB.out).mono ?_; rintro e w9 ⟨rfl, hb⟩; replace KB := Lib.hid (KB.out.trans (hb.mono KB.out.size)); clear hb))
      | (go_at_call 10; go_must (refine (CE.out _ KB.out).mono ?_; rintro e w2 ⟨S, rfl, hS, hb⟩; replace KB := Lib.hid (KB.out.trans (hb.mono KB.out.size)); replace RA := Lib.hid (RA.out.keep hb); have hS2 := HS.out S hS; have k2 : decide ((S.size : Int) ≤ p) = false := decide_eq_false (by omega); have HSS := Lib.hid hS; clear hb CE hS hS2 j0 j1))
      | (go_at_call 23; go_must (refine (CH.out S HSS.out _).mono ?_; rintro e w3 ⟨vN2, vB2, rfl, hb, hN, hE⟩; obtain ⟨nA, nn, nc, rfl, hnn⟩ := KRow.form hN; obtain ⟨eA, en, ec, rfl, hen⟩ := KRow.form hE; obtain rfl : en = NE := hen.trans HNE.out; replace RA := Lib.hid ((RA.out.keep hb).alloc (.cells #[.slice nA nn nc, .int .i64 RL, .int .i64 T, .slice eA en ec, .int .i64 b] 46)); replace KB := Lib.hid ((KB.out.trans (hb.mono KB.out.size)).alloc (KB.out.trans (hb.mono KB.out.size)).size (.cells #[.slice nA nn nc, .int .i64 RL, .int .i64 T, .slice eA en ec, .int .i64 b] 46)); have HH := Lib.hid (RowAt.new w3 46 #[.slice nA nn nc, .int .i64 RL, .int .i64 T, .slice eA en ec, .int .i64 b]); have HER := Lib.hid (KRow.alloc hE (.cells #[.slice nA nn nc, .int .i64 RL, .int .i64 T, .slice eA en ec, .int .i64 b] 46)); have i0 := RA.out.cell 0; have i1 := RA.out.cell 1; have i2 := RA.out.cell 2; have h2 := HH.out.cell 2; have h3 := HH.out.cell 3; have h4 := HH.out.cell 4; clear hnn hen hb hN hE CH))
      | fail)
    go_returns
    exact ⟨rfl, KB.out⟩
  obtain ⟨pn, hpp⟩ : ∃ pn : Nat, p = pn := ⟨p.toNat, by have := HB.out.1; omega⟩
  obtain ⟨vn, hvv⟩ : ∃ vn : Nat, v = vn := ⟨v.toNat, by omega⟩
  have HPP := Lib.hid hpp
  have d1' : decide (p < (b : Int)) = false := decide_eq_false d1
  have d3' : decide (v < 0) = false := decide_eq_false d3
  have d4' : decide (7 < v) = false := decide_eq_false d4
  have d5' : decide (a < 0) = false := decide_eq_false d5
  have d6' : decide ((T : Int) ≤ a) = false := decide_eq_false d6
  have hbp : b ≤ pn := by omega
  have hpn : pn < n := by omega
  have hvn : vn ≤ 7 := by omega
  have ha0 : 0 ≤ a := by omega
  have hal : a < Si.lg L := by have := HT.out; omega
  obtain ⟨k, hk⟩ : ∃ k, plc E a NE = k := ⟨_, rfl⟩
  obtain ⟨ht, hht⟩ : ∃ ht, htc E (pn - b) NE = ht := ⟨_, rfl⟩
  have CI := Lib.hid (fun (S : ByteArray) (hq : pn < S.size) (hS : S.size = n) W => show Calls Tryz.prog 24 #[.string S, .int .i64 p, .int .i64 v] W fun e w' => ∃ u : ByteArray, e = .returned (.string u) ∧ (∃ x, u.data.toList = S.data.toList.set pn x ∧ x ≠ S[pn]'hq) ∧ Below W.heap.size W w' by
    have h := invert_any S pn vn W hq hvn (by have := HB.out; omega)
    rw [← hpp, ← hvv] at h
    exact h)
  have HDM2 := Lib.hid (fun (S u : ByteArray) (hS : S.data.toList = enc N L) (hz : S.size = n) (hq : pn < S.size) (hu : ∃ x, u.data.toList = S.data.toList.set pn x ∧ x ≠ S[pn]'hq) => show dc u.data.toList = (([], []), 12) ∧ fdR u.data.toList a = (k, 0) ∧ (k = ht → atR u.data.toList a = (0, 12)) ∧ (k ≠ ht → atR u.data.toList a = ((Si.atv L a).1, 0)) ∧ u.size = n by
    obtain ⟨x, hu1, hu2⟩ := hu
    have g := HDM.out pn hbp S u hS hq x hu1 hu2
    have g2 := g.2 a ha0 hal
    rw [hk, hht] at g2
    refine ⟨g.1, g2.1, g2.2.1, g2.2.2, ?_⟩
    rw [size_len, hu1, List.length_set, ← size_len]; exact hz)
  have HAS2 := Lib.hid (fun (S : ByteArray) (hS : S.data.toList = enc N L) => HAS.out S hS ha0 hal)
  have HHT := Lib.hid hht
  have hpi : p ≤ 100000000 ∧ 0 ≤ p := by have := HB.out; omega
  have hpi1 := hpi.1
  have hpi2 := hpi.2
  have hvi1 : v ≤ 7 := by omega
  have hvi2 : 0 ≤ v := by omega
  obtain ⟨lv, hlv⟩ : ∃ lv, (Si.atv L a).1 = lv := ⟨_, rfl⟩
  rw [hlv] at HDM2 HAS2
  have HPN := Lib.hid (show b ≤ pn ∧ pn < n from ⟨hbp, hpn⟩)
  clear hk hht HDM HAS hlv hbp hpn hal HT hpp hvv hpi
  go_enter Tryz.func6, Tryz.ntmps6
  go_wp2_with (first
    | (go_at_call 7; go_must (refine (CS.out _ KB.out).mono ?_; rintro e w1 ⟨rfl, hb⟩; replace KB := Lib.hid (KB.out.trans (hb.mono KB.out.size)); replace RB := Lib.hid (RB.out.keep hb); replace RA := Lib.hid (RA.out.keep hb); clear j0 j1; have j0 := RB.out.cell 0; have j1 := RB.out.cell 1; clear hb CS))
    | (go_at_call 8; go_must (refine (CA.out _ KB.out).mono ?_; rintro e w9 ⟨rfl, hb⟩; replace KB := Lib.hid (KB.out.trans (hb.mono KB.out.size)); clear hb))
    | (go_at_call 10; go_must (refine (CE.out _ KB.out).mono ?_; rintro e w2 ⟨S, rfl, hS, hb⟩; replace KB := Lib.hid (KB.out.trans (hb.mono KB.out.size)); replace RA := Lib.hid (RA.out.keep hb); have hS2 := HS.out S hS; have k2 : decide ((S.size : Int) ≤ p) = false := decide_eq_false (by omega); have HSZ := Lib.hid hS2; have HSS := Lib.hid hS; clear hb CE hS hS2 j0 j1))
    | (go_at_call 23; go_must (refine (CH.out S HSS.out _).mono ?_; rintro e w3 ⟨vN2, vB2, rfl, hb, hN, hE⟩; obtain ⟨nA, nn, nc, rfl, hnn⟩ := KRow.form hN; obtain ⟨eA, en, ec, rfl, hen⟩ := KRow.form hE; obtain rfl : en = NE := hen.trans HNE.out; replace RA := Lib.hid ((RA.out.keep hb).alloc (.cells #[.slice nA nn nc, .int .i64 RL, .int .i64 T, .slice eA en ec, .int .i64 b] 46)); replace KB := Lib.hid ((KB.out.trans (hb.mono KB.out.size)).alloc (KB.out.trans (hb.mono KB.out.size)).size (.cells #[.slice nA nn nc, .int .i64 RL, .int .i64 T, .slice eA en ec, .int .i64 b] 46)); have HH := Lib.hid (RowAt.new w3 46 #[.slice nA nn nc, .int .i64 RL, .int .i64 T, .slice eA en ec, .int .i64 b]); have HER := Lib.hid (KRow.alloc hE (.cells #[.slice nA nn nc, .int .i64 RL, .int .i64 T, .slice eA en ec, .int .i64 b] 46)); have i0 := RA.out.cell 0; have i1 := RA.out.cell 1; have i2 := RA.out.cell 2; have h2 := HH.out.cell 2; have h3 := HH.out.cell 3; have h4 := HH.out.cell 4; clear hnn hen hb hN hE CH))
    | fail)
  go_big_quiet (fail)
  go_wp2
  have HEA := Lib.hid (KRow.arg enC_size HER.out)
  have hne : en ≤ 16384 := HB.out.2.1
  have hnei : (en : Int) ≤ 16384 := by omega
  clear i0 i1 i2 h2 h3 h4
  go_loopw [9, 10, 11] (fun h m i wr => ∃ (j M H : Nat), j ≤ en ∧ h = .int .i64 H ∧ m = .int .i64 M ∧ i = .int .i64 j ∧ M ≤ 100000000 ∧ Hid (M = b + szE (E.take j)) ∧ Hid (H = htc E (pn - b) j) ∧ Hid (RowAt wr (w.heap.size + 1) 43 #[.int .i64 p, .int .i64 v, .int .i64 a]) ∧ Hid (RowAt wr w3.heap.size 46 #[.slice nA nn nc, .int .i64 RL, .int .i64 T, .slice eA en ec, .int .i64 b]) ∧ Hid (EnArg wr (.slice eA en ec) E) ∧ Hid (Below w.heap.size w wr)) (fun _ _ i _ => en - (intOf i).toNat)
  case atStart => exact ⟨0, b, 0, Nat.zero_le _, rfl, rfl, rfl, by have := HB.out; omega, Lib.hid (by simp [szE]), Lib.hid rfl, Lib.hid RA.out, Lib.hid HH.out, Lib.hid HEA.out, Lib.hid (Go.below_drewN KB.out _)⟩
  case round =>
    clear RA HH HEA KB HER
    obtain ⟨j, M, H, hj, rfl, rfl, rfl, hM, HM, HHH, RA, HH, HEA, KB⟩ := hrel
    have i0 : wr.cell? ⟨w.heap.size + 1, 0, none⟩ = some (.int .i64 p) := RA.out.cell 0
    have h3 : wr.cell? ⟨w3.heap.size, 3, none⟩ = some (.slice eA en ec) := HH.out.cell 3
    by_cases hlt : j < en
    · have hjE : j < E.length := by have := HNE.out; omega
      have hji : (j : Int) < en := by omega
      obtain ⟨g, o, hgo, hg, f0, f1, f2⟩ := enCell (A := eA) (c := ec) (w := wr) (w' := wr) (E := E) (by have := HEA.out; rw [← HNE.out] at this; exact this) (Below.refl _ _) j hjE
      subst hgo
      clear f0 f2
      obtain ⟨z, hz⟩ : ∃ z, E[j].2.1 = z := ⟨_, rfl⟩
      rw [hz] at f1
      have HST := Lib.hid (show szE (E.take (j + 1)) = szE (E.take j) + z by rw [szE_take E j hjE, hz])
      have HLE := Lib.hid (szE_le E (j + 1))
      have hzb : z ≤ 1048576 := by rw [← hz]; exact (HB.out.2.2.1 _ (List.getElem_mem hjE)).2.1
      have HLT := Lib.hid hlt
      have HTC := Lib.hid (show htc E (pn - b) (j + 1) = if szE (E.take j) ≤ pn - b then j else htc E (pn - b) j from rfl)
      clear hz hjE hlt
      by_cases hc : (M : Int) ≤ p
      · have hcd : decide ((M : Int) ≤ p) = true := decide_eq_true hc
        have HN2 := Lib.hid (show j = htc E (pn - b) (j + 1) by rw [HTC.out, if_pos (by have := HM.out; have := HPP.out; have := HPN.out; omega)])
        clear HTC HHH hc
        go_wp2
        go_roundw
        case rel => exact ⟨j + 1, M + z, j, by have := HLT.out; omega, rfl, val_int (by omega), val_int (by omega), by have := HM.out; have := HST.out; have := HLE.out; have := HB.out.2.2.2; omega, Lib.hid (by rw [HST.out, HM.out]; omega), HN2, RA, HH, HEA, KB⟩
        case measure => simp [intOf]; have := HLT.out; omega
      · have hcd : decide ((M : Int) ≤ p) = false := decide_eq_false hc
        have HN2 := Lib.hid (show H = htc E (pn - b) (j + 1) by rw [HTC.out, if_neg (by have := HM.out; have := HPP.out; have := HPN.out; omega)]; exact HHH.out)
        clear HTC HHH hc
        go_wp2
        go_roundw
        case rel => exact ⟨j + 1, M + z, H, by have := HLT.out; omega, rfl, val_int (by omega), val_int (by omega), by have := HM.out; have := HST.out; have := HLE.out; have := HB.out.2.2.2; omega, Lib.hid (by rw [HST.out, HM.out]; omega), HN2, RA, HH, HEA, KB⟩
        case measure => simp [intOf]; have := HLT.out; omega
    · have hje : j = en := by omega
      have HHF := Lib.hid (show H = ht by rw [HHH.out, hje]; exact HHT.out)
      have hji : ¬ (j : Int) < en := by omega
      have i1 : wr.cell? ⟨w.heap.size + 1, 1, none⟩ = some (.int .i64 v) := RA.out.cell 1
      clear hje HHH HM HHT
      by_cases hkh : k = ht
      · have hkb : ((k : Int) == (H : Int)) = true := by have := HHF.out; simp; omega
        have HKH := Lib.hid hkh
        clear hkh
        go_wp2_with (first
          | (go_at_call 24; go_must (refine (CI.out S (by have := HSZ.out; have := HPN.out; omega) HSZ.out _).mono ?_; rintro e w4 ⟨u, rfl, hu, hb⟩; have HU := Lib.hid (HDM2.out S u HSS.out HSZ.out (by have := HSZ.out; have := HPN.out; omega) hu); replace KB := Lib.hid (KB.out.trans (hb.mono KB.out.size)); replace RA := Lib.hid (RA.out.keep hb); have i0 := RA.out.cell 0; have i1 := RA.out.cell 1; have i2 := RA.out.cell 2; clear hu hb CI))
          | (go_at_call 11; go_must (refine (CDE.out u (by have := HU.out.2.2.2.2; have := HB.out; omega) _ KB.out).mono ?_; rintro e w5 hx; rw [HU.out.1] at hx; obtain ⟨vN3, vR3, rfl, hN, hR, hb⟩ := hx; obtain ⟨nA3, nn3, nc3, rfl, hnn⟩ := KRow.form hN; obtain ⟨rA3, rn3, rc3, rfl, hrn⟩ := KRow.form hR; replace KB := Lib.hid (KB.out.trans (hb.mono KB.out.size)); replace RA := Lib.hid (RA.out.keep hb); have i0 := RA.out.cell 0; have i1 := RA.out.cell 1; have i2 := RA.out.cell 2; clear hnn hrn hN hR hb CDE))
          | (go_at_call 16; go_must (refine (CFI.out u (by have := HU.out.2.2.2.2; have := HB.out; omega) _ KB.out).mono ?_; rintro e w6 hx; rw [HU.out.2.1] at hx; obtain ⟨rfl, hb⟩ := hx; replace KB := Lib.hid (KB.out.trans (hb.mono KB.out.size)); replace RA := Lib.hid (RA.out.keep hb); have i0 := RA.out.cell 0; have i1 := RA.out.cell 1; have i2 := RA.out.cell 2; clear hb CFI))
          | (go_at_call 18; go_must (first
          | (have tok := T7.out; (with_reducible refine (CAT.out S (by have := HSZ.out; have := HB.out; omega) _ KB.out).mono ?_); rintro e w8 hx; rw [HAS2.out S HSS.out] at hx; obtain ⟨rfl, hb⟩ := hx; replace KB := Lib.hid (KB.out.trans (hb.mono KB.out.size)); replace RA := Lib.hid (RA.out.keep hb); have i0 := RA.out.cell 0; have i1 := RA.out.cell 1; have i2 := RA.out.cell 2; clear hb CAT)
          | ((with_reducible refine (CAT.out u (by have := HU.out.2.2.2.2; have := HB.out; omega) _ KB.out).mono ?_); rintro e w7 hx; rw [HU.out.2.2.1 HKH.out] at hx; obtain ⟨rfl, hb⟩ := hx; have T7 := Lib.hid trivial; replace KB := Lib.hid (KB.out.trans (hb.mono KB.out.size)); replace RA := Lib.hid (RA.out.keep hb); have i0 := RA.out.cell 0; have i1 := RA.out.cell 1; have i2 := RA.out.cell 2; clear hb)))
          | (go_at_call 8; go_must (refine (CA.out _ KB.out).mono ?_; rintro e w9 ⟨rfl, hb⟩; replace KB := Lib.hid (KB.out.trans (hb.mono KB.out.size)); clear hb))
          | fail)
        go_returns
        exact ⟨by simp, KB.out⟩
      · have hkb : ((k : Int) == (H : Int)) = false := by have := HHF.out; simp; omega
        have HKH := Lib.hid hkh
        clear hkh
        go_wp2_with (first
          | (go_at_call 24; go_must (refine (CI.out S (by have := HSZ.out; have := HPN.out; omega) HSZ.out _).mono ?_; rintro e w4 ⟨u, rfl, hu, hb⟩; have HU := Lib.hid (HDM2.out S u HSS.out HSZ.out (by have := HSZ.out; have := HPN.out; omega) hu); replace KB := Lib.hid (KB.out.trans (hb.mono KB.out.size)); replace RA := Lib.hid (RA.out.keep hb); have i0 := RA.out.cell 0; have i1 := RA.out.cell 1; have i2 := RA.out.cell 2; clear hu hb CI))
          | (go_at_call 11; go_must (refine (CDE.out u (by have := HU.out.2.2.2.2; have := HB.out; omega) _ KB.out).mono ?_; rintro e w5 hx; rw [HU.out.1] at hx; obtain ⟨vN3, vR3, rfl, hN, hR, hb⟩ := hx; obtain ⟨nA3, nn3, nc3, rfl, hnn⟩ := KRow.form hN; obtain ⟨rA3, rn3, rc3, rfl, hrn⟩ := KRow.form hR; replace KB := Lib.hid (KB.out.trans (hb.mono KB.out.size)); replace RA := Lib.hid (RA.out.keep hb); have i0 := RA.out.cell 0; have i1 := RA.out.cell 1; have i2 := RA.out.cell 2; clear hnn hrn hN hR hb CDE))
          | (go_at_call 16; go_must (refine (CFI.out u (by have := HU.out.2.2.2.2; have := HB.out; omega) _ KB.out).mono ?_; rintro e w6 hx; rw [HU.out.2.1] at hx; obtain ⟨rfl, hb⟩ := hx; replace KB := Lib.hid (KB.out.trans (hb.mono KB.out.size)); replace RA := Lib.hid (RA.out.keep hb); have i0 := RA.out.cell 0; have i1 := RA.out.cell 1; have i2 := RA.out.cell 2; clear hb CFI))
          | (go_at_call 18; go_must (first
          | (have tok := T7.out; (with_reducible refine (CAT.out S (by have := HSZ.out; have := HB.out; omega) _ KB.out).mono ?_); rintro e w8 hx; rw [HAS2.out S HSS.out] at hx; obtain ⟨rfl, hb⟩ := hx; replace KB := Lib.hid (KB.out.trans (hb.mono KB.out.size)); replace RA := Lib.hid (RA.out.keep hb); have i0 := RA.out.cell 0; have i1 := RA.out.cell 1; have i2 := RA.out.cell 2; clear hb CAT)
          | ((with_reducible refine (CAT.out u (by have := HU.out.2.2.2.2; have := HB.out; omega) _ KB.out).mono ?_); rintro e w7 hx; rw [HU.out.2.2.2.1 HKH.out] at hx; obtain ⟨rfl, hb⟩ := hx; have T7 := Lib.hid trivial; replace KB := Lib.hid (KB.out.trans (hb.mono KB.out.size)); replace RA := Lib.hid (RA.out.keep hb); have i0 := RA.out.cell 0; have i1 := RA.out.cell 1; have i2 := RA.out.cell 2; clear hb)))
          | (go_at_call 8; go_must (refine (CA.out _ KB.out).mono ?_; rintro e w9 ⟨rfl, hb⟩; replace KB := Lib.hid (KB.out.trans (hb.mono KB.out.size)); clear hb))
          | fail)
        go_returns
        exact ⟨by simp, KB.out⟩

end Go.Proofs.YtillcmddbjhepaaGreatDoor
