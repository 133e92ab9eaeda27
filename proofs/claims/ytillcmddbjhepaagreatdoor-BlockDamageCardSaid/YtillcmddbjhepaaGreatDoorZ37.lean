/-
  The specification's Count, Find, Range. (Written by tools/s10_genH8.py.)
  The specification's At. (Written by tools/s10_genH8.py.)
-/
import Derived.Test.YtillcmddbjhepaaGreatDoorZ35
import Derived.Test.YtillcmddbjhepaaGreatDoorZ36
import Derived.Test.YtillcmddbjhepaaGreatDoorZ31
namespace Go.Proofs.YtillcmddbjhepaaGreatDoor
open Go Go.RowKit Go.Joins
open Go.BigFrame
set_option linter.unusedVariables false
set_option linter.unusedSimpArgs false

set_option maxRecDepth 100000 in
set_option maxHeartbeats 2000000 in
theorem rCount_any (s : ByteArray) (w : World) (hs : s.size ≤ 140737488351232) :
    Calls Tryz.prog 15 #[.string s] w fun e w' => e = .returned (.tuple #[.int .i64 (rd s.data.toList).1.2.2.2.1.length, .int .i64 (rd s.data.toList).2]) ∧ Below w.heap.size w w' := by
  have CH := Lib.hid (fun (_ : Unit) => rReadHead_any s w hs)
  obtain ⟨⟨⟨N, R, T, E, b⟩, er⟩, h⟩ : ∃ p, rd s.data.toList = p := ⟨_, rfl⟩
  unfold HhR at CH
  rw [h] at CH ⊢
  simp only at CH ⊢
  obtain ⟨ch, hch⟩ : ∃ ch, N.length = ch := ⟨_, rfl⟩
  have HCH := Lib.hid hch
  obtain ⟨NE, hNE⟩ : ∃ NE, E.length = NE := ⟨_, rfl⟩
  have HNE := Lib.hid hNE
  rw [hNE]
  clear h hch hNE
  go_enter Tryz.func15, Tryz.ntmps15
  go_wp2_with (first
    | (go_at_call 23; go_must (refine (CH.out ()).mono ?_; rintro e w1 ⟨vN, vB, rfl, hb, hN, hE⟩; obtain ⟨nA, nn, nc, rfl, hnn⟩ := KRow.form hN; obtain ⟨eA, en, ec, rfl, hen⟩ := KRow.form hE; obtain rfl : nn = ch := hnn.trans HCH.out; obtain rfl : en = NE := hen.trans HNE.out; have HLW := Lib.hid hb.size; have HH := Lib.hid (RowAt.new w1 46 #[.slice nA nn nc, .int .i64 R, .int .i64 T, .slice eA en ec, .int .i64 b]); have HEA := Lib.hid (KArg.keep (KRow.arg enC_size hE) (ba w1 (.cells #[.slice nA nn nc, .int .i64 R, .int .i64 T, .slice eA en ec, .int .i64 b] 46))); have HER := Lib.hid (KRow.alloc hE (.cells #[.slice nA nn nc, .int .i64 R, .int .i64 T, .slice eA en ec, .int .i64 b] 46)); have HEB := Lib.hid (fun g hg => (KRow.lt hE g hg).2); have KB := Lib.hid (hb.alloc hb.size (.cells #[.slice nA nn nc, .int .i64 R, .int .i64 T, .slice eA en ec, .int .i64 b] 46)); clear hnn hen hb hN hE CH))
    | fail)
  go_returns
  exact ⟨rfl, KB.out⟩

set_option maxRecDepth 100000 in
set_option maxHeartbeats 4000000 in
theorem rFind_any (s : ByteArray) (at_ : Int) (w : World) (hs : s.size ≤ 140737488351232) :
    Calls Tryz.prog 17 #[.string s, .int .i64 at_] w fun e w' => e = .returned (.tuple #[.int .i64 ((fdR s.data.toList at_).1 : Nat), .int .i64 ((fdR s.data.toList at_).2 : Nat)]) ∧ Below w.heap.size w w' := by
  have hsl := size_len s
  have CH := Lib.hid (fun (_ : Unit) => rReadHead_any s w hs)
  obtain ⟨q, hq⟩ : ∃ q, fdR s.data.toList at_ = q := ⟨_, rfl⟩
  obtain ⟨⟨⟨N, R, T, E, b⟩, er⟩, h⟩ : ∃ p, rd s.data.toList = p := ⟨_, rfl⟩
  unfold HhR at CH
  rw [hq]
  by_cases c : er = 0
  case neg =>
    have HBAD := Lib.hid (show q = (0, er) by rw [← hq, fdR_1 (by rw [h]; exact c), h])
    rw [h] at CH
    simp only at CH
    have c' : ((er : Int) != 0) = true := by simp; omega
    clear h hq hsl
    go_enter Tryz.func17, Tryz.ntmps17
    go_wp2_with (first
      | (go_at_call 23; go_must (refine (CH.out ()).mono ?_; rintro e w1 ⟨vN, vB, rfl, hb, hN, hE⟩; obtain ⟨nA, nn, nc, rfl, hnn⟩ := KRow.form hN; obtain ⟨eA, en, ec, rfl, hen⟩ := KRow.form hE; have KB := Lib.hid (hb.alloc hb.size (.cells #[.slice nA nn nc, .int .i64 R, .int .i64 T, .slice eA en ec, .int .i64 b] 46)); clear hnn hen hb hN hE CH))
      | fail)
    go_returns
    exact ⟨by rw [HBAD.out]; rfl, KB.out⟩
  subst c
  have HO := Lib.hid (okH_of h)
  obtain ⟨ch, hch⟩ : ∃ ch, N.length = ch := ⟨_, rfl⟩
  have HCH := Lib.hid hch
  obtain ⟨NE, hNE⟩ : ∃ NE, E.length = NE := ⟨_, rfl⟩
  have HNE := Lib.hid hNE
  have HF1 := Lib.hid (fun hx => fdR_2 h (a := at_) hx)
  have HF2 := Lib.hid (fun hx => fdR_3 h (a := at_) hx)
  rw [hq] at HF1 HF2
  rw [h] at CH
  simp only at CH
  have CPL := Lib.hid (fun W vN vB R T b (hB : EnArg W vB E) => rplace_any E vN vB R T b at_ W hB HO.out.e14)
  rw [hNE] at HF2 CPL
  clear h hq hsl hch hNE HO
  by_cases d1 : at_ < 0
  · have HFF := Lib.hid (HF1.out (by omega))
    clear HF1 HF2
    go_enter Tryz.func17, Tryz.ntmps17
    go_wp2_with (first
      | (go_at_call 23; go_must (refine (CH.out ()).mono ?_; rintro e w1 ⟨vN, vB, rfl, hb, hN, hE⟩; obtain ⟨nA, nn, nc, rfl, hnn⟩ := KRow.form hN; obtain ⟨eA, en, ec, rfl, hen⟩ := KRow.form hE; obtain rfl : nn = ch := hnn.trans HCH.out; obtain rfl : en = NE := hen.trans HNE.out; have HLW := Lib.hid hb.size; have HH := Lib.hid (RowAt.new w1 46 #[.slice nA nn nc, .int .i64 R, .int .i64 T, .slice eA en ec, .int .i64 b]); have HEA := Lib.hid (KArg.keep (KRow.arg enC_size hE) (ba w1 (.cells #[.slice nA nn nc, .int .i64 R, .int .i64 T, .slice eA en ec, .int .i64 b] 46))); have HER := Lib.hid (KRow.alloc hE (.cells #[.slice nA nn nc, .int .i64 R, .int .i64 T, .slice eA en ec, .int .i64 b] 46)); have HEB := Lib.hid (fun g hg => (KRow.lt hE g hg).2); have KB := Lib.hid (hb.alloc hb.size (.cells #[.slice nA nn nc, .int .i64 R, .int .i64 T, .slice eA en ec, .int .i64 b] 46)); clear hnn hen hb hN hE CH))
      | fail)
    go_returns
    exact ⟨by rw [HFF.out]; rfl, KB.out⟩
  · have d1' : decide (at_ < 0) = false := decide_eq_false d1
    by_cases d2 : (T : Int) ≤ at_
    · have d2' : decide ((T : Int) ≤ at_) = true := decide_eq_true d2
      have HFF := Lib.hid (HF1.out (by omega))
      clear HF1 HF2
      go_enter Tryz.func17, Tryz.ntmps17
      go_wp2_with (first
        | (go_at_call 23; go_must (refine (CH.out ()).mono ?_; rintro e w1 ⟨vN, vB, rfl, hb, hN, hE⟩; obtain ⟨nA, nn, nc, rfl, hnn⟩ := KRow.form hN; obtain ⟨eA, en, ec, rfl, hen⟩ := KRow.form hE; obtain rfl : nn = ch := hnn.trans HCH.out; obtain rfl : en = NE := hen.trans HNE.out; have HLW := Lib.hid hb.size; have HH := Lib.hid (RowAt.new w1 46 #[.slice nA nn nc, .int .i64 R, .int .i64 T, .slice eA en ec, .int .i64 b]); have HEA := Lib.hid (KArg.keep (KRow.arg enC_size hE) (ba w1 (.cells #[.slice nA nn nc, .int .i64 R, .int .i64 T, .slice eA en ec, .int .i64 b] 46))); have HER := Lib.hid (KRow.alloc hE (.cells #[.slice nA nn nc, .int .i64 R, .int .i64 T, .slice eA en ec, .int .i64 b] 46)); have HEB := Lib.hid (fun g hg => (KRow.lt hE g hg).2); have KB := Lib.hid (hb.alloc hb.size (.cells #[.slice nA nn nc, .int .i64 R, .int .i64 T, .slice eA en ec, .int .i64 b] 46)); clear hnn hen hb hN hE CH))
        | fail)
      go_returns
      exact ⟨by rw [HFF.out]; rfl, KB.out⟩
    · have d2' : decide ((T : Int) ≤ at_) = false := decide_eq_false d2
      have HFF := Lib.hid (HF2.out (by omega))
      clear HF1 HF2
      go_enter Tryz.func17, Tryz.ntmps17
      go_wp2_with (first
        | (go_at_call 23; go_must (refine (CH.out ()).mono ?_; rintro e w1 ⟨vN, vB, rfl, hb, hN, hE⟩; obtain ⟨nA, nn, nc, rfl, hnn⟩ := KRow.form hN; obtain ⟨eA, en, ec, rfl, hen⟩ := KRow.form hE; obtain rfl : nn = ch := hnn.trans HCH.out; obtain rfl : en = NE := hen.trans HNE.out; have HLW := Lib.hid hb.size; have HH := Lib.hid (RowAt.new w1 46 #[.slice nA nn nc, .int .i64 R, .int .i64 T, .slice eA en ec, .int .i64 b]); have HEA := Lib.hid (KArg.keep (KRow.arg enC_size hE) (ba w1 (.cells #[.slice nA nn nc, .int .i64 R, .int .i64 T, .slice eA en ec, .int .i64 b] 46))); have HER := Lib.hid (KRow.alloc hE (.cells #[.slice nA nn nc, .int .i64 R, .int .i64 T, .slice eA en ec, .int .i64 b] 46)); have HEB := Lib.hid (fun g hg => (KRow.lt hE g hg).2); have KB := Lib.hid (hb.alloc hb.size (.cells #[.slice nA nn nc, .int .i64 R, .int .i64 T, .slice eA en ec, .int .i64 b] 46)); clear hnn hen hb hN hE CH))
        | (go_at_call 43; go_must (refine (CPL.out _ _ _ _ _ _ HEA.out).mono ?_; rintro e w2 ⟨rfl, hb⟩; replace KB := Lib.hid (KB.out.trans (hb.mono KB.out.size)); clear hb CPL))
        | fail)
      go_returns
      exact ⟨by rw [HFF.out]; rfl, KB.out⟩

theorem rgX_vr {l : List UInt8} {N : List ByteArray} {R T : Nat} {E : List En} {b : Nat} (h : rd l = ((N, R, T, E, b), 0)) (hl : l.length ≤ 140737488351232) {f t : Int} (h2 : 0 ≤ f ∧ f < t ∧ t ≤ T) {X : List Si.Rn} (hX : rgX N.length f t (sub (hdPts l) (plc E f E.length) (plc E (t - 1) E.length)) = some X) : Si.vr ((2 ^ N.length - 1 : Nat) : Int) 0 X = true ∧ X.length ≤ 262144 := by
  have hk2 := plc_P h (a := t - 1) (by omega)
  have hk12 := plc_mono h h2.1 (show f ≤ t - 1 by omega) (by omega)
  have hsl := sub_len (hdPts l) _ _ hk12 hk2
  have hcn := hdPts_chnP h (plc E f E.length) (plc E (t - 1) E.length)
  rw [rgX_pBs hcn] at hX
  cases hp : pBs N.length (sub (hdPts l) (plc E f E.length) (plc E (t - 1) E.length)) with
  | none => rw [hp] at hX; cases hX
  | some L =>
    rw [hp] at hX
    simp only [Option.map_some, Option.some.injEq] at hX
    subst hX
    have h1 := pBs_lg hcn hp (by omega)
    have hok := fun p hp => hdPts_ok h hl p (sub_mem (i := plc E f E.length) (k := plc E (t - 1) E.length) hp)
    obtain ⟨h3, h4⟩ := pBs_all hok hp
    have h5 := (hok _ (List.getElem_mem (show (sub (hdPts l) (plc E f E.length) (plc E (t - 1) E.length)).length - 1 < _ by omega))).2.1
    have h6 := hdPts_small l
    have hps : Si.ps L := fun x hx => (h3 x hx).2.2.1
    refine ⟨(Si.vr_iff _ _ 0 (by omega)).2 ⟨Si.sl_lv fun x hx => ⟨(h3 x hx).1, (h3 x hx).2.1⟩, Si.sl_ps, ?_⟩, Nat.le_trans (Si.sl_len _ _ _ _) (by omega)⟩
    rw [Si.sl_lg hps]
    have := Si.ps_nonneg hps
    omega
/-- What a part takes of its blocks. -/
theorem rgR_X {l : List UInt8} {N : List ByteArray} {R T : Nat} {E : List En} {b : Nat} (h : rd l = ((N, R, T, E, b), 0)) {f t : Int} (h2 : 0 ≤ f ∧ f < t ∧ t ≤ T) :
    match rgX N.length f t (sub (hdPts l) (plc E f E.length) (plc E (t - 1) E.length)) with
    | none => rgR l f t = ([], 12)
    | some X => rgR l f t = (Si.jn X, 0) := by
  have hk := plc_P h (a := f) (by omega)
  have hk2 := plc_P h (a := t - 1) (by omega)
  have hk12 := plc_mono h h2.1 (show f ≤ t - 1 by omega) (by omega)
  have hl := sub_len (hdPts l) _ _ hk12 hk2
  rw [rgX_pBs (hdPts_chnP h _ _)]
  cases hp : pBs N.length (sub (hdPts l) (plc E f E.length) (plc E (t - 1) E.length)) with
  | none => exact rgR_3 h h2 hp
  | some L =>
    simp only [Option.map_some]
    rw [rgR_4 h h2 hk hp, sl_prt, gP_at (by omega), sub_at _ _ _ _ _ (by omega)]
    rfl

set_option maxRecDepth 100000 in
set_option maxHeartbeats 8000000 in
theorem rRange_any (s : ByteArray) (f t : Int) (w : World) (hs : s.size ≤ 140737488351232) :
    Calls Tryz.prog 21 #[.string s, .int .i64 f, .int .i64 t] w (RgQ (rgR s.data.toList f t) w) := by
  have hsl := size_len s
  have CH := Lib.hid (fun (_ : Unit) => rReadHead_any s w hs)
  obtain ⟨q, hq⟩ : ∃ q, rgR s.data.toList f t = q := ⟨_, rfl⟩
  obtain ⟨⟨⟨N, R, T, E, b⟩, er⟩, h⟩ : ∃ p, rd s.data.toList = p := ⟨_, rfl⟩
  unfold HhR at CH
  rw [hq]
  by_cases c : er = 0
  case neg =>
    have HBAD := Lib.hid (show q = ([], er) by rw [← hq, rgR_1 (by rw [h]; exact c), h])
    rw [h] at CH
    simp only at CH
    have c' : ((er : Int) != 0) = true := by simp; omega
    clear h hq hsl
    go_enter Tryz.func21, Tryz.ntmps21
    go_wp2_with (first
      | (go_at_call 23; go_must (refine (CH.out ()).mono ?_; rintro e w1 ⟨vN, vB, rfl, hb, hN, hE⟩; obtain ⟨nA, nn, nc, rfl, hnn⟩ := KRow.form hN; obtain ⟨eA, en, ec, rfl, hen⟩ := KRow.form hE; have KB := Lib.hid (hb.alloc hb.size (.cells #[.slice nA nn nc, .int .i64 R, .int .i64 T, .slice eA en ec, .int .i64 b] 46)); clear hnn hen hb hN hE CH))
      | fail)
    go_returns
    exact RgQ.bad HBAD.out KB.out
  subst c
  have HO := Lib.hid (okH_of h)
  obtain ⟨ch, hch⟩ : ∃ ch, N.length = ch := ⟨_, rfl⟩
  have HCH := Lib.hid hch
  obtain ⟨NE, hNE⟩ : ∃ NE, E.length = NE := ⟨_, rfl⟩
  have HNE := Lib.hid hNE
  by_cases hr : 0 ≤ f ∧ f < t ∧ t ≤ T
  case neg =>
    have HBAD := Lib.hid (show q = ([], 2) by rw [← hq, rgR_2 h hr])
    rw [h] at CH
    simp only at CH
    clear h hq hsl hch hNE HO
    by_cases d1 : f < 0
    · clear hr
      go_enter Tryz.func21, Tryz.ntmps21
      go_wp2_with (first
        | (go_at_call 23; go_must (refine (CH.out ()).mono ?_; rintro e w1 ⟨vN, vB, rfl, hb, hN, hE⟩; obtain ⟨nA, nn, nc, rfl, hnn⟩ := KRow.form hN; obtain ⟨eA, en, ec, rfl, hen⟩ := KRow.form hE; obtain rfl : nn = ch := hnn.trans HCH.out; obtain rfl : en = NE := hen.trans HNE.out; have HLW := Lib.hid hb.size; have HH := Lib.hid (RowAt.new w1 46 #[.slice nA nn nc, .int .i64 R, .int .i64 T, .slice eA en ec, .int .i64 b]); have HEA := Lib.hid (KArg.keep (KRow.arg enC_size hE) (ba w1 (.cells #[.slice nA nn nc, .int .i64 R, .int .i64 T, .slice eA en ec, .int .i64 b] 46))); have HER := Lib.hid (KRow.alloc hE (.cells #[.slice nA nn nc, .int .i64 R, .int .i64 T, .slice eA en ec, .int .i64 b] 46)); have HEB := Lib.hid (fun g hg => (KRow.lt hE g hg).2); have KB := Lib.hid (hb.alloc hb.size (.cells #[.slice nA nn nc, .int .i64 R, .int .i64 T, .slice eA en ec, .int .i64 b] 46)); clear hnn hen hb hN hE CH))
        | fail)
      go_returns
      exact RgQ.bad HBAD.out KB.out
    · by_cases d2 : t ≤ f
      · have d2' : decide (t ≤ f) = true := decide_eq_true d2
        have d1' : decide (f < 0) = false := decide_eq_false d1
        clear hr
        go_enter Tryz.func21, Tryz.ntmps21
        go_wp2_with (first
          | (go_at_call 23; go_must (refine (CH.out ()).mono ?_; rintro e w1 ⟨vN, vB, rfl, hb, hN, hE⟩; obtain ⟨nA, nn, nc, rfl, hnn⟩ := KRow.form hN; obtain ⟨eA, en, ec, rfl, hen⟩ := KRow.form hE; obtain rfl : nn = ch := hnn.trans HCH.out; obtain rfl : en = NE := hen.trans HNE.out; have HLW := Lib.hid hb.size; have HH := Lib.hid (RowAt.new w1 46 #[.slice nA nn nc, .int .i64 R, .int .i64 T, .slice eA en ec, .int .i64 b]); have HEA := Lib.hid (KArg.keep (KRow.arg enC_size hE) (ba w1 (.cells #[.slice nA nn nc, .int .i64 R, .int .i64 T, .slice eA en ec, .int .i64 b] 46))); have HER := Lib.hid (KRow.alloc hE (.cells #[.slice nA nn nc, .int .i64 R, .int .i64 T, .slice eA en ec, .int .i64 b] 46)); have HEB := Lib.hid (fun g hg => (KRow.lt hE g hg).2); have KB := Lib.hid (hb.alloc hb.size (.cells #[.slice nA nn nc, .int .i64 R, .int .i64 T, .slice eA en ec, .int .i64 b] 46)); clear hnn hen hb hN hE CH))
          | fail)
        go_returns
        exact RgQ.bad HBAD.out KB.out
      · have d3 : (T : Int) < t := by omega
        have d2' : decide (t ≤ f) = false := decide_eq_false d2
        have d1' : decide (f < 0) = false := decide_eq_false d1
        clear hr
        go_enter Tryz.func21, Tryz.ntmps21
        go_wp2_with (first
          | (go_at_call 23; go_must (refine (CH.out ()).mono ?_; rintro e w1 ⟨vN, vB, rfl, hb, hN, hE⟩; obtain ⟨nA, nn, nc, rfl, hnn⟩ := KRow.form hN; obtain ⟨eA, en, ec, rfl, hen⟩ := KRow.form hE; obtain rfl : nn = ch := hnn.trans HCH.out; obtain rfl : en = NE := hen.trans HNE.out; have HLW := Lib.hid hb.size; have HH := Lib.hid (RowAt.new w1 46 #[.slice nA nn nc, .int .i64 R, .int .i64 T, .slice eA en ec, .int .i64 b]); have HEA := Lib.hid (KArg.keep (KRow.arg enC_size hE) (ba w1 (.cells #[.slice nA nn nc, .int .i64 R, .int .i64 T, .slice eA en ec, .int .i64 b] 46))); have HER := Lib.hid (KRow.alloc hE (.cells #[.slice nA nn nc, .int .i64 R, .int .i64 T, .slice eA en ec, .int .i64 b] 46)); have HEB := Lib.hid (fun g hg => (KRow.lt hE g hg).2); have KB := Lib.hid (hb.alloc hb.size (.cells #[.slice nA nn nc, .int .i64 R, .int .i64 T, .slice eA en ec, .int .i64 b] 46)); clear hnn hen hb hN hE CH))
          | fail)
        go_returns
        exact RgQ.bad HBAD.out KB.out
  have hk1 := plc_P h (a := f) (by omega)
  have hk2 := plc_P h (a := t - 1) (by omega)
  have hk12 := plc_mono h hr.1 (show f ≤ t - 1 by omega) (by omega)
  have HX := rgR_X h hr
  have HVR := Lib.hid (fun X hX => rgX_vr h (by rw [← hsl]; exact hs) hr (X := X) hX)
  have HLG := Lib.hid (fun j L (hj : j < (hdPts s.data.toList).length) (hL : pBk N.length (hdPts s.data.toList)[j] = some L) => pBk_lg hL ((hdPts_ok h (by rw [← hsl]; exact hs) _ (List.getElem_mem hj)).1))
  have HOK := Lib.hid (fun p hp => hdPts_ok h (by rw [← hsl]; exact hs) p hp)
  have HAT := Lib.hid (fun j hj hj' => hdPts_at h j hj hj')
  have HPB := Lib.hid (fun ch j hj hj' => pBk_rBk h ch j hj hj')
  have HPL := Lib.hid (show (hdPts s.data.toList).length = E.length by rw [hdPts_len, h])
  rw [hq] at HX
  have CP := Lib.hid (fun j (hj : j < E.length) W nA vB nc (hB : EnArg W vB E) => rreadBlock_any E nA vB N.length nc R T b j s W hB hj HO.out.e14 HO.out.ok (by rw [hsl]; exact HO.out.sz) hs HO.out.n16 HO.out.r18 HO.out.bk (HO.out.fe j hj).1 (HO.out.fe j hj).2)
  have CP2 := Lib.hid (fun j (hj : j < E.length) (hj2 : j < (hdPts s.data.toList).length) => show ∀ W nA vB nc (hB : EnArg W vB E), Calls Tryz.prog 41 #[.agg #[.slice nA N.length nc, .int .i64 R, .int .i64 T, vB, .int .i64 b], .string s, .int .i64 j] W (BkR (pBk N.length (hdPts s.data.toList)[j]) W) from fun W nA vB nc hB => by rw [HPB.out N.length j hj2 hj]; exact CP.out j hj W nA vB nc hB)
  have HFE := Lib.hid (fun j (hj : j < (hdPts s.data.toList).length) (hj' : j < E.length) => show (hdPts s.data.toList)[j].1 = E[j].1 by rw [HAT.out j hj hj'])
  have CPF := Lib.hid (fun W vN vB R T b (hB : EnArg W vB E) => rplace_any E vN vB R T b f W hB HO.out.e14)
  have CPT := Lib.hid (fun W vN vB R T b (hB : EnArg W vB E) => rplace_any E vN vB R T b (t - 1) W hB HO.out.e14)
  rw [h] at CH
  simp only at CH
  have HT40 := Lib.hid HO.out.t40
  have HE14 := Lib.hid HO.out.e14
  have HFT := Lib.hid (fun j (hj : j < E.length) => HO.out.fe j hj)
  rw [hch] at HX HLG CP2 HVR
  clear h hq hsl HPB CP HO HAT
  generalize hP : hdPts s.data.toList = P at *
  rw [hNE] at HVR HX hk1 hk2 hk12 CPF CPT
  generalize hkk1 : plc E f NE = k1 at *
  generalize hkk2 : plc E (t - 1) NE = k2 at *
  clear hP hkk1 hkk2
  have hsl := sub_len P k1 k2 hk12 hk2
  have HSL := Lib.hid hsl
  have HSA := Lib.hid (fun j (hj : j < (sub P k1 k2).length) (hj2 : k1 + j < P.length) => sub_at P k1 k2 j hj hj2)
  have HKP := Lib.hid (show k1 ≤ k2 ∧ k2 < P.length from ⟨hk12, hk2⟩)
  have HR := Lib.hid hr
  have d1 : ¬ f < 0 := by omega
  have d2 : ¬ t ≤ f := by omega
  have d3 : ¬ (T : Int) < t := by omega
  have d1' : decide (f < 0) = false := decide_eq_false d1
  have d2' : decide (t ≤ f) = false := decide_eq_false d2
  have d3' : decide ((T : Int) < t) = false := decide_eq_false d3
  have hfb : f ≤ 1099511627776 := by have := HT40.out; omega
  have htb : t ≤ 1099511627776 := by have := HT40.out; omega
  have hnb : NE ≤ 16384 := by have := HE14.out; omega
  have hkb : k2 ≤ 16384 := by have := HKP.out; have := HPL.out; omega
  have hkc : k1 ≤ k2 := hk12
  have HXX := Lib.hid HX
  obtain ⟨rx, hrx⟩ : ∃ rx, rgX ch f t (sub P k1 k2) = rx := ⟨_, rfl⟩
  have HRX := Lib.hid hrx
  rw [hrx] at HXX
  clear hr hk1 hk2 hk12 hsl HX hrx hch hNE
  go_enter Tryz.func21, Tryz.ntmps21
  go_wp2_with (first
    | (go_at_call 23; go_must (refine (CH.out ()).mono ?_; rintro e w1 ⟨vN, vB, rfl, hb, hN, hE⟩; obtain ⟨nA, nn, nc, rfl, hnn⟩ := KRow.form hN; obtain ⟨eA, en, ec, rfl, hen⟩ := KRow.form hE; obtain rfl : nn = ch := hnn.trans HCH.out; obtain rfl : en = NE := hen.trans HNE.out; have HLW := Lib.hid hb.size; have HH := Lib.hid (RowAt.new w1 46 #[.slice nA nn nc, .int .i64 R, .int .i64 T, .slice eA en ec, .int .i64 b]); have HEA := Lib.hid (KArg.keep (KRow.arg enC_size hE) (ba w1 (.cells #[.slice nA nn nc, .int .i64 R, .int .i64 T, .slice eA en ec, .int .i64 b] 46))); have HER := Lib.hid (KRow.alloc hE (.cells #[.slice nA nn nc, .int .i64 R, .int .i64 T, .slice eA en ec, .int .i64 b] 46)); have HEB := Lib.hid (fun g hg => (KRow.lt hE g hg).2); have KB := Lib.hid (hb.alloc hb.size (.cells #[.slice nA nn nc, .int .i64 R, .int .i64 T, .slice eA en ec, .int .i64 b] 46)); clear hnn hen hb hN hE CH))
    | (go_at_call 43; go_must (refine (CPF.out _ _ _ _ _ _ (KArg.keep HEA.out (ba _ (.cells #[] 54)))).mono ?_; rintro e w2 ⟨rfl, hb⟩; have HLIT := Lib.hid (KRow.keep (KRow.lit (enc := Si.rnC) (T := 54) Si.rnC_size (w1.alloc (.cells #[.slice nA nn nc, .int .i64 R, .int .i64 T, .slice eA en ec, .int .i64 b] 46)) (w1.alloc (.cells #[.slice nA nn nc, .int .i64 R, .int .i64 T, .slice eA en ec, .int .i64 b] 46)).heap.size (Nat.le_refl _) [] #[] rfl 0 rfl (by simp)) hb); have HER2 := Lib.hid (KRow.keep (KRow.alloc HER.out (.cells #[] 54)) hb); replace HH := Lib.hid ((HH.out.alloc (.cells #[] 54)).keep hb); replace KB := Lib.hid ((KB.out.alloc KB.out.size (.cells #[] 54)).trans (hb.mono (KB.out.alloc KB.out.size (.cells #[] 54)).size)); clear hb CPF))
    | fail)
  have HSZ2 := Lib.hid (show w1.heap.size + 1 ≤ w2.heap.size by have := HH.out.lt; omega)
  go_loopw [10, 11] (fun v i wr => ∃ (X : List Si.Rn) (j : Nat), j ≤ k2 + 1 - k1 ∧ i = .int .i64 ((k1 + j : Nat) : Int) ∧ Hid (X.length ≤ 16 * j) ∧ Hid (aP X (rgX nn f t ((sub P k1 k2).drop j)) = rx) ∧ Hid (Si.RnRow wr (w1.heap.size + 1) v X) ∧ Hid (RowAt wr w1.heap.size 46 #[.slice nA nn nc, .int .i64 R, .int .i64 T, .slice eA en ec, .int .i64 b]) ∧ Hid (EnRow wr w.heap.size (.slice eA en ec) E) ∧ Hid (Below w.heap.size w wr)) (fun _ i _ => k2 + 1 - (intOf i).toNat)
  case atStart => exact ⟨[], 0, Nat.zero_le _, rfl, Lib.hid (Nat.zero_le _), Lib.hid (by rw [List.drop_zero, aP_nil, HRX.out]), Lib.hid (by have hl := HLIT.out; rw [World.size_alloc] at hl; exact hl), HH, Lib.hid (KRow.mono HER2.out (Nat.le_refl _)), KB⟩
  case round =>
    clear HH HLIT HER2 KB
    obtain ⟨X, j, hj, rfl, HX, HA, HR2, HH, HER3, KB⟩ := hrel
    obtain ⟨rA, rn, rc, rfl, hrn⟩ := KRow.form HR2.out
    clear hrn
    have h0 : wr.cell? ⟨w1.heap.size, 0, none⟩ = some (.slice nA nn nc) := HH.out.cell 0
    have h1 : wr.cell? ⟨w1.heap.size, 1, none⟩ = some (.int .i64 R) := HH.out.cell 1
    have h2 : wr.cell? ⟨w1.heap.size, 2, none⟩ = some (.int .i64 T) := HH.out.cell 2
    have h3 : wr.cell? ⟨w1.heap.size, 3, none⟩ = some (.slice eA en ec) := HH.out.cell 3
    have h4 : wr.cell? ⟨w1.heap.size, 4, none⟩ = some (.int .i64 b) := HH.out.cell 4
    obtain ⟨jj, hjj⟩ : ∃ jj, k1 + j = jj := ⟨_, rfl⟩
    have HJJ := Lib.hid hjj
    rw [hjj]
    have hjb : jj ≤ k2 + 1 := by omega
    by_cases hlt : j < k2 + 1 - k1
    · have hjP : jj < P.length := by have := HKP.out; omega
      have hjE : jj < E.length := by have := HPL.out; omega
      have hji : (jj : Int) ≤ (k2 : Int) := by omega
      have hjn : (jj : Int) < (en : Int) := by have := HNE.out; omega
      have hjS : j < (sub P k1 k2).length := by have := HSL.out; omega
      have hSJ : (sub P k1 k2)[j] = P[jj] := by rw [HSA.out j hjS (by omega)]; congr 1
      have CPJ := Lib.hid (fun W nA vB nc (hB : EnArg W vB E) => CP2.out jj hjE hjP W nA vB nc hB)
      have HY := Lib.hid (fun L (h : pBk nn P[jj] = some L) => rgX_yes (f := f) (t := t) hjS (by rw [hSJ]; exact h) X)
      have HNO := Lib.hid (fun (h : pBk nn P[jj] = none) => rgX_no (f := f) (t := t) hjS (by rw [hSJ]; exact h) X)
      rw [hSJ] at HY
      have HLL := Lib.hid (fun L (h : pBk nn P[jj] = some L) => HLG.out jj L hjP h)
      have HL16 := Lib.hid (fun L (h : pBk nn P[jj] = some L) => show L.length ≤ 16 by
        unfold pBk at h
        have h1 := rBk_len h
        have := (HOK.out _ (List.getElem_mem hjP)).2.2.1
        omega)
      have HFE2 := HFE.out jj hjP hjE
      have HEND := (HOK.out _ (List.getElem_mem hjP))
      obtain ⟨g, o, hgo, hg, f0, f0x, f0y⟩ := enCell (A := eA) (c := ec) (w := wr) (w' := wr) (E := E) (by obtain ⟨A', c', e, q⟩ := KRow.arg enC_size HER3.out; have : en = E.length := HNE.out.symm; subst this; exact KRow.arg enC_size HER3.out) (Below.refl _ _) jj hjE
      clear f0x f0y
      subst hgo
      rw [← HFE2] at f0
      have HG := Lib.hid hg
      obtain ⟨p0, hp0⟩ : ∃ p0, P[jj].1 = p0 := ⟨_, rfl⟩
      obtain ⟨p1, hp1⟩ : ∃ p1, P[jj].2.1 = p1 := ⟨_, rfl⟩
      rw [hp0] at f0 HLL HY
      rw [hp1] at HLL
      have HP01 := Lib.hid (show p0 ≤ p1 ∧ p1 ≤ 1099511627776 by rw [← hp0, ← hp1]; exact ⟨HEND.1, HEND.2.1⟩)
      generalize pBk nn P[jj] = qq at *
      have HLT := Lib.hid hlt
      have F0 := Lib.hid f0
      clear hlt hjP hjE hjS hSJ HFE2 HEND hp0 hp1 hjj hg f0
      cases qq with
      | none =>
        have HXN := Lib.hid (show rx = none by rw [← HA.out]; exact HNO.out rfl)
        have HBAD := Lib.hid (show q = ([], 12) by have h := HXX.out; rw [HXN.out] at h; exact h)
        clear HY HNO HLL HL16 HA HXN HXX
        go_wp2_with (first
          | (go_at_call 43; go_must (refine (CPT.out _ _ _ _ _ _ (KRow.arg enC_size HER3.out)).mono ?_; rintro e w5 ⟨rfl, hb⟩; have HH5 := Lib.hid (HH.out.keep hb); have HE5 := Lib.hid (KRow.keep HER3.out hb); have KB5 := Lib.hid (KB.out.trans (hb.mono KB.out.size)); have i0 := HH5.out.cell 0; have i1 := HH5.out.cell 1; have i2 := HH5.out.cell 2; have i3 := HH5.out.cell 3; have i4 := HH5.out.cell 4; clear hb CPT))
          | (go_at_call 41; go_must (refine (CPJ.out _ _ _ _ (KRow.arg enC_size HE5.out)).mono ?_; rintro e w6 ⟨v, er, rfl, ⟨lA, ln, lc, rfl⟩, hE, _, hb⟩; obtain rfl : er = 12 := hE; have KB6 := Lib.hid (KB5.out.trans (hb.mono KB5.out.size)); clear hb CPJ))
          | fail)
        go_returns
        exact RgQ.bad HBAD.out KB6.out
      | some L =>
        have HA2 := Lib.hid ((HY.out L rfl).symm.trans HA.out)
        obtain ⟨hlg, hlr⟩ := HLL.out L rfl
        have hl16 := HL16.out L rfl
        have CQ := Lib.hid (fun W V (hV : Si.RnArg W V L) => rpart10_any L V (p0 : Int) f t W hV (by omega) (fun x hx => (hlr x hx).2.2.1) (by omega) (by rw [hlg]; have := HP01.out; omega) (by omega) hfb (by omega) htb)
        have HSN := Lib.hid (show (Si.sl (p0 : Int) L f t).length ≤ 16 from Nat.le_trans (Si.sl_len _ _ _ _) hl16)
        clear HY HNO HLL HL16 HA hlg hlr hl16
        generalize Si.sl (p0 : Int) L f t = Y at *
        go_wp2_with (first
          | (go_at_call 43; go_must (refine (CPT.out _ _ _ _ _ _ (KRow.arg enC_size HER3.out)).mono ?_; rintro e w5 ⟨rfl, hb⟩; have HH5 := Lib.hid (HH.out.keep hb); have HR5 := Lib.hid (KRow.keep HR2.out hb); have HE5 := Lib.hid (KRow.keep HER3.out hb); have F5 := Lib.hid ((hb.cell (p := ⟨g, o + jj * 3, none⟩) HG.out).trans F0.out); have HG5 := Lib.hid (Nat.lt_of_lt_of_le HG.out hb.size); have KB5 := Lib.hid (KB.out.trans (hb.mono KB.out.size)); have i0 := HH5.out.cell 0; have i1 := HH5.out.cell 1; have i2 := HH5.out.cell 2; have i3 := HH5.out.cell 3; have i4 := HH5.out.cell 4; clear hb CPT))
          | (go_at_call 41; go_must (refine (CPJ.out _ _ _ _ (KRow.arg enC_size HE5.out)).mono ?_; rintro e w6 ⟨v, er, rfl, ⟨lA, ln, lc, rfl⟩, hE, hr, hb⟩; obtain rfl : er = 0 := hE; have HL6 := Lib.hid (KRow.arg Si.rnC_size hr); have HH6 := Lib.hid (HH5.out.keep hb); have HR6 := Lib.hid (KRow.keep HR5.out hb); have HE6 := Lib.hid (KRow.keep HE5.out hb); have F6 := Lib.hid ((hb.cell (p := ⟨g, o + jj * 3, none⟩) HG5.out).trans F5.out); have f6 := F6.out; have KB6 := Lib.hid (KB5.out.trans (hb.mono KB5.out.size)); have q3 := HH6.out.cell 3; clear hb hr CPJ i0 i1 i2 i3 i4))
          | (go_at_call 47; go_must (refine (CQ.out _ _ HL6.out).mono ?_; rintro e w7 ⟨v7, rfl, hr, hb⟩; obtain ⟨yA, yn, yc, rfl, hyn⟩ := KRow.form hr; have HY7 := Lib.hid (KRow.arg Si.rnC_size hr); have HH7 := Lib.hid (HH6.out.keep hb); have HR7 := Lib.hid (KRow.keep HR6.out hb); have HE7 := Lib.hid (KRow.keep HE6.out hb); have KB7 := Lib.hid (KB6.out.trans (hb.mono KB6.out.size)); have hlx : Y.length ≤ 16 := HSN.out; have hxx : X.length ≤ 262144 := Nat.le_trans HX.out (by have := HLT.out; omega); clear hb hr hyn CQ f6 q3))
          | (refine wpList_append_arg (o := ⟨some 68, _, _, _, _, _⟩) Tryz.underlying23 Si.run_info rfl (by omega) Si.rnC_size Si.rnC_one rfl (.tmp 57) (.tmp 67) rfl rfl rfl HR7.out HY7.out (show w1.heap.size + 1 ≤ w7.heap.size by have := HH7.out.lt; omega) (by (try simp only [List.length_append]); omega) (by (try simp only [List.length_append]); omega) ?_; intro v8 w8 r8 b8; obtain ⟨A8, n8, c8, rfl, hn8⟩ := KRow.form r8; clear hn8; have R8 := Lib.hid r8; have HH8 := Lib.hid (HH7.out.below b8 (Nat.lt_succ_self _)); have HE8 := Lib.hid (Below.ownsRow HE7.out b8 (fun k hk => by have := HEB.out k hk; omega)); have KB8 := Lib.hid (KB7.out.trans (b8.mono (by have := HLW.out; omega))))
          | fail)
        go_roundw
        case rel => exact ⟨X ++ Y, j + 1, by have := HLT.out; omega, val_int (by have := HJJ.out; omega), Lib.hid (by rw [List.length_append]; have := HX.out; have := HSN.out; omega), HA2, R8, HH8, HE8, KB8⟩
        case measure => simp [intOf]; have := HLT.out; have := HJJ.out; omega
    · have hje : j = (sub P k1 k2).length := by have := HSL.out; omega
      have HXS := Lib.hid (show rx = some X by
        rw [← HA.out, hje, List.drop_length]; unfold aP rgX; simp)
      have HF := Lib.hid (show q = (Si.jn X, 0) by have h := HXX.out; rw [HXS.out] at h; exact h)
      have hvr := HVR.out X (by rw [HRX.out, HXS.out])
      have CC := Lib.hid (fun V W (hT : Si.RnArg W V X) => rclean10_any _ X V W hT (by have := hvr.2; omega) hvr.1)
      have hji : ¬ (jj : Int) ≤ (k2 : Int) := by omega
      have hji2 : decide ((jj : Int) ≤ (k2 : Int)) = false := decide_eq_false hji
      clear HXX hje HA CP2 HLG hvr
      go_wp2_with (first
        | (go_at_call 43; go_must (refine (CPT.out _ _ _ _ _ _ (KRow.arg enC_size HER3.out)).mono ?_; rintro e w5 ⟨rfl, hb⟩; have HR5 := Lib.hid (KRow.keep HR2.out hb); have KB5 := Lib.hid (KB.out.trans (hb.mono KB.out.size)); clear hb CPT))
        | (go_at_call 31; go_must (refine (CC.out _ _ (KRow.arg Si.rnC_size HR5.out)).mono ?_; rintro e w6 ⟨v6, rfl, hr6, hb⟩; have HR6 := Lib.hid hr6; have HSZ := Lib.hid KB5.out.size; have KB6 := Lib.hid (KB5.out.trans (hb.mono KB5.out.size)); obtain ⟨fA, fn, fc, rfl, hfn⟩ := KRow.form hr6; clear hb CC hr6 hfn))
        | fail)
      go_returns
      rw [HF.out]
      exact ⟨_, rfl, KRow.mono HR6.out HSZ.out, KB6.out⟩

end Go.Proofs.YtillcmddbjhepaaGreatDoor

namespace Go.Proofs.YtillcmddbjhepaaGreatDoor
open Go Go.RowKit Go.Joins
set_option linter.unusedVariables false
set_option linter.unusedSimpArgs false

theorem sub_one {P : List Pt} {k : Nat} (h : k < P.length) : sub P k k = [P[k]] := by
  unfold sub
  rw [List.drop_eq_getElem_cons h, show k + 1 - k = 1 by omega, List.take_succ_cons, List.take_zero]
theorem rgR_at {l : List UInt8} {N : List ByteArray} {R T : Nat} {E : List En} {b : Nat} (h : rd l = ((N, R, T, E, b), 0)) (hl : l.length ≤ 140737488351232) {a : Int} (h2 : 0 ≤ a ∧ a < T) :
    (rgR l a (a + 1) = ([], 12) ∧ atR l a = (0, 12)) ∨ ∃ x r, rgR l a (a + 1) = (x :: r, 0) ∧ atR l a = (x.1, 0) := by
  have hk := plc_P h h2
  have he := plc_ends h h2
  have hok := (hdPts_ok h hl _ (List.getElem_mem hk)).1
  have h3 : 0 ≤ a ∧ a < a + 1 ∧ a + 1 ≤ T := by omega
  have hs : sub (hdPts l) (plc E a E.length) (plc E (a + 1 - 1) E.length) = [(hdPts l)[plc E a E.length]] := by
    rw [Int.add_sub_cancel]; exact sub_one hk
  cases hp : pBk N.length ((hdPts l)[plc E a E.length]) with
  | none =>
    refine .inl ⟨rgR_3 h h3 ?_, atR_3 h h2 hp⟩
    rw [hs, pBs, hp]
  | some L =>
    obtain ⟨h4, h5⟩ := pBk_lg hp hok
    have hps : Si.ps L := fun x hx => (h5 x hx).2.2.1
    have hr := rgR_4 h h3 hk (L := L) (by rw [hs, pBs, hp]; simp [pBs])
    have ha := atR_4 h h2 hp
    rw [hr, ha]
    have e1 := Si.prt_at (R := L) (f := a - (hdPts l)[plc E a E.length].1) (t := a + 1 - (hdPts l)[plc E a E.length].1) (k := 0) hps (by omega) (by omega) (by omega)
    have e2 := Si.prt_lg (R := L) (f := a - (hdPts l)[plc E a E.length].1) (t := a + 1 - (hdPts l)[plc E a E.length].1) hps (by omega) (by omega) (by omega)
    have e3 := Si.prt_ps L (a - (hdPts l)[plc E a E.length].1) (a + 1 - (hdPts l)[plc E a E.length].1)
    rw [Int.add_zero] at e1
    refine .inr ?_
    generalize Si.prt L (a - (hdPts l)[plc E a E.length].1) (a + 1 - (hdPts l)[plc E a E.length].1) = Z at *
    rcases Z with _ | ⟨x, r⟩
    · have : Si.lg [] = 0 := rfl
      omega
    · refine ⟨x, r, rfl, ?_⟩
      rw [Si.ps_cons] at e3
      rw [Si.atv_cons, if_pos (by omega)] at e1
      rw [← e1]

set_option maxRecDepth 100000 in
set_option maxHeartbeats 4000000 in
theorem rAt_any (s : ByteArray) (at_ : Int) (w : World) (hs : s.size ≤ 140737488351232) :
    Calls Tryz.prog 19 #[.string s, .int .i64 at_] w (AtQ (atR s.data.toList at_) w) := by
  have hsl := size_len s
  have CH := Lib.hid (fun (_ : Unit) => rReadHead_any s w hs)
  obtain ⟨q, hq⟩ : ∃ q, atR s.data.toList at_ = q := ⟨_, rfl⟩
  obtain ⟨⟨⟨N, R, T, E, b⟩, er⟩, h⟩ : ∃ p, rd s.data.toList = p := ⟨_, rfl⟩
  unfold HhR at CH
  rw [hq]
  by_cases c : er = 0
  case neg =>
    have HBAD := Lib.hid (show q = (0, er) by rw [← hq, atR_1 (by rw [h]; exact c), h])
    rw [h] at CH
    simp only at CH
    have c' : ((er : Int) != 0) = true := by simp; omega
    clear h hq hsl
    go_enter Tryz.func19, Tryz.ntmps19
    go_wp2_with (first
      | (go_at_call 23; go_must (refine (CH.out ()).mono ?_; rintro e w1 ⟨vN, vB, rfl, hb, hN, hE⟩; obtain ⟨nA, nn, nc, rfl, hnn⟩ := KRow.form hN; obtain ⟨eA, en, ec, rfl, hen⟩ := KRow.form hE; have KB := Lib.hid (hb.alloc hb.size (.cells #[.slice nA nn nc, .int .i64 R, .int .i64 T, .slice eA en ec, .int .i64 b] 46)); clear hnn hen hb hN hE CH))
      | fail)
    go_returns
    exact AtQ.of HBAD.out KB.out
  subst c
  have HT40 := Lib.hid (okH_of h).t40
  obtain ⟨ch, hch⟩ : ∃ ch, N.length = ch := ⟨_, rfl⟩
  have HCH := Lib.hid hch
  obtain ⟨NE, hNE⟩ : ∃ NE, E.length = NE := ⟨_, rfl⟩
  have HNE := Lib.hid hNE
  by_cases hr : 0 ≤ at_ ∧ at_ < T
  case neg =>
    have HBAD := Lib.hid (show q = (0, 2) by rw [← hq, atR_2 h hr])
    rw [h] at CH
    simp only at CH
    clear h hq hsl hch hNE
    by_cases d1 : at_ < 0
    · clear hr
      go_enter Tryz.func19, Tryz.ntmps19
      go_wp2_with (first
        | (go_at_call 23; go_must (refine (CH.out ()).mono ?_; rintro e w1 ⟨vN, vB, rfl, hb, hN, hE⟩; obtain ⟨nA, nn, nc, rfl, hnn⟩ := KRow.form hN; obtain ⟨eA, en, ec, rfl, hen⟩ := KRow.form hE; obtain rfl : nn = ch := hnn.trans HCH.out; obtain rfl : en = NE := hen.trans HNE.out; have HLW := Lib.hid hb.size; have HH := Lib.hid (RowAt.new w1 46 #[.slice nA nn nc, .int .i64 R, .int .i64 T, .slice eA en ec, .int .i64 b]); have HEA := Lib.hid (KArg.keep (KRow.arg enC_size hE) (ba w1 (.cells #[.slice nA nn nc, .int .i64 R, .int .i64 T, .slice eA en ec, .int .i64 b] 46))); have HER := Lib.hid (KRow.alloc hE (.cells #[.slice nA nn nc, .int .i64 R, .int .i64 T, .slice eA en ec, .int .i64 b] 46)); have HEB := Lib.hid (fun g hg => (KRow.lt hE g hg).2); have KB := Lib.hid (hb.alloc hb.size (.cells #[.slice nA nn nc, .int .i64 R, .int .i64 T, .slice eA en ec, .int .i64 b] 46)); clear hnn hen hb hN hE CH))
        | fail)
      go_returns
      exact AtQ.of HBAD.out KB.out
    · have d2 : (T : Int) ≤ at_ := by omega
      have d2' : decide ((T : Int) ≤ at_) = true := decide_eq_true d2
      have d1' : decide (at_ < 0) = false := decide_eq_false d1
      clear hr
      go_enter Tryz.func19, Tryz.ntmps19
      go_wp2_with (first
        | (go_at_call 23; go_must (refine (CH.out ()).mono ?_; rintro e w1 ⟨vN, vB, rfl, hb, hN, hE⟩; obtain ⟨nA, nn, nc, rfl, hnn⟩ := KRow.form hN; obtain ⟨eA, en, ec, rfl, hen⟩ := KRow.form hE; obtain rfl : nn = ch := hnn.trans HCH.out; obtain rfl : en = NE := hen.trans HNE.out; have HLW := Lib.hid hb.size; have HH := Lib.hid (RowAt.new w1 46 #[.slice nA nn nc, .int .i64 R, .int .i64 T, .slice eA en ec, .int .i64 b]); have HEA := Lib.hid (KArg.keep (KRow.arg enC_size hE) (ba w1 (.cells #[.slice nA nn nc, .int .i64 R, .int .i64 T, .slice eA en ec, .int .i64 b] 46))); have HER := Lib.hid (KRow.alloc hE (.cells #[.slice nA nn nc, .int .i64 R, .int .i64 T, .slice eA en ec, .int .i64 b] 46)); have HEB := Lib.hid (fun g hg => (KRow.lt hE g hg).2); have KB := Lib.hid (hb.alloc hb.size (.cells #[.slice nA nn nc, .int .i64 R, .int .i64 T, .slice eA en ec, .int .i64 b] 46)); clear hnn hen hb hN hE CH))
        | fail)
      go_returns
      exact AtQ.of HBAD.out KB.out
  have hx := rgR_at h (by rw [← hsl]; exact hs) hr
  have CR := Lib.hid (fun W => rRange_any s at_ (at_ + 1) W hs)
  rw [hq] at hx
  rw [h] at CH
  simp only at CH
  have d1 : ¬ at_ < 0 := by omega
  have d2 : ¬ (T : Int) ≤ at_ := by omega
  have d1' : decide (at_ < 0) = false := decide_eq_false d1
  have d2' : decide ((T : Int) ≤ at_) = false := decide_eq_false d2
  have hab : at_ ≤ 1099511627776 := by have := HT40.out; omega
  clear h hq hsl hch hNE hr
  generalize rgR s.data.toList at_ (at_ + 1) = z at *
  rcases hx with ⟨rfl, hx⟩ | ⟨x, r, rfl, hx⟩
  · have HBAD := Lib.hid hx
    clear hx
    go_enter Tryz.func19, Tryz.ntmps19
    go_wp2_with (first
      | (go_at_call 23; go_must (refine (CH.out ()).mono ?_; rintro e w1 ⟨vN, vB, rfl, hb, hN, hE⟩; obtain ⟨nA, nn, nc, rfl, hnn⟩ := KRow.form hN; obtain ⟨eA, en, ec, rfl, hen⟩ := KRow.form hE; obtain rfl : nn = ch := hnn.trans HCH.out; obtain rfl : en = NE := hen.trans HNE.out; have HLW := Lib.hid hb.size; have HH := Lib.hid (RowAt.new w1 46 #[.slice nA nn nc, .int .i64 R, .int .i64 T, .slice eA en ec, .int .i64 b]); have HEA := Lib.hid (KArg.keep (KRow.arg enC_size hE) (ba w1 (.cells #[.slice nA nn nc, .int .i64 R, .int .i64 T, .slice eA en ec, .int .i64 b] 46))); have HER := Lib.hid (KRow.alloc hE (.cells #[.slice nA nn nc, .int .i64 R, .int .i64 T, .slice eA en ec, .int .i64 b] 46)); have HEB := Lib.hid (fun g hg => (KRow.lt hE g hg).2); have KB := Lib.hid (hb.alloc hb.size (.cells #[.slice nA nn nc, .int .i64 R, .int .i64 T, .slice eA en ec, .int .i64 b] 46)); clear hnn hen hb hN hE CH))
      | (go_at_call 21; go_must (refine (CR.out _).mono ?_; rintro e w2 ⟨v, rfl, hr, hb⟩; obtain ⟨rA, rn, rc, rfl, hrn⟩ := KRow.form hr; have KB2 := Lib.hid (KB.out.trans (hb.mono KB.out.size)); clear hr hb hrn CR))
      | fail)
    go_returns
    exact AtQ.of HBAD.out KB2.out
  · have HF := Lib.hid hx
    clear hx
    obtain ⟨x0, x1⟩ := x
    go_enter Tryz.func19, Tryz.ntmps19
    go_wp2_with (first
      | (go_at_call 23; go_must (refine (CH.out ()).mono ?_; rintro e w1 ⟨vN, vB, rfl, hb, hN, hE⟩; obtain ⟨nA, nn, nc, rfl, hnn⟩ := KRow.form hN; obtain ⟨eA, en, ec, rfl, hen⟩ := KRow.form hE; obtain rfl : nn = ch := hnn.trans HCH.out; obtain rfl : en = NE := hen.trans HNE.out; have HLW := Lib.hid hb.size; have HH := Lib.hid (RowAt.new w1 46 #[.slice nA nn nc, .int .i64 R, .int .i64 T, .slice eA en ec, .int .i64 b]); have HEA := Lib.hid (KArg.keep (KRow.arg enC_size hE) (ba w1 (.cells #[.slice nA nn nc, .int .i64 R, .int .i64 T, .slice eA en ec, .int .i64 b] 46))); have HER := Lib.hid (KRow.alloc hE (.cells #[.slice nA nn nc, .int .i64 R, .int .i64 T, .slice eA en ec, .int .i64 b] 46)); have HEB := Lib.hid (fun g hg => (KRow.lt hE g hg).2); have KB := Lib.hid (hb.alloc hb.size (.cells #[.slice nA nn nc, .int .i64 R, .int .i64 T, .slice eA en ec, .int .i64 b] 46)); clear hnn hen hb hN hE CH))
      | (go_at_call 21; go_must (refine (CR.out _).mono ?_; rintro e w2 ⟨v, rfl, hr, hb⟩; obtain ⟨g, c, rfl⟩ := KRow.full hr (by simp); have f0 : w2.cell? ⟨g, 0, none⟩ = some (.int .i64 x0) := KRow.cell Si.rnC_size hr 0 (by simp) 0 (by omega); have hln : (0 : Int) < ((((x0, x1) : Si.Rn) :: r).length : Int) := (by simp); generalize (((x0, x1) : Si.Rn) :: r).length = M at *; have KB2 := Lib.hid (KB.out.trans (hb.mono KB.out.size)); clear hr hb CR))
      | fail)
    go_returns
    exact AtQ.of HF.out KB2.out

end Go.Proofs.YtillcmddbjhepaaGreatDoor
