/-
  The specification's Decode. (Written by tools/s10_genH7.py.)
-/
import Derived.Test.YtillcmddbjhepaaGreatDoorZ34
import Derived.Test.YtillcmddbjhepaaGreatDoorZ30
import Derived.Test.YtillcmddbjhepaaGreatDoorZ17
namespace Go.Proofs.YtillcmddbjhepaaGreatDoor
open Go Go.RowKit Go.Joins
open Go.BigFrame
set_option linter.unusedVariables false
set_option linter.unusedSimpArgs false

theorem pBk_rBk {l : List UInt8} {N : List ByteArray} {R T : Nat} {E : List En} {b : Nat} (h : rd l = ((N, R, T, E, b), 0)) (ch j : Nat) (hj : j < (hdPts l).length) (hj' : j < E.length) : pBk ch (hdPts l)[j] = rBk (bkB E (l.drop b) j E[j].2.1) (2 ^ ch - 1) (szN R j) E[j].2.2 (eT E T j - E[j].1) := by
  rw [hdPts_at h j hj hj']
  unfold pBk
  simp only [toList_mk]
/-- What the specification reads of a head. -/
structure OkH (l : List UInt8) (N : List ByteArray) (R T : Nat) (E : List En) (b : Nat) : Prop where
  n16 : N.length ≤ 16
  nsz : ∀ s ∈ N, s.size ≤ 16
  r18 : R ≤ 262144
  e14 : E.length ≤ 16384
  ok : ∀ x ∈ E, okE x
  sz : b + szE E ≤ l.length
  bk : E.length = bkN R
  fe : ∀ k (hk : k < E.length), E[k].1 ≤ eT E T k ∧ eT E T k ≤ 1099511627776
  t40 : T ≤ 1099511627776
theorem okH_of {l : List UInt8} {N : List ByteArray} {R T : Nat} {E : List En} {b : Nat} (h : rd l = ((N, R, T, E, b), 0)) : OkH l N R T E b := by
  obtain ⟨e1, e2, e3, e4, e5, e6⟩ := rd_was h
  have hi : rH l = ((N, R, T, E, b), 0) := by
    rcases rd_form l with ⟨e, h0, hx⟩ | ⟨N', R', T', E', b', hx, _, hy⟩
    · rw [h] at hx; injection hx with _ hx; exact absurd hx.symm h0
    · rw [h] at hx; rw [hx]; exact hy
  obtain ⟨q1, q2, q3, q4, q5, q6⟩ := rH_inv hi
  obtain ⟨a0, a1⟩ := (asc_iff E T).1 e4
  refine ⟨q6, e6, q2, by unfold bkN at q4; omega, q5, by rw [e5, List.length_drop]; omega, q4, fun k hk => ?_, q1⟩
  have h1 := a1 k hk
  have h2 := eA_mono e4 E.length (k + 1) (by omega) (Nat.le_refl _)
  have h3 : eA E T E.length = T := by unfold eA; rw [dif_neg (by omega)]
  rw [eT_eA]
  omega

set_option maxRecDepth 100000 in
set_option maxHeartbeats 8000000 in
theorem rDecode_any (s : ByteArray) (w : World) (hs : s.size ≤ 140737488351232) :
    Calls Tryz.prog 12 #[.string s] w (DcR (dc s.data.toList) w) := by
  have hsl := size_len s
  have RB := Lib.hid (RowAt.new w 25 #[.slice none 0 0, .slice none 0 0])
  have KB := Lib.hid (ba w (.cells #[.slice none 0 0, .slice none 0 0] 25))
  have CH := Lib.hid (fun (_ : Unit) => rReadHead_any s (w.alloc (.cells #[.slice none 0 0, .slice none 0 0] 25)) hs)
  obtain ⟨q, hq⟩ : ∃ q, dc s.data.toList = q := ⟨_, rfl⟩
  obtain ⟨⟨⟨N, R, T, E, b⟩, er⟩, h⟩ : ∃ p, rd s.data.toList = p := ⟨_, rfl⟩
  unfold HhR at CH
  rw [hq]
  by_cases c : er = 0
  case neg =>
    have HBAD := Lib.hid (show q = (([], []), (er : Int)) by rw [← hq, dc_1 (by rw [h]; exact c), h])
    rw [h] at CH
    simp only at CH
    have c' : ((er : Int) != 0) = true := by simp; omega
    clear h hq hsl
    go_enter Tryz.func12, Tryz.ntmps12
    go_wp2_with (first
      | (go_at_call 23; go_must (refine (CH.out ()).mono ?_; rintro e w1 ⟨vN, vB, rfl, hb, hN, hE⟩; obtain ⟨nA, nn, nc, rfl, hnn⟩ := KRow.form hN; obtain ⟨eA, en, ec, rfl, hen⟩ := KRow.form hE; replace RB := Lib.hid ((RB.out.keep hb).alloc (.cells #[.slice nA nn nc, .int .i64 R, .int .i64 T, .slice eA en ec, .int .i64 b] 46)); replace KB := Lib.hid ((KB.out.trans (hb.mono KB.out.size)).alloc (KB.out.trans (hb.mono KB.out.size)).size (.cells #[.slice nA nn nc, .int .i64 R, .int .i64 T, .slice eA en ec, .int .i64 b] 46)); clear hnn hen hb hN hE CH))
      | ((with_reducible refine wpList_store_at (B := w.heap.size) RB.out (Nat.le_refl _) #[.slice none 0 0, .slice none 0 0] (.tmp 2) _ 25 rfl rfl rfl rfl (by kernel_rfl) rfl rfl ?_); intro wz rz bz)
      | fail)
    have z0 : wz.cell? ⟨w.heap.size, 0, none⟩ = some (.slice none 0 0) := rz.cell 0
    have z1 : wz.cell? ⟨w.heap.size, 1, none⟩ = some (.slice none 0 0) := rz.cell 1
    refine bodyPost_ret (v := .tuple #[.agg #[.slice none 0 0, .slice none 0 0], .int .i64 er]) (by simp [results, Tryz.results12, go_sem, z0, z1]) rfl ?_
    exact DcR.bad HBAD.out (KB.out.trans bz)

  subst c
  have HO := Lib.hid (okH_of h)
  have HW := Lib.hid (fun L (hL : pBs N.length (hdPts s.data.toList) = some L) => (dec_was h hL).1)
  have HPB := Lib.hid (fun ch j hj hj' => pBk_rBk h ch j hj hj')
  have HPL := Lib.hid (show (hdPts s.data.toList).length = E.length by rw [hdPts_len, h])
  have HD2 := Lib.hid (fun hx => dc_2 (l := s.data.toList) (by rw [h]) hx)
  have HD3 := Lib.hid (fun L hx => dc_3 (l := s.data.toList) (by rw [h]) (L := L) hx)
  have HD4 := Lib.hid (fun L hx => dc_4 (l := s.data.toList) (by rw [h]) (L := L) hx)
  have HD5 := Lib.hid (fun L hx => dc_5 (l := s.data.toList) (by rw [h]) (L := L) hx)
  rw [h] at CH HD2 HD3 HD4 HD5
  simp only at CH HD2 HD3 HD4 HD5
  rw [hq] at HD2 HD3 HD4 HD5
  obtain ⟨P, hP⟩ : ∃ P, hdPts s.data.toList = P := ⟨_, rfl⟩
  obtain ⟨ch, hch⟩ : ∃ ch, N.length = ch := ⟨_, rfl⟩
  have HCH := Lib.hid hch
  have HPB2 := Lib.hid (fun j (hj : j < (hdPts s.data.toList).length) (hj' : j < E.length) => HPB.out ch j hj hj')
  have HN16 := Lib.hid HO.out.n16
  rw [hch] at HW HD2 HD3 HD4 HD5 HN16
  have CP := Lib.hid (fun j (hj : j < E.length) W nA vB nc (hB : EnArg W vB E) => rreadBlock_any E nA vB ch nc R T b j s W hB hj HO.out.e14 HO.out.ok (by rw [hsl]; exact HO.out.sz) hs HN16.out HO.out.r18 HO.out.bk (HO.out.fe j hj).1 (HO.out.fe j hj).2)
  have CP2 := Lib.hid (fun j (hj : j < E.length) (hj2 : j < (hdPts s.data.toList).length) => show ∀ W nA vB nc (hB : EnArg W vB E), Calls Tryz.prog 41 #[.agg #[.slice nA ch nc, .int .i64 R, .int .i64 T, vB, .int .i64 b], .string s, .int .i64 j] W (BkR (pBk ch (hdPts s.data.toList)[j]) W) from fun W nA vB nc hB => by rw [HPB2.out j hj2 hj]; exact CP.out j hj W nA vB nc hB)
  rw [hP] at HW HD2 HD3 HD4 HD5 HPL CP2
  obtain ⟨NE, hNE⟩ : ∃ NE, E.length = NE := ⟨_, rfl⟩
  have HNE := Lib.hid hNE
  have hne : NE ≤ 16384 := by have := HO.out.e14; omega
  have hnei : (NE : Int) ≤ 16384 := by omega
  obtain ⟨r, hr⟩ : ∃ r, pBs ch P = r := ⟨_, rfl⟩
  have HRR := Lib.hid hr
  rw [hr] at HW HD2 HD3 HD4 HD5
  have HNS := Lib.hid HO.out.nsz
  have HOK := Lib.hid (fun j (hj : j < P.length) => show P[j].2.2.1 ≤ 16 from by subst hP; exact (hdPts_ok h (by rw [← hsl]; exact hs) _ (List.getElem_mem hj)).2.2.1)
  clear h hq hsl hP hch hr hNE HPB HPB2 CP HO
  go_enter Tryz.func12, Tryz.ntmps12
  go_wp2_with (first
    | (go_at_call 23; go_must (refine (CH.out ()).mono ?_; rintro e w1 ⟨vN, vB, rfl, hb, hN, hE⟩; obtain ⟨nA, nn, nc, rfl, hnn⟩ := KRow.form hN; obtain ⟨eA, en, ec, rfl, hen⟩ := KRow.form hE; replace RB := Lib.hid ((RB.out.keep hb).alloc (.cells #[.slice nA nn nc, .int .i64 R, .int .i64 T, .slice eA en ec, .int .i64 b] 46)); obtain rfl : nn = ch := hnn.trans HCH.out; obtain rfl : en = NE := hen.trans HNE.out; have HH := Lib.hid (RowAt.new w1 46 #[.slice nA nn nc, .int .i64 R, .int .i64 T, .slice eA en ec, .int .i64 b]); have HN := Lib.hid (KRow.alloc (KRow.mono hN (show w.heap.size + 1 ≤ (w.alloc _).heap.size by rw [World.size_alloc]; exact Nat.le_refl _)) (.cells #[.slice nA nn nc, .int .i64 R, .int .i64 T, .slice eA en ec, .int .i64 b] 46)); have HEA := Lib.hid (KRow.alloc (KRow.mono hE (show w.heap.size + 1 ≤ (w.alloc _).heap.size by rw [World.size_alloc]; exact Nat.le_refl _)) (.cells #[.slice nA nn nc, .int .i64 R, .int .i64 T, .slice eA en ec, .int .i64 b] 46)); have HNB := Lib.hid (fun g hg => (KRow.lt hN g hg).2); have HEB := Lib.hid (fun g hg => (KRow.lt hE g hg).2); have HLW := Lib.hid (show w.heap.size < w1.heap.size from Nat.lt_of_lt_of_le (by rw [World.size_alloc]; exact Nat.lt_succ_self _) hb.size); have i0 : (w1.alloc (.cells #[.slice nA nn nc, .int .i64 R, .int .i64 T, .slice eA en ec, .int .i64 b] 46)).cell? ⟨w1.heap.size, 0, none⟩ = some (.slice nA nn nc) := HH.out.cell 0; replace KB := Lib.hid ((KB.out.trans (hb.mono KB.out.size)).alloc (KB.out.trans (hb.mono KB.out.size)).size (.cells #[.slice nA nn nc, .int .i64 R, .int .i64 T, .slice eA en ec, .int .i64 b] 46)); clear hnn hen hb hN hE CH))
    | fail)
  have RC := Lib.hid (show RowAt ((w1.alloc (.cells #[.slice nA nn nc, .int .i64 R, .int .i64 T, .slice eA en ec, .int .i64 b] 46)).alloc (.cells #[.slice nA nn nc, .slice none 0 0] 25)) (w1.heap.size + 1) 25 #[.slice nA nn nc, .slice none 0 0] from RowAt.at (by rw [World.size_alloc]))
  replace RB := Lib.hid (RB.out.alloc (.cells #[.slice nA nn nc, .slice none 0 0] 25))
  replace HH := Lib.hid (HH.out.alloc (.cells #[.slice nA nn nc, .slice none 0 0] 25))
  replace HN := Lib.hid (KRow.alloc HN.out (.cells #[.slice nA nn nc, .slice none 0 0] 25))
  replace HEA := Lib.hid (KRow.alloc HEA.out (.cells #[.slice nA nn nc, .slice none 0 0] 25))
  replace KB := Lib.hid (KB.out.alloc KB.out.size (.cells #[.slice nA nn nc, .slice none 0 0] 25))
  clear i0
  go_loopw [7] (fun i wr => ∃ (X : List Si.Rn) (j : Nat) (v : Value), j ≤ en ∧ i = .int .i64 j ∧ Hid (X.length ≤ 16 * j) ∧ Hid (aP X (pBs nn (P.drop j)) = pBs nn P) ∧ Hid (Si.RnRow wr (w1.heap.size + 2) v X) ∧ Hid (RowAt wr (w1.heap.size + 1) 25 #[.slice nA nn nc, v]) ∧ Hid (RowAt wr w.heap.size 25 #[.slice none 0 0, .slice none 0 0]) ∧ Hid (RowAt wr w1.heap.size 46 #[.slice nA nn nc, .int .i64 R, .int .i64 T, .slice eA en ec, .int .i64 b]) ∧ Hid (Si.NmRow wr (w.heap.size + 1) (.slice nA nn nc) N) ∧ Hid (EnRow wr (w.heap.size + 1) (.slice eA en ec) E) ∧ Hid (Below w.heap.size w wr)) (fun i _ => en - (intOf i).toNat)
  case atStart => exact ⟨[], 0, .slice none 0 0, Nat.zero_le _, rfl, Lib.hid (Nat.zero_le _), Lib.hid (aP_nil _), Lib.hid (KRow.nil _ _), RC, RB, HH, HN, HEA, KB⟩
  case round =>
    clear RC RB HH HN HEA KB
    obtain ⟨X, j, v, hj, rfl, HX, HA, HR, RC, RB, HH, HN, HEA, KB⟩ := hrel
    obtain ⟨rA, rn, rc, rfl, hrn⟩ := KRow.form HR.out
    have HRN := Lib.hid hrn
    clear hrn
    have g1 : wr.cell? ⟨w1.heap.size + 1, 1, none⟩ = some (.slice rA rn rc) := RC.out.cell 1
    have h0 : wr.cell? ⟨w1.heap.size, 0, none⟩ = some (.slice nA nn nc) := HH.out.cell 0
    have h1 : wr.cell? ⟨w1.heap.size, 1, none⟩ = some (.int .i64 R) := HH.out.cell 1
    have h2 : wr.cell? ⟨w1.heap.size, 2, none⟩ = some (.int .i64 T) := HH.out.cell 2
    have h3 : wr.cell? ⟨w1.heap.size, 3, none⟩ = some (.slice eA en ec) := HH.out.cell 3
    have h4 : wr.cell? ⟨w1.heap.size, 4, none⟩ = some (.int .i64 b) := HH.out.cell 4
    by_cases hlt : j < en
    · have hjE : j < E.length := by have := HNE.out; omega
      have hjP : j < P.length := by have := HPL.out; omega
      have hji : (j : Int) < en := by omega
      have CPJ := Lib.hid (fun W nA vB nc (hB : EnArg W vB E) => CP2.out j hjE hjP W nA vB nc hB)
      have HY := Lib.hid (fun L (h : pBk nn P[j] = some L) => pBs_yes hjP h X)
      have HNO := Lib.hid (fun (h : pBk nn P[j] = none) => pBs_no hjP h X)
      have HLL := Lib.hid (fun L (h : pBk nn P[j] = some L) => show L.length ≤ 16 by
        have hw := h
        unfold pBk at hw
        have h1 := rBk_len hw
        have := HOK.out j hjP
        omega)
      generalize pBk nn P[j] = qq at *
      have HLT := Lib.hid hlt
      clear hlt hjE hjP
      cases qq with
      | none =>
        have HRN0 := Lib.hid (show r = none by rw [← HRR.out, ← HA.out]; exact HNO.out rfl)
        have HBAD := Lib.hid (HD2.out HRN0.out)
        clear HY HNO HLL HA HD2 HD3 HD4 HD5
        go_wp2_with (first
          | (go_at_call 41; go_must (refine (CPJ.out _ _ _ _ (KRow.arg enC_size HEA.out)).mono ?_; rintro e w6 ⟨v, er, rfl, ⟨lA, ln, lc, rfl⟩, hE, _, hb⟩; obtain rfl : er = 12 := hE; have RB6 := Lib.hid (RB.out.keep hb); have KB6 := Lib.hid (KB.out.trans (hb.mono KB.out.size)); clear hb CPJ))
          | ((with_reducible refine wpList_store_at (B := w.heap.size) RB6.out (Nat.le_refl _) #[.slice none 0 0, .slice none 0 0] (.tmp 2) _ 25 rfl rfl rfl rfl (by kernel_rfl) rfl rfl ?_); intro wz rz bz)
          | fail)
        have z0 : wz.cell? ⟨w.heap.size, 0, none⟩ = some (.slice none 0 0) := rz.cell 0
        have z1 : wz.cell? ⟨w.heap.size, 1, none⟩ = some (.slice none 0 0) := rz.cell 1
        refine bodyPost_ret (v := .tuple #[.agg #[.slice none 0 0, .slice none 0 0], .int .i64 12]) (by simp [results, Tryz.results12, go_sem, z0, z1]) rfl ?_
        exact DcR.bad HBAD.out (KB6.out.trans bz)

      | some L =>
        have HA2 := Lib.hid ((HY.out L rfl).symm.trans HA.out)
        have HL16 := Lib.hid (HLL.out L rfl)
        clear HY HNO HLL HA
        go_wp2_with (first
          | (go_at_call 41; go_must (refine (CPJ.out _ _ _ _ (KRow.arg enC_size HEA.out)).mono ?_; rintro e w6 ⟨v, er, rfl, ⟨lA, ln, lc, rfl⟩, hE, hr, hb⟩; obtain rfl : er = 0 := hE; have RB6 := Lib.hid (RB.out.keep hb); have RC6 := Lib.hid (RC.out.keep hb); have HH6 := Lib.hid (HH.out.keep hb); have HN6 := Lib.hid (KRow.keep HN.out hb); have HE6 := Lib.hid (KRow.keep HEA.out hb); have HR6 := Lib.hid (KRow.keep HR.out hb); have RG6 := Lib.hid (KRow.arg Si.rnC_size hr); have KB6 := Lib.hid (KB.out.trans (hb.mono KB.out.size)); have k1 : w6.cell? ⟨w1.heap.size + 1, 1, none⟩ = some (.slice rA rn rc) := RC6.out.cell 1; have hlx : L.length ≤ 16 := HL16.out; have hxx : X.length ≤ 262144 := Nat.le_trans HX.out (by omega); clear hb hr CPJ))
          | (refine wpList_append_arg (o := ⟨some 43, _, _, _, _, _⟩) Tryz.underlying23 Si.run_info rfl (by omega) Si.rnC_size Si.rnC_one rfl (.tmp 41) (.tmp 42) rfl rfl rfl HR6.out RG6.out (show w1.heap.size + 2 ≤ w6.heap.size by have := RC6.out.lt; omega) (by simp; omega) (by simp; omega) ?_; intro v7 w7 r7 b7; obtain ⟨A7, n7, c7, rfl, hn7⟩ := KRow.form r7; clear hn7; have R7 := Lib.hid r7; have K8 := Lib.hid (Kp.setCell (p := ⟨w1.heap.size + 1, 1, none⟩) (Kp.refl [w1.heap.size + 1] w7) (.inl (by simp)) (.slice A7 n7 c7)); have RB7 := Lib.hid (RB6.out.below b7 (by have := HLW.out; omega)); have RC7 := Lib.hid (RC6.out.below b7 (by omega)); have HH7 := Lib.hid (HH6.out.below b7 (by omega)); have HN7 := Lib.hid (Below.ownsRow HN6.out b7 (fun k hk => by have := HNB.out k hk; omega)); have HE7 := Lib.hid (Below.ownsRow HE6.out b7 (fun k hk => by have := HEB.out k hk; omega)); have KB7 := Lib.hid (KB6.out.trans (b7.mono (by have := HLW.out; omega))); have k2 : w7.frozen? ⟨w1.heap.size + 1, 1, none⟩ = false := RC7.out.frozen 1; have k3 : w7.cell? ⟨w1.heap.size + 1, 1, none⟩ = some (.slice rA rn rc) := RC7.out.cell 1)
          | fail)
        go_roundw
        case rel => exact ⟨X ++ L, j + 1, .slice A7 n7 c7, by have := HLT.out; omega, val_int (by omega), Lib.hid (by rw [List.length_append]; have := HX.out; have := HL16.out; omega), HA2,
          Lib.hid (KRow.kp R7.out K8.out (fun g hg => by have := (KRow.lt R7.out g hg).1; simp; omega)), Lib.hid (RC7.out.set 1 _), Lib.hid (K8.out.row RB7.out (by simp; have := HLW.out; omega)), Lib.hid (K8.out.row HH7.out (by simp)), Lib.hid (KRow.kp HN7.out K8.out (fun g hg => by have := HNB.out g hg; simp; omega)), Lib.hid (KRow.kp HE7.out K8.out (fun g hg => by have := HEB.out g hg; simp; omega)), Lib.hid (KB7.out.trans (K8.out.below (B := w.heap.size) (by simp; have := HLW.out; omega) KB7.out.size))⟩
        case measure => simp [intOf]; have := HLT.out; omega
    · have hje : j = P.length := by have := HNE.out; have := HPL.out; omega
      have HRS := Lib.hid (show r = some X by
        rw [← HRR.out, ← HA.out, hje, List.drop_length]; unfold aP pBs; simp)
      have HOL := Lib.hid (HW.out X HRS.out)
      have HD3X := Lib.hid (HD3.out X HRS.out)
      have HD4X := Lib.hid (HD4.out X HRS.out)
      have HD5X := Lib.hid (HD5.out X HRS.out)
      have HVR := Lib.hid (show Si.vr ((2 ^ N.length - 1 : Nat) : Int) 0 X = true from (Si.vr_iff _ _ 0 (by omega)).2 ⟨fun x hx => ⟨(HOL.out.run x hx).1, (HOL.out.run x hx).2.1⟩, HOL.out.ps, by have := HOL.out.lgT; omega⟩)
      have hxl := HOL.out.len
      have CC := Lib.hid (fun V W (hT : Si.RnArg W V X) => rclean10_any _ X V W hT (by have := HOL.out.len; omega) HVR.out)
      have hji : ¬ (j : Int) < en := by omega
      have HCJ := Lib.hid (clP_jn X)
      have HS := Lib.hid (fun W (hb : Below wr.heap.size wr W) => show W.cell? ⟨w1.heap.size + 1, 1, none⟩ = some (.slice rA rn rc) ∧ Below wr.heap.size wr W from ⟨(RC.out.keep hb).cell 1, hb⟩)
      have HS0 := Lib.hid (HS.out _ (Below.refl _ _).drew)
      have CC2 := Lib.hid (fun W (hb : Below wr.heap.size wr W) => CC.out _ W (KRow.arg Si.rnC_size (KRow.keep HR.out hb)))
      clear HD2 HD3 HD4 HD5 HW HA HX hje CP2 HOK CC hxl h0 h1 h2 h4
      by_cases hcl : clP X
      case neg =>
        have HBAD := Lib.hid (HD3X.out hcl)
        have HNQ := Lib.hid (fun (cn : Nat) (h : cn = (Si.jn X).length) => show ((cn : Int) != (rn : Int)) = true from by
          have h1 := HRN.out
          have h2 : ¬ (Si.jn X).length = X.length := fun e => hcl (HCJ.out.2 e)
          simp; omega)
        clear hcl HD3X HD4X HD5X HCJ
        go_wp2
        go_region_held3 (fun W => W.cell? ⟨w1.heap.size + 1, 1, none⟩ = some (.slice rA rn rc) ∧ Below wr.heap.size wr W) (first | exact HS0.out | assumption | go_keep)
          (first
            | (go_at_call 31; refine (CC2.out _ (And.right (by assumption))).mono ?_; rintro x w5 ⟨v, rfl, hr, b5⟩; obtain ⟨cA, cn, cc, rfl, hcn⟩ := KRow.form hr; have hcq := HNQ.out cn hcn; clear hcn; have h5 := HS.out w5 (Below.trans (And.right (by assumption)) (b5.mono (Below.size (And.right (by assumption))))))
            | fail)
        all_goals
          rename_i hh
          have HH2 := Lib.hid hh.2
          clear hh
          have RB6 := Lib.hid (RB.out.keep HH2.out)
          have KB6 := Lib.hid (KB.out.trans (HH2.out.mono KB.out.size))
          go_wp2_with (first
            | ((with_reducible refine wpList_store_at (B := w.heap.size) RB6.out (Nat.le_refl _) #[.slice none 0 0, .slice none 0 0] (.tmp 2) _ 25 rfl rfl rfl rfl (by kernel_rfl) rfl rfl ?_); intro wz rz bz)
            | fail)
          have z0 : wz.cell? ⟨w.heap.size, 0, none⟩ = some (.slice none 0 0) := rz.cell 0
          have z1 : wz.cell? ⟨w.heap.size, 1, none⟩ = some (.slice none 0 0) := rz.cell 1
          refine bodyPost_ret (v := .tuple #[.agg #[.slice none 0 0, .slice none 0 0], .int .i64 12]) (by simp [results, Tryz.results12, go_sem, z0, z1]) rfl ?_
          exact DcR.bad HBAD.out (KB6.out.trans bz)
      have HNQ := Lib.hid (fun (cn : Nat) (h : cn = (Si.jn X).length) => show ((cn : Int) != (rn : Int)) = false from by
        have h1 := HRN.out
        have h2 : (Si.jn X).length = X.length := HCJ.out.1 hcl
        simp; omega)
      have CX := Lib.hid (fun V1 V2 W (hN : Si.NmArg W V1 N) (hR : Si.RnArg W V2 X) => Si.rcheck_any N X V1 V2 W hN (okL_ck (L := X) HNS.out) hR (by have := HOL.out.len; omega))
      have HD4L := Lib.hid (HD4X.out hcl)
      have HD5L := Lib.hid (HD5X.out hcl)
      obtain ⟨z, hz⟩ : ∃ z, Si.ckC N X = z := ⟨_, rfl⟩
      rw [hz] at CX HD4L HD5L
      clear hcl HD3X HD4X HD5X HCJ hz
      go_wp2
      go_region_held3 (fun W => W.cell? ⟨w1.heap.size + 1, 1, none⟩ = some (.slice rA rn rc) ∧ Below wr.heap.size wr W) (first | exact HS0.out | assumption | go_keep)
        (first
          | (go_at_call 31; refine (CC2.out _ (And.right (by assumption))).mono ?_; rintro x w5 ⟨v, rfl, hr, b5⟩; obtain ⟨cA, cn, cc, rfl, hcn⟩ := KRow.form hr; have hcq := HNQ.out cn hcn; clear hcn; have h5 := HS.out w5 (Below.trans (And.right (by assumption)) (b5.mono (Below.size (And.right (by assumption))))))
          | fail)
      rename_i hh
      have HH2 := Lib.hid hh.2
      clear hh
      have RB6 := Lib.hid (RB.out.keep HH2.out)
      have RC6 := Lib.hid (RC.out.keep HH2.out)
      have HN6 := Lib.hid (KRow.keep HN.out HH2.out)
      have HR6 := Lib.hid (KRow.keep HR.out HH2.out)
      have KB6 := Lib.hid (KB.out.trans (HH2.out.mono KB.out.size))
      have k0 := RC6.out.cell 0
      have k1 := RC6.out.cell 1
      by_cases cz : z = 0
      · subst cz
        have HF := Lib.hid (HD5L.out rfl)
        clear HD4L HD5L
        go_wp2_with (first
          | (go_at_call 30; go_must (refine (CX.out _ _ _ (KRow.name HN6.out) (KRow.arg Si.rnC_size HR6.out)).mono ?_; rintro e w8 ⟨rfl, hb⟩; have RB8 := Lib.hid (RB6.out.keep hb); have RC8 := Lib.hid (RC6.out.keep hb); have HN8 := Lib.hid (KRow.keep HN6.out hb); have HR8 := Lib.hid (KRow.keep HR6.out hb); have KB8 := Lib.hid (KB6.out.trans (hb.mono KB6.out.size)); have q0 : w8.cell? ⟨w1.heap.size + 1, 0, none⟩ = some (.slice nA nn nc) := RC8.out.cell 0; have q1 : w8.cell? ⟨w1.heap.size + 1, 1, none⟩ = some (.slice rA rn rc) := RC8.out.cell 1; clear hb CX k0 k1))
          | ((with_reducible refine wpList_store_kp RB8.out #[.slice nA nn nc, .slice rA rn rc] (.tmp 2) _ 25 rfl rfl rfl rfl (by kernel_rfl) rfl rfl ?_); intro wz rz bz)
          | fail)
        have z0 : wz.cell? ⟨w.heap.size, 0, none⟩ = some (.slice nA nn nc) := rz.cell 0
        have z1 : wz.cell? ⟨w.heap.size, 1, none⟩ = some (.slice rA rn rc) := rz.cell 1
        refine bodyPost_ret (v := .tuple #[.agg #[.slice nA nn nc, .slice rA rn rc], .int .i64 0]) (by simp [results, Tryz.results12, go_sem, z0, z1]) rfl ?_
        rw [HF.out]
        exact ⟨_, _, rfl, KRow.mono (KRow.kp HN8.out bz (fun g hg hm => by simp at hm; have := (KRow.lt HN8.out g hg).1; omega)) (Nat.le_succ _), KRow.mono (KRow.kp HR8.out bz (fun g hg hm => by simp at hm; have := (KRow.lt HR8.out g hg).1; have := HLW.out; omega)) (by have := HLW.out; omega), KB8.out.trans (bz.below (B := w.heap.size) (by simp) KB8.out.size)⟩
      · have cz' : (z != 0) = true := by simp; omega
        have HBAD := Lib.hid (HD4L.out cz)
        clear HD4L HD5L
        go_wp2_with (first
          | (go_at_call 30; go_must (refine (CX.out _ _ _ (KRow.name HN6.out) (KRow.arg Si.rnC_size HR6.out)).mono ?_; rintro e w8 ⟨rfl, hb⟩; have RB8 := Lib.hid (RB6.out.keep hb); have KB8 := Lib.hid (KB6.out.trans (hb.mono KB6.out.size)); clear hb CX k0 k1))
          | ((with_reducible refine wpList_store_at (B := w.heap.size) RB8.out (Nat.le_refl _) #[.slice none 0 0, .slice none 0 0] (.tmp 2) _ 25 rfl rfl rfl rfl (by kernel_rfl) rfl rfl ?_); intro wz rz bz)
          | fail)
        have z0 : wz.cell? ⟨w.heap.size, 0, none⟩ = some (.slice none 0 0) := rz.cell 0
        have z1 : wz.cell? ⟨w.heap.size, 1, none⟩ = some (.slice none 0 0) := rz.cell 1
        refine bodyPost_ret (v := .tuple #[.agg #[.slice none 0 0, .slice none 0 0], .int .i64 z]) (by simp [results, Tryz.results12, go_sem, z0, z1]) rfl ?_
        exact DcR.bad HBAD.out (KB8.out.trans bz)

end Go.Proofs.YtillcmddbjhepaaGreatDoor
