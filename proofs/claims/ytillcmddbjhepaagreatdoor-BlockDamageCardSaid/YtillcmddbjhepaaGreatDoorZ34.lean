/-
  The specification's Bytes, end.
  The specification's end, readBlock.
-/
import Derived.Test.YtillcmddbjhepaaGreatDoorZ33
import Derived.Test.YtillcmddbjhepaaGreatDoorZ28
import Derived.Test.YtillcmddbjhepaaGreatDoorZ17
import Derived.StillTailTactics
namespace Go.Proofs.YtillcmddbjhepaaGreatDoor
open Go Go.RowKit Go.Joins
open Go.BigFrame
set_option linter.unusedVariables false
set_option linter.unusedSimpArgs false

abbrev EnArg (w : World) (v : Value) (l : List En) : Prop := KArg enC 3 w v l
theorem enCell {E : List En} {A : Option Addr} {c : Nat} {w w' : World} (hT : EnArg w (.slice A E.length c) E) (hb : Below w.heap.size w w') (j : Nat) (hj : j < E.length) : ∃ g o, A = some ⟨g, o, none⟩ ∧ g < w.heap.size ∧ w'.cell? ⟨g, o + j * 3, none⟩ = some (.int .i64 E[j].1) ∧ w'.cell? ⟨g, o + j * 3 + 1, none⟩ = some (.int .i64 E[j].2.1) ∧ w'.cell? ⟨g, o + j * 3 + 2, none⟩ = some (.int .i64 E[j].2.2) := by
  obtain ⟨A', c', e, q⟩ := hT
  simp only [Value.slice.injEq] at e
  obtain ⟨rfl, _, _⟩ := e
  obtain ⟨g, o, e, hg, h⟩ := q (by omega)
  exact ⟨g, o, e, hg, (hb.cell (p := ⟨g, o + j * 3, none⟩) hg).trans (h j hj 0 (by omega)), (hb.cell (p := ⟨g, o + j * 3 + 1, none⟩) hg).trans (h j hj 1 (by omega)), (hb.cell (p := ⟨g, o + j * 3 + 2, none⟩) hg).trans (h j hj 2 (by omega))⟩

set_option maxRecDepth 100000 in
set_option maxHeartbeats 2000000 in
theorem rBytes_any (E : List En) (vN vB : Value) (R T b k : Nat) (s : ByteArray) (w : World) (hB : EnArg w vB E) (hk : k < E.length) (hl : E.length ≤ 16384) (hok : ∀ x ∈ E, okE x) (hb : b + szE E ≤ s.size) (hs : s.size ≤ 140737488351232) :
    Calls Tryz.prog 75 #[.agg #[vN, .int .i64 R, .int .i64 T, vB, .int .i64 b], .string s, .int .i64 k] w fun e w' => ∃ u : ByteArray, e = .returned (.string u) ∧ u.data.toList = bkB E (s.data.toList.drop b) k E[k].2.1 ∧ Below w.heap.size w w' := by
  obtain ⟨A, c, rfl⟩ := KArg.form hB
  have RB := Lib.hid (RowAt.new w 46 #[vN, .int .i64 R, .int .i64 T, .slice A E.length c, .int .i64 b])
  have KB := Lib.hid (ba w (.cells #[vN, .int .i64 R, .int .i64 T, .slice A E.length c, .int .i64 b] 46))
  have HT := Lib.hid hB
  have HST := Lib.hid (fun i (hi : i < E.length) => szE_take E i hi)
  have HLE := Lib.hid (fun i => szE_le E i)
  have HOK := Lib.hid (fun i (hi : i < E.length) => (hok _ (List.getElem_mem hi)).2.1)
  have hki : (k : Int) < E.length := by omega
  have hkl : (E.length : Int) ≤ 16384 := by omega
  have HBD := Lib.hid hb
  have hsi : (s.size : Int) ≤ 140737488351232 := by omega
  have HKK := Lib.hid (show szE (E.take k) + E[k].2.1 ≤ szE E by have h1 := szE_take E k hk; have h2 := szE_le E (k + 1); omega)
  clear hB hok hb
  go_enter Tryz.func75, Tryz.ntmps75
  have r4 : (w.alloc (.cells #[vN, .int .i64 R, .int .i64 T, .slice A E.length c, .int .i64 b] 46)).cell? ⟨w.heap.size, 4, none⟩ = some (.int .i64 b) := RB.out.cell 4
  go_wp2
  go_loopw [7, 8] (fun a i wr => ∃ j M : Nat, j ≤ k ∧ M ≤ 140737488351232 ∧ a = .int .i64 M ∧ i = .int .i64 j ∧ Hid (M = b + szE (E.take j)) ∧ Hid (RowAt wr w.heap.size 46 #[vN, .int .i64 R, .int .i64 T, .slice A E.length c, .int .i64 b]) ∧ Hid (Below w.heap.size w wr)) (fun _ i _ => k - (intOf i).toNat)
  case atStart => exact ⟨0, b, Nat.zero_le _, by have := HBD.out; omega, rfl, rfl, Lib.hid (by simp [szE]), RB, KB⟩
  case round =>
    clear RB KB r4
    obtain ⟨j, M, hj, hM, rfl, rfl, HM, RB, KB⟩ := hrel
    have j3 : wr.cell? ⟨w.heap.size, 3, none⟩ = some (.slice A E.length c) := RB.out.cell 3
    by_cases hlt : j < k
    · obtain ⟨g, o, rfl, hg, f0, f1, f2⟩ := enCell HT.out KB.out j (by omega)
      have hji : (j : Int) < k := by omega
      have hjE : (j : Int) < E.length := by omega
      have hz := HOK.out j (by omega)
      have HS := Lib.hid (HST.out j (by omega))
      have HS2 := Lib.hid (HLE.out (j + 1))
      have HLT := Lib.hid hlt
      clear f0 f2
      generalize hze : E[j].2.1 = z at *
      have HZE := Lib.hid hze
      clear hze hlt
      have hMz : (M : Int) + (z : Int) ≤ 140737488351232 := by have := HM.out; have := HS.out; have := HS2.out; have := HBD.out; omega
      go_wp2
      go_roundw
      case rel => exact ⟨j + 1, M + z, by have := HLT.out; omega, by omega, val_int (by omega), val_int (by omega), Lib.hid (by rw [HS.out, HM.out]; omega), RB, KB⟩
      case measure => simp [intOf]; have := HLT.out; omega
    · obtain rfl : j = k := by omega
      obtain ⟨g, o, rfl, hg, f0, f1, f2⟩ := enCell HT.out KB.out j (by omega)
      have hji : ¬ (j : Int) < (j : Int) := by omega
      have hz := HOK.out j (by omega)
      have HK2 := HKK
      have HU := Lib.hid (fun (z : Nat) (hz : E[j].2.1 = z) => show (s.extract M (M + z)).data.toList = bkB E (s.data.toList.drop b) j z by
        unfold bkB
        rw [ext_list, HM.out, List.drop_drop, List.take_drop])
      clear f0 f2 HKK
      obtain ⟨z, hze⟩ : ∃ z, E[j].2.1 = z := ⟨_, rfl⟩
      rw [hze] at f1 HK2 hz
      have HZE := Lib.hid hze
      have HU2 := Lib.hid (HU.out z hze)
      clear hze HU
      have hMz : (M : Int) + (z : Int) ≤ (s.size : Int) := by have := HM.out; have := HK2.out; have := HBD.out; omega
      have hM0 : (M : Int) ≤ (M : Int) + (z : Int) := by omega
      have hMn : ((M : Int) + (z : Int)).toNat = M + z := by omega
      go_wp2
      go_returns
      exact ⟨_, rfl, by rw [HZE.out]; exact HU2.out, KB.out⟩

end Go.Proofs.YtillcmddbjhepaaGreatDoor

namespace Go.Proofs.YtillcmddbjhepaaGreatDoor
open Go Go.RowKit Go.Joins
open Go.BigFrame
set_option linter.unusedVariables false
set_option linter.unusedSimpArgs false

set_option maxRecDepth 100000 in
set_option maxHeartbeats 2000000 in
theorem rend_any (E : List En) (vN vB : Value) (R T b k : Nat) (w : World) (hB : EnArg w vB E) (hk : k < E.length) (hl : E.length ≤ 16384) :
    Calls Tryz.prog 77 #[.agg #[vN, .int .i64 R, .int .i64 T, vB, .int .i64 b], .int .i64 k] w fun e w' => e = .returned (.int .i64 (eT E T k)) ∧ Below w.heap.size w w' := by
  obtain ⟨A, c, rfl⟩ := KArg.form hB
  have RB := Lib.hid (RowAt.new w 46 #[vN, .int .i64 R, .int .i64 T, .slice A E.length c, .int .i64 b])
  have KB := Lib.hid (ba w (.cells #[vN, .int .i64 R, .int .i64 T, .slice A E.length c, .int .i64 b] 46))
  have r3 : (w.alloc (.cells #[vN, .int .i64 R, .int .i64 T, .slice A E.length c, .int .i64 b] 46)).cell? ⟨w.heap.size, 3, none⟩ = some (.slice A E.length c) := RB.out.cell 3
  have r2 : (w.alloc (.cells #[vN, .int .i64 R, .int .i64 T, .slice A E.length c, .int .i64 b] 46)).cell? ⟨w.heap.size, 2, none⟩ = some (.int .i64 T) := RB.out.cell 2
  have hki : (k : Int) < E.length := by omega
  have hkl : (E.length : Int) ≤ 16384 := by omega
  by_cases h1 : k + 1 < E.length
  · obtain ⟨g, o, rfl, hg, f0, f1, f2⟩ := enCell hB KB.out (k + 1) h1
    have HV := Lib.hid (show E[k + 1].1 = eT E T k by unfold eT; rw [dif_pos h1])
    have h1i : (k : Int) + 1 < E.length := by omega
    have hm1 : ((k : Int) + 1).toNat = k + 1 := by omega
    clear f1 f2 hB
    generalize E[k + 1].1 = z at *
    clear h1
    go_enter Tryz.func77, Tryz.ntmps77
    go_wp2
    go_returns
    exact ⟨by rw [← HV.out]; rfl, KB.out⟩
  · have HV := Lib.hid (show T = eT E T k by unfold eT; rw [dif_neg h1])
    have h1i : ¬ (k : Int) + 1 < E.length := by omega
    clear hB h1
    go_enter Tryz.func77, Tryz.ntmps77
    go_wp2
    go_returns
    exact ⟨by rw [← HV.out]; rfl, KB.out⟩

set_option maxRecDepth 100000 in
set_option maxHeartbeats 4000000 in
theorem rreadBlock_any (E : List En) (nA : Option Addr) (vB : Value) (ch nc R T b k : Nat) (s : ByteArray) (w : World) (hB : EnArg w vB E) (hk : k < E.length) (hl : E.length ≤ 16384) (hok : ∀ x ∈ E, okE x) (hb : b + szE E ≤ s.size) (hs : s.size ≤ 140737488351232) (hc : ch ≤ 16) (hR : R ≤ 262144) (hbk : E.length = bkN R) (hfe : E[k].1 ≤ eT E T k) (hT : eT E T k ≤ 1099511627776) :
    Calls Tryz.prog 41 #[.agg #[.slice nA ch nc, .int .i64 R, .int .i64 T, vB, .int .i64 b], .string s, .int .i64 k] w (BkR (rBk (bkB E (s.data.toList.drop b) k E[k].2.1) (2 ^ ch - 1) (szN R k) E[k].2.2 (eT E T k - E[k].1)) w) := by
  obtain ⟨S, hS⟩ : ∃ S, bkB E (s.data.toList.drop b) k E[k].2.1 = S := ⟨_, rfl⟩
  have hSl : S.length ≤ 140737488351232 := by
    rw [← hS]; unfold bkB; rw [List.length_take, List.length_drop, List.length_drop, ← size_len]; omega
  obtain ⟨A, c, rfl⟩ := KArg.form hB
  obtain ⟨g, o, rfl, hg, f0, f1, f2⟩ := enCell hB (Below.refl _ w) k hk
  have RB := Lib.hid (RowAt.new w 46 #[.slice nA ch nc, .int .i64 R, .int .i64 T, .slice (some ⟨g, o, none⟩) E.length c, .int .i64 b])
  have KB := Lib.hid (ba w (.cells #[.slice nA ch nc, .int .i64 R, .int .i64 T, .slice (some ⟨g, o, none⟩) E.length c, .int .i64 b] 46))
  have CB := Lib.hid (fun W (hW : Below w.heap.size w W) => rBytes_any E (.slice nA ch nc) (.slice (some ⟨g, o, none⟩) E.length c) R T b k s W (hB.keep hW) hk hl hok hb hs)
  have CE := Lib.hid (fun W (hW : Below w.heap.size w W) => rend_any E (.slice nA ch nc) (.slice (some ⟨g, o, none⟩) E.length c) R T b k W (hB.keep hW) hk hl)
  have CS := Lib.hid (fun W => rsize_any R k W (by omega) (by have := szN_at (n := R) (k := k) (by omega); omega))
  have G0 := Lib.hid f0
  have G2 := Lib.hid f2
  have HG := Lib.hid hg
  rw [hS] at CB ⊢
  have CK := Lib.hid (fun (u : ByteArray) (hu : u.data.toList = S) W => show Calls Tryz.prog 37 #[.string u] W fun e w' => e = .returned (.int .i64 (ck S)) ∧ Below W.heap.size W w' by
    rw [← hu]; exact rchecksum_any u W (by rw [size_len, hu]; exact hSl))
  have CT := Lib.hid (fun (u : ByteArray) (hu : u.data.toList = S) (a m : Nat) (hm : m ≤ 9223372036854775807) W => show Calls Tryz.prog 76 #[.string u, .int .i64 a, .int .i64 m] W fun e w' => e = .returned (r3 (rN S a m)) ∧ Below W.heap.size W w' by
    rw [← hu]; exact rtakeNumber_any u a m W (by rw [size_len, hu]; omega) hm)
  obtain ⟨n, hn⟩ : ∃ n, szN R k = n := ⟨_, rfl⟩
  have hn16 : n ≤ 16 := by rw [← hn]; exact szN_le _ _
  rw [hn] at CS ⊢
  obtain ⟨F, hF⟩ : ∃ F, E[k].1 = F := ⟨_, rfl⟩
  obtain ⟨Z, hZ⟩ : ∃ Z, E[k].2.2 = Z := ⟨_, rfl⟩
  obtain ⟨ET, hET⟩ : ∃ ET, eT E T k = ET := ⟨_, rfl⟩
  rw [hF] at hfe G0 ⊢
  rw [hET] at hfe hT CE ⊢
  rw [hZ] at G2 ⊢
  have HFE := Lib.hid (show F ≤ ET ∧ ET ≤ 1099511627776 from ⟨hfe, hT⟩)
  have HSL := Lib.hid hSl
  have hki : (k : Int) < E.length := by omega
  have hkl : (E.length : Int) ≤ 16384 := by omega
  obtain ⟨M, hM⟩ : ∃ M, 2 ^ ch - 1 = M := ⟨_, rfl⟩
  have hp16 : 2 ^ ch ≤ 2 ^ 16 := Nat.pow_le_pow_right (by omega) hc
  have hp1 : 1 ≤ 2 ^ ch := Nat.two_pow_pos ch
  have HMB := Lib.hid (show M ≤ 65535 by omega)
  have HSH := Lib.hid (show ((2 : Int) ^ ch) = (M : Int) + 1 by
    have : ((2 ^ ch : Nat) : Int) = (M : Int) + 1 := by omega
    rw [← this]; simp)
  rw [hM]
  clear hS hSl hB f0 f1 f2 hg hn hF hZ hET hM hp16 hp1 hfe hT hok hb hbk
  obtain ⟨C, hC⟩ : ∃ C, ck S = C := ⟨_, rfl⟩
  rw [hC] at CK
  go_enter Tryz.func41, Tryz.ntmps41
  go_wp2_with (first
    | (go_at_call 75; go_must (refine (CB.out _ KB.out).mono ?_; rintro e w1 ⟨u, rfl, hu, hb1⟩; have HU := Lib.hid hu; replace RB := Lib.hid (RB.out.keep hb1); replace KB := Lib.hid (KB.out.trans (hb1.mono KB.out.size)); clear hb1 CB hu))
    | fail)
  have HS := Lib.hid (fun W (hb : Below w1.heap.size w1 W) => show W.cell? ⟨w.heap.size, 3, none⟩ = some (.slice (some ⟨g, o, none⟩) E.length c) ∧ W.cell? ⟨g, o + k * 3 + 2, none⟩ = some (.int .i64 Z) ∧ Below w1.heap.size w1 W from ⟨(RB.out.keep hb).cell 3, (hb.cell (p := ⟨g, o + k * 3 + 2, none⟩) (Nat.lt_of_lt_of_le HG.out KB.out.size)).trans ((KB.out.cell (p := ⟨g, o + k * 3 + 2, none⟩) HG.out).trans G2.out), hb⟩)
  have HS0 := Lib.hid (HS.out _ (Below.refl _ _).drew)
  have CK1 := Lib.hid (fun W => CK.out u HU.out W)
  have CT1 := Lib.hid (fun (a m : Nat) (hm : m ≤ 9223372036854775807) W => CT.out u HU.out a m hm W)
  have HUS := Lib.hid (show u.size = S.length by rw [size_len, HU.out])
  clear CK CT HU
  by_cases hcc : C = Z
  case neg =>
    have HN := Lib.hid (rBk_ck (m := M) (n := n) (d := ET - F) (show ¬ ck S = Z by rw [hC]; exact hcc))
    have hc' : ((C : Int) != (Z : Int)) = true := by simp; omega
    clear hC hcc CT1 CE CS HSH HMB
    go_region_held3 (fun W => W.cell? ⟨w.heap.size, 3, none⟩ = some (.slice (some ⟨g, o, none⟩) E.length c) ∧ W.cell? ⟨g, o + k * 3 + 2, none⟩ = some (.int .i64 Z) ∧ Below w1.heap.size w1 W) (first | exact HS0.out | assumption | go_keep)
      (first
        | (go_at_call 37; refine (CK1.out _).mono ?_; rintro x w3 ⟨rfl, b3⟩; have h3 := HS.out w3 (Below.trans (And.right (And.right (by assumption))) (b3.mono (Below.size (And.right (And.right (by assumption)))))))
        | fail)
    all_goals
      rename_i hh
      have HH := Lib.hid hh.2.2
      go_wp2
      go_returns
      exact BkR.no HN.out (KB.out.trans (HH.out.mono KB.out.size))
  have HCK := Lib.hid (show ck S = Z by rw [hC]; exact hcc)
  have hc' : ((C : Int) != (Z : Int)) = false := by simp; omega
  clear hC hcc
  go_region_held3 (fun W => W.cell? ⟨w.heap.size, 3, none⟩ = some (.slice (some ⟨g, o, none⟩) E.length c) ∧ W.cell? ⟨g, o + k * 3 + 2, none⟩ = some (.int .i64 Z) ∧ Below w1.heap.size w1 W) (first | exact HS0.out | assumption | go_keep)
    (first
      | (go_at_call 37; refine (CK1.out _).mono ?_; rintro x w3 ⟨rfl, b3⟩; have h3 := HS.out w3 (Below.trans (And.right (And.right (by assumption))) (b3.mono (Below.size (And.right (And.right (by assumption)))))))
      | fail)
  rename_i hh
  rename_i w3 _
  have HH := Lib.hid hh.2.2
  clear hh HS HS0 CK1
  replace RB := Lib.hid (RB.out.keep HH.out)
  replace KB := Lib.hid (KB.out.trans (HH.out.mono KB.out.size))
  clear HH
  go_wp2
  have RB1 := Lib.hid (RB.out.alloc (.cells #[] 54))
  have KB1 := Lib.hid (KB.out.alloc KB.out.size (.cells #[] 54))
  go_loopw [9, 10, 11, 12] (fun v a' sm i wr => ∃ (X : List Si.Rn) (a Sm : Nat), X.length ≤ n ∧ a' = .int .i64 a ∧ sm = .int .i64 Sm ∧ i = .int .i64 X.length ∧ Sm ≤ X.length * 1099511627776 ∧ a ≤ 140737488351232 ∧ Hid (a ≤ S.length) ∧ Hid (Si.lg X = Sm) ∧ Hid (aB X (rB S M (n - X.length) a) = rB S M n 0) ∧ Hid (Si.RnRow wr (w.heap.size + 1) v X) ∧ Hid (RowAt wr w.heap.size 46 #[.slice nA ch nc, .int .i64 R, .int .i64 T, .slice (some ⟨g, o, none⟩) E.length c, .int .i64 b]) ∧ Hid (Below w.heap.size w wr)) (fun _ _ _ i _ => n - (intOf i).toNat)
  case atStart => exact ⟨[], 0, 0, Nat.zero_le _, rfl, rfl, rfl, Nat.zero_le _, Nat.zero_le _, Lib.hid (Nat.zero_le _), Lib.hid rfl, Lib.hid (aB_nil _), Lib.hid (KRow.lit Si.rnC_size _ _ RB.out.lt [] #[] rfl 0 rfl (by simp)), RB1, KB1⟩
  case round =>
    clear RB KB RB1 KB1
    obtain ⟨X, a, Sm, hX, rfl, rfl, rfl, hS, ha, HAL, HLG, HA, HR, RB, KB⟩ := hrel
    have j0 : wr.cell? ⟨w.heap.size, 0, none⟩ = some (.slice nA ch nc) := RB.out.cell 0
    have j1 : wr.cell? ⟨w.heap.size, 1, none⟩ = some (.int .i64 R) := RB.out.cell 1
    obtain ⟨xA, xn, xc, rfl, hxn⟩ := KRow.form HR.out
    clear hxn
    by_cases hlt : X.length < n
    · obtain ⟨m, hm⟩ : ∃ m, n - X.length = m + 1 := ⟨n - X.length - 1, by omega⟩
      have HM := Lib.hid hm
      rw [hm] at HA
      have hki2 : (X.length : Int) < n := by omega
      have hsh := HSH.out
      have hw1 : IntKind.i64.wrap ((M : Int) + 1) = (M : Int) + 1 := IntWalk.i64_in _ (by have := HMB.out; omega)
      have hw2 : IntKind.i64.wrap ((M : Int) + 1 - 1) = (M : Int) := by rw [Int.add_sub_cancel]; exact IntWalk.i64_in _ (by have := HMB.out; omega)
      have hw3 : IntKind.i64.wrap (M : Int) = (M : Int) := IntWalk.i64_in _ (by have := HMB.out; omega)
      clear hm
      have CA := Lib.hid (fun W => CT1.out a M (by have := HMB.out; omega) W)
      have HY1 := Lib.hid (fun (h : r1k S M a) => rB_yes (n := m) h X)
      have HY2 := Lib.hid (fun (h : ¬ r1k S M a) => rB_no (n := m) h X)
      unfold r1k at HY1 HY2
      have HNX := Lib.hid (rN_next S (rN S a M).2.1 1099511627776 (rN_next S a M HAL.out))
      have HNY := Lib.hid (rN_next S a M HAL.out)
      have HV2 := Lib.hid (rN_le S (rN S a M).2.1 1099511627776).1
      have CB2 := Lib.hid (fun W => show Calls Tryz.prog 76 #[.string u, .int .i64 ((rN S a M).2.1 : Nat), .int .i64 1099511627776] W fun e w' => e = .returned (r3 (rN S (rN S a M).2.1 1099511627776)) ∧ Below W.heap.size W w' from CT1.out (rN S a M).2.1 1099511627776 (by decide) W)
      generalize hp2 : rN S (rN S a M).2.1 1099511627776 = p2 at *
      generalize hp1 : rN S a M = p1 at *
      obtain ⟨v1, a1, e1⟩ := p1
      obtain ⟨v2, a2, e2⟩ := p2
      simp only at CA CB2 HY1 HY2 HNX HNY HV2
      unfold r3 at CA CB2
      simp only at CA CB2
      clear hp1 hp2 CT1
      by_cases c1 : e1 = 0
      case neg =>
        have c1' : ((e1 : Int) != 0) = true := by simp; omega
        have HN := Lib.hid (rBk_none (c := Z) (d := ET - F) (HA.out.symm.trans (HY2.out (fun h => c1 h.1))))
        clear HA HY1 HY2 c1
        go_wp2_with (first
          | (go_at_call 34; go_must (refine (CS.out _).mono ?_; rintro e4 w4 ⟨rfl, rfl⟩))
          | (go_at_call 76; go_must ((with_reducible refine (CA.out _).mono ?_); rintro e5 w5 ⟨rfl, b5⟩; have KB5 := Lib.hid (KB.out.trans (b5.mono KB.out.size)); clear b5))
          | fail)
        go_returns
        exact BkR.no HN.out KB5.out
      subst c1
      by_cases c2 : e2 = 0
      case neg =>
        have c2' : ((e2 : Int) != 0) = true := by simp; omega
        have HN := Lib.hid (rBk_none (c := Z) (d := ET - F) (HA.out.symm.trans (HY2.out (fun h => c2 h.2.1))))
        clear HA HY1 HY2 c2
        go_wp2_with (first
          | (go_at_call 34; go_must (refine (CS.out _).mono ?_; rintro e4 w4 ⟨rfl, rfl⟩))
          | (go_at_call 76; go_must (first
            | (have tok := T5.out; (with_reducible refine (CB2.out _).mono ?_); rintro e6 w6 ⟨rfl, b6⟩; have KB6 := Lib.hid (KB5.out.trans (b6.mono KB5.out.size)); clear b6)
            | ((with_reducible refine (CA.out _).mono ?_); rintro e5 w5 ⟨rfl, b5⟩; have T5 := Lib.hid trivial; have KB5 := Lib.hid (KB.out.trans (b5.mono KB.out.size)); clear b5 CA)))
          | fail)
        go_returns
        exact BkR.no HN.out KB6.out
      subst c2
      by_cases c3 : v2 = 0
      · have c3' : ((v2 : Int) == 0) = true := by simp; omega
        have HN := Lib.hid (rBk_none (c := Z) (d := ET - F) (HA.out.symm.trans (HY2.out (fun h => h.2.2 c3))))
        clear HA HY1 HY2 c3
        go_wp2_with (first
          | (go_at_call 34; go_must (refine (CS.out _).mono ?_; rintro e4 w4 ⟨rfl, rfl⟩))
          | (go_at_call 76; go_must (first
            | (have tok := T5.out; (with_reducible refine (CB2.out _).mono ?_); rintro e6 w6 ⟨rfl, b6⟩; have KB6 := Lib.hid (KB5.out.trans (b6.mono KB5.out.size)); clear b6)
            | ((with_reducible refine (CA.out _).mono ?_); rintro e5 w5 ⟨rfl, b5⟩; have T5 := Lib.hid trivial; have KB5 := Lib.hid (KB.out.trans (b5.mono KB.out.size)); clear b5 CA)))
          | fail)
        go_returns
        exact BkR.no HN.out KB6.out
      · have c3' : ((v2 : Int) == 0) = false := by simp; omega
        have HA7 := Lib.hid ((HY1.out ⟨rfl, rfl, c3⟩).symm.trans HA.out)
        have hSb : Sm + v2 ≤ 16 * 1099511627776 + 1099511627776 := by have := HV2.out; omega
        have hvb : v2 ≤ 1099511627776 := HV2.out
        have hkn : (X.length : Int) < 16 := by omega
        have HXL := Lib.hid hlt
        have HL7 := Lib.hid (show Si.lg (X ++ [((v1 : Int), (v2 : Int))]) = ((Sm + v2 : Nat) : Int) by
          rw [Si.lg_append, Si.lg_one, HLG.out]; simp)
        clear HA HY1 HY2 c3 hlt
        go_wp2_with (first
          | (go_at_call 34; go_must (refine (CS.out _).mono ?_; rintro e4 w4 ⟨rfl, rfl⟩))
          | (go_at_call 76; go_must (first
            | (have tok := T5.out; (with_reducible refine (CB2.out _).mono ?_); rintro e6 w6 ⟨rfl, b6⟩; have RB6 := Lib.hid (RB5.out.keep b6); have HR6 := Lib.hid (KRow.keep HR5.out b6); have KB6 := Lib.hid (KB5.out.trans (b6.mono KB5.out.size)); clear b6)
            | ((with_reducible refine (CA.out _).mono ?_); rintro e5 w5 ⟨rfl, b5⟩; have T5 := Lib.hid trivial; have RB5 := Lib.hid (RB.out.keep b5); have HR5 := Lib.hid (KRow.keep HR.out b5); have KB5 := Lib.hid (KB.out.trans (b5.mono KB.out.size)); clear b5 CA)))
          | (at_builtin; go_must ((with_reducible refine Si.wpList_append_rn rfl (.tmp 68) (.tmp 72) rfl rfl rfl rfl rfl HR6.out (Nat.succ_le_of_lt RB6.out.lt) (by have := HXL.out; omega) ?_); intro v7 w7 r7 b7))
          | fail)
        go_roundw
        case rel =>
          have hlen : (X ++ [((v1 : Int), (v2 : Int))]).length = X.length + 1 := by simp
          have hm2 : n - (X.length + 1) = m := by have := HM.out; omega
          refine ⟨X ++ [((v1 : Int), (v2 : Int))], a2, Sm + v2, by rw [hlen]; have := HXL.out; omega, rfl, val_int (by omega), val_int (by rw [hlen]; omega), by rw [hlen]; omega, by have := HNX.out; have := HSL.out; omega, Lib.hid HNX.out, HL7, ?_, Lib.hid r7, Lib.hid (RB6.out.below b7 (Nat.lt_succ_self _)), Lib.hid (KB6.out.trans (b7.mono (Nat.le_succ _)))⟩
          rw [hlen, hm2]; exact HA7
        case measure => simp [intOf]; have := HXL.out; omega
    · have hn0 : n - X.length = 0 := by omega
      have hXn : X.length = n := by omega
      have hlti : ¬ (X.length : Int) < n := by omega
      rw [hn0] at HA
      have HB2 := Lib.hid (show rB S M n 0 = some (X, a) by rw [← HA.out, rB_0])
      have HBK := Lib.hid (rBk_some (d := ET - F) HCK.out HB2.out)
      have hSi : (Sm : Int) ≤ 16 * 1099511627776 := by omega
      clear hXn hn0 HA HB2 CT1
      by_cases hal : a = u.size
      · have hal' : ((a : Int) != (u.size : Int)) = false := by simp; omega
        have HAU := Lib.hid hal
        have HS3 := Lib.hid (fun W (hb : Below wr.heap.size wr W) => show W.cell? ⟨w.heap.size, 0, none⟩ = some (.slice nA ch nc) ∧ W.cell? ⟨w.heap.size, 1, none⟩ = some (.int .i64 R) ∧ W.cell? ⟨w.heap.size, 2, none⟩ = some (.int .i64 T) ∧ W.cell? ⟨w.heap.size, 3, none⟩ = some (.slice (some ⟨g, o, none⟩) E.length c) ∧ W.cell? ⟨w.heap.size, 4, none⟩ = some (.int .i64 b) ∧ W.cell? ⟨g, o + k * 3, none⟩ = some (.int .i64 F) ∧ Below wr.heap.size wr W from
          ⟨(RB.out.keep hb).cell 0, (RB.out.keep hb).cell 1, (RB.out.keep hb).cell 2, (RB.out.keep hb).cell 3, (RB.out.keep hb).cell 4, (hb.cell (p := ⟨g, o + k * 3, none⟩) (Nat.lt_of_lt_of_le HG.out KB.out.size)).trans ((KB.out.cell (p := ⟨g, o + k * 3, none⟩) HG.out).trans G0.out), hb⟩)
        have HS30 := Lib.hid (HS3.out _ (Below.refl _ _).drew)
        have HB3 := Lib.hid (fun W (h : W.cell? ⟨w.heap.size, 0, none⟩ = some (.slice nA ch nc) ∧ W.cell? ⟨w.heap.size, 1, none⟩ = some (.int .i64 R) ∧ W.cell? ⟨w.heap.size, 2, none⟩ = some (.int .i64 T) ∧ W.cell? ⟨w.heap.size, 3, none⟩ = some (.slice (some ⟨g, o, none⟩) E.length c) ∧ W.cell? ⟨w.heap.size, 4, none⟩ = some (.int .i64 b) ∧ W.cell? ⟨g, o + k * 3, none⟩ = some (.int .i64 F) ∧ Below wr.heap.size wr W) => h.2.2.2.2.2.2)
        have CE3 := Lib.hid (fun W (hb : Below wr.heap.size wr W) => CE.out W (KB.out.trans (hb.mono KB.out.size)))
        have hfi : (F : Int) ≤ ET := by have := HFE.out.1; omega
        have hei : (ET : Int) ≤ 1099511627776 := by have := HFE.out.2; omega
        obtain ⟨DD, hDD⟩ : ∃ DD : Nat, ET - F = DD := ⟨_, rfl⟩
        have hwD : IntKind.i64.wrap ((ET : Int) - (F : Int)) = (DD : Int) := by rw [show (ET : Int) - (F : Int) = (DD : Int) by omega]; exact IntWalk.i64_in _ (by omega)
        have HDD := Lib.hid hDD
        clear hDD
        by_cases hSd : Sm = ET - F
        · have hSd' : ((Sm : Int) != (DD : Int)) = false := by have := HDD.out; simp; omega
          have HN := Lib.hid (show rBk S M n Z (ET - F) = some X by
            rw [HBK.out, if_pos ⟨by have := HAU.out; have := HUS.out; omega, by have := HLG.out; omega⟩])
          clear hSd HBK hal CE
          go_wp2_with (first
            | (go_at_call 34; go_must (refine (CS.out _).mono ?_; rintro e4 w4 ⟨rfl, rfl⟩))
            | fail)
          go_region_held3 (fun W => W.cell? ⟨w.heap.size, 0, none⟩ = some (.slice nA ch nc) ∧ W.cell? ⟨w.heap.size, 1, none⟩ = some (.int .i64 R) ∧ W.cell? ⟨w.heap.size, 2, none⟩ = some (.int .i64 T) ∧ W.cell? ⟨w.heap.size, 3, none⟩ = some (.slice (some ⟨g, o, none⟩) E.length c) ∧ W.cell? ⟨w.heap.size, 4, none⟩ = some (.int .i64 b) ∧ W.cell? ⟨g, o + k * 3, none⟩ = some (.int .i64 F) ∧ Below wr.heap.size wr W) (first | exact HS30.out | assumption | go_keep)
            (first
              | (go_at_call 77; refine (CE3.out _ (HB3.out _ (by assumption))).mono ?_; rintro x w5 ⟨rfl, b5⟩; have h5 := HS3.out w5 ((HB3.out _ (by assumption)).trans (b5.mono (HB3.out _ (by assumption)).size)))
              | fail)
          all_goals
            rename_i hh
            have HH := Lib.hid (HB3.out _ hh)
            clear hh
            go_wp2
            go_returns
            rw [HN.out]
            exact ⟨_, 0, rfl, ⟨_, _, _, rfl⟩, rfl, KRow.mono (KRow.keep HR.out HH.out) (Nat.le_succ _), KB.out.trans (HH.out.mono KB.out.size)⟩
        · have hSd' : ((Sm : Int) != (DD : Int)) = true := by have := HDD.out; simp; omega
          have HN := Lib.hid (show rBk S M n Z (ET - F) = none by
            rw [HBK.out, if_neg (fun h => hSd (by have := h.2; have := HLG.out; omega))])
          clear hSd HBK hal CE
          go_wp2_with (first
            | (go_at_call 34; go_must (refine (CS.out _).mono ?_; rintro e4 w4 ⟨rfl, rfl⟩))
            | fail)
          go_region_held3 (fun W => W.cell? ⟨w.heap.size, 0, none⟩ = some (.slice nA ch nc) ∧ W.cell? ⟨w.heap.size, 1, none⟩ = some (.int .i64 R) ∧ W.cell? ⟨w.heap.size, 2, none⟩ = some (.int .i64 T) ∧ W.cell? ⟨w.heap.size, 3, none⟩ = some (.slice (some ⟨g, o, none⟩) E.length c) ∧ W.cell? ⟨w.heap.size, 4, none⟩ = some (.int .i64 b) ∧ W.cell? ⟨g, o + k * 3, none⟩ = some (.int .i64 F) ∧ Below wr.heap.size wr W) (first | exact HS30.out | assumption | go_keep)
            (first
              | (go_at_call 77; refine (CE3.out _ (HB3.out _ (by assumption))).mono ?_; rintro x w5 ⟨rfl, b5⟩; have h5 := HS3.out w5 ((HB3.out _ (by assumption)).trans (b5.mono (HB3.out _ (by assumption)).size)))
              | fail)
          all_goals
            rename_i hh
            have HH := Lib.hid (HB3.out _ hh)
            clear hh
            go_wp2
            go_returns
            exact BkR.no HN.out (KB.out.trans (HH.out.mono KB.out.size))
      · have hal' : ((a : Int) != (u.size : Int)) = true := by simp; omega
        have HN := Lib.hid (show rBk S M n Z (ET - F) = none by
          rw [HBK.out, if_neg (fun h => hal (by have := h.1; have := HUS.out; omega))])
        clear HBK hal CE
        go_wp2_with (first
          | (go_at_call 34; go_must (refine (CS.out _).mono ?_; rintro e4 w4 ⟨rfl, rfl⟩))
          | fail)
        go_big_quiet (fail)
        go_wp2
        go_returns
        exact BkR.no HN.out (Go.below_drewN KB.out _)

end Go.Proofs.YtillcmddbjhepaaGreatDoor
