/-
  putNumber, the specification's number, text, blocks, size.
  The specification's Encode.
  putHead.
  The specification's takeNumber and takeFour; checkStart.
  The specification's takeFour.
-/
import Derived.Test.YtillcmddbjhepaaGreatDoorZ22
import Derived.Test.YtillcmddbjhepaaGreatDoorZ08
import Derived.Test.YtillcmddbjhepaaGreatDoorZ15
import Derived.Test.YtillcmddbjhepaaGreatDoorZ12
import Derived.Test.YtillcmddbjhepaaGreatDoorZ17
import Derived.Test.YtillcmddbjhepaaGreatDoorZ11
import Derived.Test.YtillcmddbjhepaaGreatDoorZ09
import Derived.BigQuiet
namespace Go.Proofs.YtillcmddbjhepaaGreatDoor
open Go Go.RowKit Go.Joins
set_option linter.unusedVariables false
set_option linter.unusedSimpArgs false

set_option maxRecDepth 20000 in
set_option maxHeartbeats 2000000 in
theorem putNumber_any (B g n c : Nat) (l : List UInt8) (k : Nat) (w : World) (ho : Sb.Own w B g n c l) (hB : B ≤ w.heap.size) (hk : k ≤ 9223372036854775807) (hl : n ≤ 70368744177664) :
    Calls Tryz.prog 57 #[.slice (some ⟨g, 0, none⟩) n c, .int .i64 k] w fun e w' => ∃ g' n' c', e = .returned (.slice (some ⟨g', 0, none⟩) n' c') ∧ Sb.Own w' B g' n' c' (l ++ Sb.put k) ∧ Below B w w' ∧ (∀ k, k < w.heap.size → k ≠ g → w'.heap[k]? = w.heap[k]?) := by
  have HP := Lib.hid (Sb.putu_any none 0 0 [] k w (Sb.Rd.nil _ _ _) rfl (Nat.le_refl _) (fun _ => rfl) (by omega) (by omega))
  have HO := Lib.hid ho
  have H10 := Lib.hid (Sb.put_ten (n := k) (by omega))
  have hk2 : (k : Int) ≤ 9223372036854775807 := by omega
  clear ho
  go_enter Tryz.func57, Tryz.ntmps57
  go_wp2_with (first
    | (go_at_call 55; go_must (refine HP.out.mono ?_; rintro e w1 ⟨g1, n1, c1, rfl, o1, b1⟩; have hn1 := o1.len))
    | (at_builtin; go_must (refine Sb.wpList_append_rd2 rfl (.tmp 5) (.tmp 8) rfl rfl _ _ _ _ rfl (HO.out.below b1 HO.out.lt.2) o1.rd hn1.symm (fun h => by cases h) (Nat.le_trans hB b1.size) (by have := H10.out; simp only [List.nil_append] at hn1; omega) ?_; intro g2 c2 w2 o2 b2 k2)))
  go_returns
  exact ⟨_, _, _, rfl, o2, (b1.mono hB).trans b2, fun k hk hne => (k2 k (Nat.lt_of_lt_of_le hk b1.size) hne).trans (b1.block k hk)⟩

theorem rnumber_any (k : Nat) (w : World) (hk : k ≤ 9223372036854775807) :
    Calls Tryz.prog 35 #[.int .i64 k] w fun e w' => e = .returned (.string ⟨(Sb.put k).toArray⟩) ∧ Below w.heap.size w w' := by
  have HP := Lib.hid (fun (w : World) (A : Option Addr) hr hnil => Sb.rputu_any A 0 0 [] k w hr rfl (Nat.le_refl _) hnil (by omega) (by omega))
  have hk2 : (k : Int) ≤ 9223372036854775807 := by omega
  go_enter Tryz.func35, Tryz.ntmps35
  go_wp2_with (first
    | (go_at_call 63; go_must (refine (HP.out _ _ (Sb.Rd.nil _ _ _) (fun _ => rfl)).mono ?_; rintro e w1 ⟨g1, n1, c1, rfl, o1, b1⟩; have kc := Sb.conv_rd o1.rd n1 c1 o1.len.symm w1 (fun _ _ => rfl)))
    | fail)
  go_returns
  exact ⟨rfl, (ba w _).trans (b1.mono (by rw [World.size_alloc]; omega))⟩

theorem rtext_any (s : ByteArray) (w : World) (hs : s.size ≤ 140737488351232) :
    Calls Tryz.prog 32 #[.string s] w fun e w' => e = .returned (.string ⟨(Sb.put s.size ++ s.data.toList).toArray⟩) ∧ Below w.heap.size w w' := by
  have HP := Lib.hid (fun (w : World) (A : Option Addr) hr hnil => Sb.rputt_any A 0 0 [] s w hr rfl (Nat.le_refl _) hnil (by omega))
  go_enter Tryz.func32, Tryz.ntmps32
  go_wp2_with (first
    | (go_at_call 62; go_must (refine (HP.out _ _ (Sb.Rd.nil _ _ _) (fun _ => rfl)).mono ?_; rintro e w1 ⟨g1, n1, c1, rfl, o1, b1⟩; have kc := Sb.conv_rd o1.rd n1 c1 o1.len.symm w1 (fun _ _ => rfl)))
    | fail)
  go_returns
  exact ⟨rfl, (ba w _).trans (b1.mono (by rw [World.size_alloc]; omega))⟩

theorem rblocks_any (n : Nat) (w : World) (hn : n ≤ 1099511627776) : Calls Tryz.prog 33 #[.int .i64 n] w fun e w' => e = .returned (.int .i64 (bkN n : Nat)) ∧ w = w' := by
  have h1 : (n : Int) + 16 ≤ 9223372036854775807 := by omega
  have h2 : IntKind.i64.wrap ((n : Int) + 16 - 1) = ((n + 15 : Nat) : Int) := by rw [show (n : Int) + 16 - 1 = ((n + 15 : Nat) : Int) by omega]; exact IntWalk.i64_in _ (by omega)
  go_enter Tryz.func33, Tryz.ntmps33
  go_wp2
  go_returns
  refine ⟨?_, rfl⟩
  unfold bkN
  first | rfl | (congr 2; omega)
theorem rsize_any (n k : Nat) (w : World) (hn : n ≤ 1099511627776) (hk : 16 * k ≤ n) : Calls Tryz.prog 34 #[.int .i64 n, .int .i64 k] w fun e w' => e = .returned (.int .i64 (szN n k : Nat)) ∧ w = w' := by
  have h1 : (k : Int) * 16 ≤ n := by omega
  have h2 : (n : Int) ≤ 1099511627776 := by omega
  have h3 : (k : Int) ≤ 1099511627776 := by omega
  obtain ⟨d, hd⟩ : ∃ d : Nat, n - 16 * k = d := ⟨_, rfl⟩
  have h4 : IntKind.i64.wrap ((k : Int) * 16) = (k : Int) * 16 := IntWalk.i64_in _ (by omega)
  have h5 : (n : Int) - (k : Int) * 16 = d := by omega
  have h6 : IntKind.i64.wrap (d : Int) = d := IntWalk.i64_in _ (by omega)
  unfold szN
  rw [hd]
  clear hd
  by_cases hlt : d < 16
  · have h7 : (d : Int) < 16 := by omega
    rw [Nat.min_eq_left (by omega)]
    go_enter Tryz.func34, Tryz.ntmps34
    go_wp2
    go_returns
    exact ⟨rfl, rfl⟩
  · have h7 : ¬ (d : Int) < 16 := by omega
    rw [Nat.min_eq_right (by omega)]
    go_enter Tryz.func34, Tryz.ntmps34
    go_wp2
    go_returns
    exact ⟨rfl, rfl⟩

end Go.Proofs.YtillcmddbjhepaaGreatDoor

namespace Go.Proofs.YtillcmddbjhepaaGreatDoor
open Go Go.RowKit Go.Joins
open Si (Rn RnRow RnArg NmArg NmRow lg ckC jn szs)
set_option linter.unusedVariables false
set_option linter.unusedSimpArgs false

/-- number, text, four and Checksum, their strings by a letter. -/
theorem numZ (t : Nat) (w : World) (h : t ≤ 9223372036854775807) : Calls Tryz.prog 35 #[.int .i64 t] w fun e w' => ∃ Z : ByteArray, e = .returned (.string Z) ∧ Hid (Z.data.toList = Sb.put t) ∧ Z.size ≤ 10 ∧ Below w.heap.size w w' :=
  (rnumber_any t w h).mono fun e w' ⟨h1, h2⟩ => ⟨_, h1, toList_mk _, by rw [size_mk]; exact Sb.put_ten (by omega), h2⟩
theorem textZ (s : ByteArray) (w : World) (h : s.size ≤ 140737488351232) : Calls Tryz.prog 32 #[.string s] w fun e w' => ∃ Z : ByteArray, e = .returned (.string Z) ∧ Hid (Z.data.toList = nm1 s) ∧ Z.size ≤ s.size + 10 ∧ Below w.heap.size w w' :=
  (rtext_any s w h).mono fun e w' ⟨h1, h2⟩ => ⟨_, h1, toList_mk _, by rw [size_mk, List.length_append, ← size_len]; have := Sb.put_ten (n := s.size) (by omega); omega, h2⟩
theorem fourZ (t : Nat) (w : World) (h : t < 4294967296) : Calls Tryz.prog 36 #[.int .i64 t] w fun e w' => ∃ Z : ByteArray, e = .returned (.string Z) ∧ Hid (Z.data.toList = four t) ∧ Z.size = 4 ∧ Below w.heap.size w w' :=
  (rfour_any t w h).mono fun e w' ⟨h1, h2⟩ => ⟨_, h1, toList_mk _, rfl, h2⟩

def encS (N : List ByteArray) (R : List Rn) : List UInt8 := if ckC N R = 0 then enc N (jn R) else []

set_option maxRecDepth 100000 in
set_option maxHeartbeats 16000000 in
theorem rencode_any (N : List ByteArray) (R : List Rn) (vN vR : Value) (w : World) (hN : NmArg w vN N) (hs : szs N) (hR : RnArg w vR R) (hn : R.length ≤ 1099511627776) :
    Calls Tryz.prog 10 #[.agg #[vN, vR]] w fun e w' => ∃ S : ByteArray, e = .returned (.tuple #[.string S, .int .i64 (ckC N R)]) ∧ S.data.toList = encS N R ∧ Below w.heap.size w w' := by
  have CC := Lib.hid (fun w' (hb : Below w.heap.size w w') => Si.rcheck_any N R vN vR w' (hN.keep hb) hs (hR.keep hb) hn)
  have CL := Lib.hid (fun h w' (hb : Below w.heap.size w w') => rclean10_any (Si.mk N.length) R vR w' (hR.keep hb) hn (Si.ckC_ok h).2.2.2.2.2)
  obtain ⟨A1, c1, rfl, hc1, hA1⟩ := hN.form
  obtain ⟨A2, c2, rfl⟩ := hR.form
  have HA1 := Lib.hid hA1
  have B0 := Lib.hid (ba w (.cells #[.slice A1 N.length c1, .slice A2 R.length c2] 25))
  have P0 := Lib.hid (RowAt.new w 25 #[.slice A1 N.length c1, .slice A2 R.length c2])
  clear hN hR hA1
  by_cases hz : ckC N R = 0
  case neg =>
    have hz' : (ckC N R != 0) = true := by simpa using hz
    have HE := Lib.hid (show encS N R = [] by unfold encS; rw [if_neg hz])
    clear CL hs HA1
    generalize ckC N R = c at *
    generalize N.length = n at *
    generalize R.length = r at *
    go_enter Tryz.func10, Tryz.ntmps10
    go_wp2_with (first
      | (go_at_call 30; go_must (refine (CC.out _ B0.out).mono ?_; rintro e1 w1 ⟨rfl, b1⟩))
      | fail)
    go_returns
    exact ⟨_, rfl, HE.out.symm, B0.out.trans (b1.mono B0.out.size)⟩
  obtain ⟨hl1, hN0, hN1, hN2, hN3, hv⟩ := Si.ckC_ok hz
  have HE := Lib.hid (show encS N R = enc N (jn R) by unfold encS; rw [if_pos hz])
  have HNS := Lib.hid (fun j (hj : j < N.length) => show N[j].size ≤ 16 by rw [size_len]; exact Si.nm_le (Si.all_at hN3 j hj))
  have HL := Lib.hid (CL.out hz)
  have hjn := Si.jn_vr hv
  have hJl : (jn R).length ≤ 262144 := Nat.le_trans (Si.jn_len R) hl1
  have HV := Lib.hid hjn
  rw [hz] at CC ⊢
  clear CL hs hjn hv hN3 hN0 hz
  have HE2 := HE.out
  clear HE
  generalize jn R = L at *
  generalize R.length = r at *
  have HX := Lib.hid HE2
  clear HE2
  have hn16 : (N.length : Int) ≤ 16 := by omega
  go_enter Tryz.func10, Tryz.ntmps10
  go_wp2_with (first
    | (go_at_call 30; go_must (refine (CC.out _ B0.out).mono ?_; rintro e1 w1 ⟨rfl, b1⟩; have B1 := Lib.hid (B0.out.trans (b1.mono B0.out.size)); have P1 := Lib.hid (P0.out.keep b1); have g0 := P1.out.cell 0; have g1 := P1.out.cell 1; clear b1))
    | (go_at_call 31; go_must (refine (HL.out _ B1.out).mono ?_; rintro e2 w2 ⟨v2, rfl, r2, b2⟩; obtain ⟨A3, m3, c3, rfl, rfl⟩ := KRow.form r2; have R2 := Lib.hid (KRow.arg Si.rnC_size r2); have B2 := Lib.hid (B1.out.trans (b2.mono B1.out.size)); have P2 := Lib.hid (P1.out.keep b2); clear b2 r2 g0 g1))
    | fail)
  clear HL CC B0 P0 B1 P1
  go_loopw [7, 6] (fun i x wr => ∃ (j : Nat) (s : ByteArray), j ≤ N.length ∧ i = .int .i64 j ∧ x = .string s ∧ Hid (s.data.toList = nms (N.take j)) ∧ s.size ≤ 26 * j ∧ Hid (Below w2.heap.size w2 wr)) (fun i _ _ => N.length - (intOf i).toNat)
  case atStart => exact ⟨0, ⟨#[]⟩, Nat.zero_le _, rfl, rfl, Lib.hid rfl, Nat.zero_le _, Lib.hid (Below.refl _ _)⟩
  case round =>
    obtain ⟨j, s, hj, rfl, rfl, HS, hsz, HB⟩ := hrel
    have PB := Lib.hid (P2.out.keep HB.out)
    have g0 := PB.out.cell 0
    have g1 := PB.out.cell 1
    by_cases hjl : j < N.length
    · obtain ⟨g, o, rfl, hg, hc⟩ := HA1.out (by omega)
      have f0 := ((B2.out.trans (HB.out.mono B2.out.size)).cell (p := ⟨g, o + j, none⟩) hg).trans (hc j hjl)
      have TZ := Lib.hid (fun w => textZ N[j] w (by have := HNS.out j hjl; omega))
      have hNs := HNS.out j hjl
      have HT := Lib.hid (nms_take N j hjl)
      clear hc
      generalize N[j] = nj at *
      have hi1 : (j : Int) < N.length := by omega
      go_wp2_with (first
        | (go_at_call 32; go_must (refine (TZ.out _).mono ?_; rintro e3 w3 ⟨Z, rfl, hZ, hZs, b3⟩; have hX1 : decide (9223372036854775807 < s.size + Z.size) = false := decide_eq_false (by omega)))
        | fail)
      go_roundw
      case rel => exact ⟨j + 1, s ++ Z, by omega, val_int (by omega), rfl, Lib.hid (by rw [app_list, HS.out, hZ.out, HT.out]), by rw [app_size]; omega, Lib.hid (HB.out.trans (b3.mono HB.out.size))⟩
      case measure => simp [intOf]; omega
    · have he : N.take j = N := List.take_of_length_le (by omega)
      rw [he] at HS
      have hsz2 : s.size ≤ 416 := by omega
      have hji : ¬ (j : Int) < N.length := by omega
      clear he hsz HA1 HNS
      go_wp2
      clear g0 g1 hji
      have hLi : (L.length : Int) ≤ 262144 := by omega
      obtain ⟨nb, hnb⟩ : ∃ nb, bkN L.length = nb := ⟨_, rfl⟩
      have hnb1 : 16 * nb ≤ L.length + 15 := by rw [← hnb]; unfold bkN; omega
      have BK := Lib.hid (fun w => rblocks_any L.length w (by omega))
      rw [hnb] at BK
      have HNB := Lib.hid hnb
      clear hnb
      go_loopw [11, 8, 9, 10] (fun i x y t wr' => ∃ (k a : Nat) (e b : ByteArray), k ≤ nb ∧ i = .int .i64 k ∧ x = .string e ∧ y = .string b ∧ t = .int .i64 a ∧ Hid (e.data.toList = ents L k) ∧ Hid (b.data.toList = bdy L k) ∧ Hid ((a : Int) = lg (L.take (16 * k))) ∧ e.size ≤ 24 * k ∧ b.size ≤ 320 * k ∧ a ≤ 1099511627776 ∧ Hid (Below w2.heap.size w2 wr')) (fun i _ _ _ _ => nb - (intOf i).toNat)
      case atStart => exact ⟨0, 0, ⟨#[]⟩, ⟨#[]⟩, Nat.zero_le _, rfl, rfl, rfl, rfl, Lib.hid rfl, Lib.hid rfl, Lib.hid rfl, Nat.zero_le _, Nat.zero_le _, Nat.zero_le _, HB⟩
      case round =>
        clear HB PB
        obtain ⟨k, a, e, b, hk, rfl, rfl, rfl, rfl, HEn, HBd, HA, hes, hbs, ha, HB⟩ := hrel
        by_cases hkn : k < nb
        · have hsz0 := szN_at (n := L.length) (k := k) (by rw [HNB.out]; exact hkn)
          have SZ := Lib.hid (fun w => rsize_any L.length k w (by omega) (by omega))
          obtain ⟨z, hz⟩ : ∃ z, szN L.length k = z := ⟨_, rfl⟩
          have hz16 := szN_le L.length k
          rw [hz] at SZ hsz0 hz16
          have HZ := Lib.hid hz
          clear hz
          obtain ⟨h16, hz0, hzn⟩ := hsz0
          obtain ⟨s0, hs0⟩ : ∃ s0, 16 * k = s0 := ⟨_, rfl⟩
          have v0 : (k : Int) * 16 = (s0 : Int) := by omega
          have v1 : (s0 : Int) ≤ 262144 := by omega
          have v2 : IntKind.i64.wrap (s0 : Int) = s0 := IntWalk.i64_in _ (by omega)
          obtain ⟨s1, hs1⟩ : ∃ s1, s0 + z = s1 := ⟨_, rfl⟩
          have v3 : (s0 : Int) + (z : Int) = (s1 : Int) := by omega
          have v4 : IntKind.i64.wrap (s1 : Int) = s1 := IntWalk.i64_in _ (by omega)
          have HA0 := HA
          have HS0 := Lib.hid hs0
          have hs1L : s1 ≤ L.length := by omega
          rw [hs0] at HA
          clear hs0 h16 hzn
          go_wp2_with (first
            | (go_at_call 33; go_must (refine (BK.out _).mono ?_; rintro e4 w4 ⟨rfl, rfl⟩))
            | fail)
          go_loopw [14, 12, 10] (fun i x t wi => ∃ (q p d : Nat) (c : ByteArray), q ≤ z ∧ Hid (p = s0 + q) ∧ i = .int .i64 p ∧ x = .string c ∧ t = .int .i64 d ∧ Hid (c.data.toList = bb (prtB L k q)) ∧ c.size ≤ 20 * q ∧ Hid ((d : Int) = lg (L.take p)) ∧ d ≤ 1099511627776 ∧ Hid (Below w2.heap.size w2 wi)) (fun i _ _ _ => s1 - (intOf i).toNat)
          case atStart => exact ⟨0, s0, a, ⟨#[]⟩, Nat.zero_le _, Lib.hid rfl, rfl, rfl, rfl, Lib.hid rfl, Nat.zero_le _, HA, ha, HB⟩
          case round =>
            clear HB HA
            obtain ⟨q, p, d, c, hq, HPQ, rfl, rfl, rfl, HC, hcs, HD, hd, HB⟩ := hrel
            have hp := HPQ.out
            by_cases hqz : q < z
            · have hpL : p < L.length := by omega
              obtain ⟨_, _, e1, q1⟩ := R2.out
              obtain ⟨g, o, rfl, hg, hc⟩ := q1 (by omega)
              simp only [Value.slice.injEq, true_and, and_true] at e1
              obtain ⟨rfl, rfl⟩ := e1
              obtain ⟨a0, a1⟩ := Si.arg_two hc p hpL
              have f0 := (HB.out.cell (p := ⟨g, o + p * 2, none⟩) hg).trans a0
              have f1 := (HB.out.cell (p := ⟨g, o + p * 2 + 1, none⟩) hg).trans a1
              have hx := Si.el_range HV.out p hpL
              have hmk : Si.mk N.length ≤ 65535 := by
                have : 2 ^ N.length ≤ 2 ^ 16 := Nat.pow_le_pow_right (by omega) hN2
                rw [Si.mk_nat]; omega
              have HBB := Lib.hid (prtB_succ L k q (by have := HS0.out; omega))
              have hpe : 16 * k + q = p := by have := HS0.out; omega
              have HLT := Lib.hid (Si.lg_take L p hpL)
              have hrng := Si.lg_take_range HV.out (p + 1)
              rw [show L[16 * k + q]'(by omega) = L[p] by congr 1] at HBB
              obtain ⟨x0, hx0⟩ : ∃ x0 : Nat, L[p].1 = x0 := ⟨L[p].1.toNat, by omega⟩
              obtain ⟨x1, hx1⟩ : ∃ x1 : Nat, L[p].2 = x1 := ⟨L[p].2.toNat, by omega⟩
              have HRB := Lib.hid (show rb L[p] = Sb.put x0 ++ Sb.put x1 by unfold rb; rw [hx0, hx1]; rfl)
              rw [HLT.out] at hrng
              rw [hx0] at f0 hx
              rw [hx1] at f1 hx hrng HLT
              have hdx : d + x1 ≤ 1099511627776 := by have := HD.out; omega
              have hx0m : x0 ≤ 9223372036854775807 := by omega
              have hx1m : x1 ≤ 9223372036854775807 := by omega
              clear hc q1 a0 a1 hx hx0 hx1 hmk hrng hpe R2
              have hpi : (p : Int) < L.length := by omega
              have hps : (p : Int) < s1 := by omega
              clear hp
              have HF := Lib.hid (fun W (h : Below wr.heap.size wr W) => And.intro ((h.cell (p := ⟨g, o + p * 2, none⟩) (Nat.lt_of_lt_of_le hg HB.out.size)).trans f0) (And.intro ((h.cell (p := ⟨g, o + p * 2 + 1, none⟩) (Nat.lt_of_lt_of_le hg HB.out.size)).trans f1) h))
              have hF0 := Lib.hid (HF.out wr.drew (Below.refl _ _).drew)
              have NZ0 := Lib.hid (fun w => numZ x0 w hx0m)
              have NZ1 := Lib.hid (fun w => numZ x1 w hx1m)
              go_wp2_with (first
                | (go_at_call 34; go_must (refine (SZ.out _).mono ?_; rintro e5 w5 ⟨rfl, rfl⟩))
                | fail)
              go_region_held3 (fun w' => w'.cell? ⟨g, o + p * 2, none⟩ = some (.int .i64 x0) ∧ w'.cell? ⟨g, o + p * 2 + 1, none⟩ = some (.int .i64 x1) ∧ Below wr.heap.size wr w') (first | exact hF0.out | assumption | go_keep)
                (first
                  | (go_at_call_of 35 (Value.int IntKind.i64 (x0 : Int)); refine (NZ0.out _).mono ?_; rintro e6 w6 ⟨Z0, rfl, hZ0, hZs0, b6⟩; have hY0 : decide (9223372036854775807 < c.size + Z0.size) = false := decide_eq_false (by omega); have hX0 : ¬ 9223372036854775807 < c.size + Z0.size := (by omega); have h6 := HF.out w6 (Below.trans (And.right (And.right (by assumption))) (b6.mono (Below.size (And.right (And.right (by assumption)))))); first | (have hY1 : decide (9223372036854775807 < c.size + Z0.size + Z1.size) = false := decide_eq_false (by omega); have hX1 : ¬ 9223372036854775807 < c.size + Z0.size + Z1.size := (by omega)) | skip)
                  | (go_at_call_of 35 (Value.int IntKind.i64 (x1 : Int)); refine (NZ1.out _).mono ?_; rintro e7 w7 ⟨Z1, rfl, hZ1, hZs1, b7⟩; have h7 := HF.out w7 (Below.trans (And.right (And.right (by assumption))) (b7.mono (Below.size (And.right (And.right (by assumption)))))); first | (have hY1 : decide (9223372036854775807 < c.size + Z0.size + Z1.size) = false := decide_eq_false (by omega); have hX1 : ¬ 9223372036854775807 < c.size + Z0.size + Z1.size := (by omega)) | skip))
              all_goals (rename_i hh; obtain ⟨f0', f1', hBw⟩ := hh)
              all_goals
                have v5 : IntKind.i64.wrap ((d : Int) + (x1 : Int)) = ((d + x1 : Nat) : Int) := by rw [show (d : Int) + (x1 : Int) = ((d + x1 : Nat) : Int) by omega]; exact IntWalk.i64_in _ (by omega)
                clear f0 f1
                go_wp2
                go_roundw
                case rel => exact ⟨q + 1, p + 1, d + x1, c ++ Z0 ++ Z1, by omega, Lib.hid (by have := HPQ.out; omega), val_int (by omega), rfl, by first | rfl | exact val_int (by omega), Lib.hid (by rw [app_list, app_list, HC.out, hZ0.out, hZ1.out, HBB.out, HRB.out, List.append_assoc]), by rw [app_size, app_size]; omega, Lib.hid (by have := HD.out; have := HLT.out; omega), hdx, Lib.hid (HB.out.trans (hBw.mono HB.out.size))⟩
                case measure => simp [intOf]; omega
            · have hqz2 : q = z := by omega
              subst hqz2
              have hps : ¬ (p : Int) < s1 := by omega
              have hp1 : p = s1 := by omega
              have HCB := Lib.hid (show c.data.toList = bb (blk L k) by rw [HC.out, ← HZ.out, prtB_all])
              have HEN := Lib.hid (show ent L k = Sb.put a ++ Sb.put c.size ++ four (ck c.data.toList) by
                unfold ent; rw [HCB.out, ← HA0.out, Int.toNat_natCast, size_len, HCB.out])
              have HTN := Lib.hid (show (d : Int) = lg (L.take (16 * (k + 1))) by rw [HD.out, hp, ← HS0.out, ← HZ.out, take_next L k (by rw [HNB.out]; exact hkn)])
              have hck := ck_lt c.data.toList
              have NA := Lib.hid (fun w => numZ a w (by omega))
              have NC := Lib.hid (fun w => numZ c.size w (by omega))
              have CKS := Lib.hid (fun w => rchecksum_any c w (by omega))
              have CF := Lib.hid (fun w => fourZ (ck c.data.toList) w hck)
              clear hck hp HPQ
              go_wp2_with (first
                | (go_at_call 34; go_must (refine (SZ.out _).mono ?_; rintro e5 w5 ⟨rfl, rfl⟩))
                | (go_at_call_of 35 (Value.int IntKind.i64 (a : Int)); go_must (refine (NA.out _).mono ?_; rintro e6 w6 ⟨Z0, rfl, hZ0, hZs0, b6⟩; have hY0 : decide (9223372036854775807 < e.size + Z0.size) = false := decide_eq_false (by omega)))
                | (go_at_call_of 35 (Value.int IntKind.i64 (c.size : Int)); go_must (refine (NC.out _).mono ?_; rintro e7 w7 ⟨Z1, rfl, hZ1, hZs1, b7⟩; have hY1 : decide (9223372036854775807 < e.size + Z0.size + Z1.size) = false := decide_eq_false (by omega)))
                | (go_at_call 37; go_must (refine (CKS.out _).mono ?_; rintro e8 w8 ⟨rfl, b8⟩))
                | (go_at_call 36; go_must (refine (CF.out _).mono ?_; rintro e9 w9 ⟨Z2, rfl, hZ2, hZs2, b9⟩; have hY2 : decide (9223372036854775807 < e.size + Z0.size + Z1.size + Z2.size) = false := decide_eq_false (by omega); have hY3 : decide (9223372036854775807 < b.size + c.size) = false := decide_eq_false (by omega)))
                | fail)
              go_roundw
              case rel => exact ⟨k + 1, d, e ++ Z0 ++ Z1 ++ Z2, b ++ c, by omega, val_int (by omega), rfl, rfl, rfl, Lib.hid (by rw [app_list, app_list, app_list, HEn.out, hZ0.out, hZ1.out, hZ2.out, ents_succ, HEN.out]; simp only [List.append_assoc]), Lib.hid (by rw [app_list, HBd.out, HCB.out, bdy_succ]), HTN, by rw [app_size, app_size, app_size]; omega, by rw [app_size]; omega, hd, Lib.hid ((((HB.out.trans (b6.mono HB.out.size)).trans (b7.mono (Nat.le_trans HB.out.size b6.size))).trans (b8.mono (Nat.le_trans (Nat.le_trans HB.out.size b6.size) b7.size))).trans (b9.mono (Nat.le_trans (Nat.le_trans (Nat.le_trans HB.out.size b6.size) b7.size) b8.size)))⟩
              case measure => simp [intOf]; omega
        · have hkb : k = nb := by omega
          subst hkb
          have hki : ¬ (k : Int) < k := by omega
          have htk : L.take (16 * k) = L := List.take_of_length_le (by have := HNB.out; unfold bkN at this; omega)
          rw [htk] at HA
          have PB := Lib.hid (P2.out.keep HB.out)
          have g0 := PB.out.cell 0
          have HHD := Lib.hid (show hdF N L = [83, 66, 1] ++ Sb.put N.length ++ nms N ++ Sb.put L.length ++ Sb.put a ++ Sb.put k ++ ents L k by
            unfold hdF; rw [HNB.out, ← HA.out, Int.toNat_natCast])
          have HEC := Lib.hid (show encS N R = hdF N L ++ four (ck (hdF N L)) ++ bdy L k by rw [HX.out]; unfold enc; rw [HNB.out])
          have NN := Lib.hid (fun w => numZ N.length w (by omega))
          have NL := Lib.hid (fun w => numZ L.length w (by omega))
          have NA := Lib.hid (fun w => numZ a w (by omega))
          have NK := Lib.hid (fun w => numZ k w (by omega))
          have CKS := Lib.hid (fun c w h => rchecksum_any c w h)
          have CF := Lib.hid (fun t w h => fourZ t w h)
          have hsz3 : (⟨#[83, 66, 1]⟩ : ByteArray).size = 3 := rfl
          clear htk
          go_wp2_with (first
            | (go_at_call 33; go_must (refine (BK.out _).mono ?_; rintro e4 w4 ⟨rfl, rfl⟩))
            | (go_at_call_of 35 (Value.int IntKind.i64 (N.length : Int)); go_must (refine (NN.out _).mono ?_; rintro e5 w5 ⟨Z0, rfl, hZ0, hZs0, b5⟩; have hY0 : decide (9223372036854775807 < 3 + Z0.size) = false := decide_eq_false (by omega); have hY1 : decide (9223372036854775807 < 3 + Z0.size + s.size) = false := decide_eq_false (by omega)))
            | (go_at_call_of 35 (Value.int IntKind.i64 (L.length : Int)); go_must (refine (NL.out _).mono ?_; rintro e6 w6 ⟨Z1, rfl, hZ1, hZs1, b6⟩; have hY2 : decide (9223372036854775807 < 3 + Z0.size + s.size + Z1.size) = false := decide_eq_false (by omega)))
            | (go_at_call_of 35 (Value.int IntKind.i64 (a : Int)); go_must (refine (NA.out _).mono ?_; rintro e7 w7 ⟨Z2, rfl, hZ2, hZs2, b7⟩; have hY3 : decide (9223372036854775807 < 3 + Z0.size + s.size + Z1.size + Z2.size) = false := decide_eq_false (by omega)))
            | (go_at_call_of 35 (Value.int IntKind.i64 (k : Int)); go_must (refine (NK.out _).mono ?_; rintro e8 w8 ⟨Z3, rfl, hZ3, hZs3, b8⟩; have hY4 : decide (9223372036854775807 < 3 + Z0.size + s.size + Z1.size + Z2.size + Z3.size) = false := decide_eq_false (by omega); have hY5 : decide (9223372036854775807 < 3 + Z0.size + s.size + Z1.size + Z2.size + Z3.size + e.size) = false := decide_eq_false (by omega)))
            | (go_at_call 37; go_must (refine (CKS.out _ _ (by simp only [app_size]; omega)).mono ?_; rintro e9 w9 ⟨rfl, b9⟩))
            | (go_at_call 36; go_must (refine (CF.out _ _ (ck_lt _)).mono ?_; rintro e10 w10 ⟨Z4, rfl, hZ4, hZs4, b10⟩))
            | fail)
          go_returns
          have Q4 := B2.out.trans (HB.out.mono B2.out.size)
          have Q5 := Q4.trans (b5.mono Q4.size); have Q6 := Q5.trans (b6.mono Q5.size); have Q7 := Q6.trans (b7.mono Q6.size)
          have Q8 := Q7.trans (b8.mono Q7.size); have Q9 := Q8.trans (b9.mono Q8.size); have Q10 := Q9.trans (b10.mono Q9.size)
          have HH : (⟨#[83, 66, 1]⟩ ++ Z0 ++ s ++ Z1 ++ Z2 ++ Z3 ++ e : ByteArray).data.toList = hdF N L := by
            rw [HHD.out, app_list, app_list, app_list, app_list, app_list, app_list, hZ0.out, HS.out, hZ1.out, hZ2.out, hZ3.out, HEn.out]
          refine ⟨_, rfl, ?_, Q10⟩
          have HH2 : (83 :: 66 :: 1 :: (Z0.data.toList ++ (s.data.toList ++ (Z1.data.toList ++ (Z2.data.toList ++ (Z3.data.toList ++ e.data.toList)))))) = hdF N L := by
            rw [← HH]; simp only [app_list, List.append_assoc]; rfl
          rw [app_list, app_list, hZ4.out, HH, HBd.out, HEC.out, HH2]

end Go.Proofs.YtillcmddbjhepaaGreatDoor

namespace Go.Proofs.YtillcmddbjhepaaGreatDoor
open Go Go.RowKit Go.Joins
open Si (NmArg)
set_option linter.unusedVariables false
set_option linter.unusedSimpArgs false

theorem own_keep {w w' : World} {B g n c : Nat} {l : List UInt8} (h : Sb.Own w B g n c l) (hb : Below w.heap.size w w') : Sb.Own w' B g n c l := h.below hb h.lt.2

theorem full_sign (w : World) (o : Obj) : Sb.Full ((w.alloc (.cells #[.int .u8 83, .int .u8 66] 5 (2, 3))).alloc o) (w.heap.size + 1) (.slice (some ⟨w.heap.size, 0, none⟩) 2 2) [83, 66] := by
  refine .inl ⟨some ⟨w.heap.size, 0, none⟩, rfl, (fun h => by cases h), fun _ => ⟨w.heap.size, 0, rfl, Nat.lt_succ_self _, ?_⟩⟩
  intro j hj
  have hb : ((w.alloc (.cells #[.int .u8 83, .int .u8 66] 5 (2, 3))).alloc o).cell? ⟨w.heap.size, 0 + j, none⟩ = (w.alloc (.cells #[.int .u8 83, .int .u8 66] 5 (2, 3))).cell? ⟨w.heap.size, 0 + j, none⟩ := (ba _ o).cell (by simp)
  rw [hb]
  have hj2 : j < 2 := hj
  rw [Nat.zero_add, cell_of_row (w.alloc (.cells #[.int .u8 83, .int .u8 66] 5 (2, 3))) w.heap.size j #[.int .u8 83, .int .u8 66] 5 (2, 3) (by show (w.heap.push _)[w.heap.size]? = _; simp)]
  rcases j with _ | _ | j <;> first | omega | rfl
theorem cell_ver (w : World) (o : Obj) : ((w.alloc o).alloc (.cells #[.int .u8 1] 5)).cell? ⟨w.heap.size + 1, 0, none⟩ = some (.int .u8 1) := by go_simp

theorem own_ne_row {w : World} {B g n c b : Nat} {l : List UInt8} {T : TypeId} {cs : Array Value} (h : Sb.Own w B g n c l) (hr : RowAt w b T cs) (hT : (T == 5) = false) : b ≠ g := by
  rintro rfl
  rcases h.2 with ⟨e, _⟩ | ⟨g', cap, cur, e, h1, h2, h3⟩
  · cases e
  · have e1 : b = g' := by simpa [Value.ownBlock] using congrArg Value.ownBlock e
    subst e1
    have h4 : w.heap[b]? = some (.cells cs T (0, 0)) := hr
    rw [h4] at h2
    simp only [Option.some.injEq, Obj.cells.injEq] at h2
    rw [h2.2.1] at hT
    cases hT

set_option maxRecDepth 100000 in
set_option maxHeartbeats 16000000 in
theorem putHead_any (N : List ByteArray) (n t : Nat) (l : List Pt) (vN vP : Value) (w : World) (hE : Sd.Env w) (hN : NmArg w vN N) (hN1 : N.length ≤ 16) (hN2 : ∀ j (hj : j < N.length), N[j].size ≤ 16) (hn : n ≤ 9223372036854775807) (ht : t ≤ 9223372036854775807) (hP : PtArg w vP l) (hl : l.length ≤ 65536)
    (hl2 : ∀ j (hj : j < l.length), l[j].1 ≤ 9223372036854775807 ∧ l[j].2.2.2.1 ≤ 9223372036854775807 ∧ l[j].2.2.2.2.1 < 4294967296) :
    Calls Tryz.prog 29 #[vN, .int .i64 n, .int .i64 t, vP] w fun e w' => ∃ g m c, e = .returned (.slice (some ⟨g, 0, none⟩) m c) ∧ Sb.Own w' w.heap.size g m c (hdP N n t l ++ four (ck (hdP N n t l))) ∧ Below w.heap.size w w' := by
  have kc := fun (w : World) (C : Array Value) (n c : Nat) => Lib.run_convert_bytes_const (P := Tryz.prog) w 60 5 C n c Tryz.underlying60 Tryz.underlying5
  obtain ⟨A1, c1, rfl, hc1, hA1⟩ := hN.form
  obtain ⟨A2, c2, rfl, hA2⟩ := hP
  have HA1 := Lib.hid hA1; have HA2 := Lib.hid hA2
  have HE := Lib.hid hE; have HN2 := Lib.hid hN2; have HL2 := Lib.hid hl2
  have PN := Lib.hid (fun B g n c l k w (ho : Sb.Own w B g n c l) (hB : B ≤ w.heap.size) (hk : k ≤ 9223372036854775807) (hl : n ≤ 70368744177664) => putNumber_any B g n c l k w ho hB hk hl)
  have PT := Lib.hid (fun g n c l (s : ByteArray) W (ho : Sb.Own W w.heap.size g n c l) (hW : w.heap.size ≤ W.heap.size) (hl : n + s.size ≤ 140737488351232) => (Sb.putt_any (some ⟨g, 0, none⟩) n c l s W ho.rd ho.len.symm ho.cap.1 (fun h => by cases h) hl).mono (R' := fun e w' => ∃ g' n' c', e = .returned (.slice (some ⟨g', 0, none⟩) n' c') ∧ Sb.Own w' w.heap.size g' n' c' (l ++ nm1 s) ∧ Below W.heap.size W w') fun e w' h => by
    obtain ⟨g', n', c', h1, h2, h3⟩ := h
    exact ⟨g', n', c', h1, by rw [List.append_assoc] at h2; exact h2.mono hW, h3⟩)
  have hn16 : (N.length : Int) ≤ 16 := by omega
  have hl16 : (l.length : Int) ≤ 65536 := by omega
  have hni : (n : Int) ≤ 9223372036854775807 := by omega
  have hti : (t : Int) ≤ 9223372036854775807 := by omega
  clear hN hA1 hA2 hE hN2 hl2
  go_enter Tryz.func29, Tryz.ntmps29
  have HO := Lib.hid (full_sign w)
  have HCV := Lib.hid (cell_ver w)
  have hB0 := Lib.hid (fun o o2 => ((ba w o).alloc (ba w o).size o2))
  go_wp2_with (first
    | (at_builtin; go_must (refine Sb.wpList_append_full (l := [83, 66]) rfl (.tmp 15) (.tmp 16) rfl rfl ⟨w.heap.size + 1, 0, none⟩ 1 rfl (HO.out _) (by simp) 1 1 (HCV.out _) rfl (by simp) ?_; intro g1 m1 w1 o1 b1; have O1 := Lib.hid (o1.mono (Nat.le_succ _)); have B1 := Lib.hid ((hB0.out _ _).trans (b1.mono (Nat.le_succ _))); clear o1 b1))
    | (go_at_call 57; go_must (refine (PN.out _ _ _ _ _ N.length _ O1.out B1.out.size (by omega) (by simp)).mono ?_; rintro e2 w2 ⟨g2, n2, m2, rfl, o2, b2, -⟩; have O2 := Lib.hid o2; have B2 := Lib.hid (B1.out.trans b2); clear o2 b2))
    | fail)
  clear B1 O1 HO HCV hB0 kc
  go_loopw [24, 9] (fun i v wr => ∃ (j g m c : Nat), j ≤ N.length ∧ i = .int .i64 j ∧ v = .slice (some ⟨g, 0, none⟩) m c ∧ m ≤ 13 + 26 * j ∧ Hid (Sb.Own wr w.heap.size g m c ([83, 66, 1] ++ Sb.put N.length ++ nms (N.take j))) ∧ Hid (Below w.heap.size w wr)) (fun i _ _ => N.length - (intOf i).toNat)
  case atStart => exact ⟨0, g2, n2, m2, Nat.zero_le _, rfl, rfl, by have h := O2.out.len; have := Sb.put_ten (n := N.length) (by omega); simp only [List.length_append, List.length_cons, List.length_nil] at h; omega, Lib.hid (by rw [show nms (N.take 0) = [] from rfl, List.append_nil]; exact O2.out), B2⟩
  case round =>
    clear O2 B2
    obtain ⟨j, g, m, c, hj, rfl, rfl, hm, HO, HB⟩ := hrel
    by_cases hjl : j < N.length
    · obtain ⟨ga, oa, rfl, hga, hc⟩ := HA1.out (by omega)
      have f0 := (HB.out.cell (p := ⟨ga, oa + j, none⟩) hga).trans (hc j hjl)
      have hNs := HN2.out j hjl
      have HT := Lib.hid (nms_take N j hjl)
      have PT1 := Lib.hid (PT.out g m c _ N[j] wr HO.out HB.out.size (by omega))
      have h1 := Lib.hid (show (nm1 N[j]).length ≤ 26 by unfold nm1; rw [List.length_append, ← size_len]; have := Sb.put_ten (n := N[j].size) (by omega); omega)
      clear hc
      generalize N[j] = nj at *
      have hi1 : (j : Int) < N.length := by omega
      go_wp2_with (first
        | (go_at_call 58; go_must (refine PT1.out.mono ?_; rintro e3 w3 ⟨g3, n3, c3, rfl, o3, b3⟩; have hl3 := o3.len; have hl4 := HO.out.len))
        | fail)
      go_roundw
      case rel => exact ⟨j + 1, g3, n3, c3, by omega, val_int (by omega), rfl, by have := h1.out; rw [List.length_append, hl4] at hl3; omega, Lib.hid (by rw [HT.out, ← List.append_assoc]; exact o3), Lib.hid (HB.out.trans (b3.mono HB.out.size))⟩
      case measure => simp [intOf]; omega
    · have he : N.take j = N := List.take_of_length_le (by omega)
      rw [he] at HO
      have hm2 : m ≤ 429 := by omega
      have hji : ¬ (j : Int) < N.length := by omega
      clear he hm HA1 HN2 PT
      go_wp2_with (first
        | (go_at_call_of 57 (Value.int IntKind.i64 (n : Int)); go_must (refine (PN.out _ _ _ _ _ n _ HO.out HB.out.size (by omega) (by omega)).mono ?_; rintro e4 w4 ⟨g4, n4, m4, rfl, o4, b4, -⟩; have O4 := Lib.hid o4; have B4 := Lib.hid (HB.out.trans b4); have L4 : n4 ≤ m + 10 := (by have h := o4.len; rw [List.length_append, HO.out.len] at h; have := Sb.put_ten (n := n) (by omega); omega); clear o4 b4))
        | (go_at_call_of 57 (Value.int IntKind.i64 (t : Int)); go_must (refine (PN.out _ _ _ _ _ t _ O4.out B4.out.size (by omega) (by omega)).mono ?_; rintro e5 w5 ⟨g5, n5, m5, rfl, o5, b5, -⟩; have O5 := Lib.hid o5; have B5 := Lib.hid (B4.out.trans b5); have L5 : n5 ≤ n4 + 10 := (by have h := o5.len; rw [List.length_append, O4.out.len] at h; have := Sb.put_ten (n := t) (by omega); omega); clear o5 b5))
        | (go_at_call_of 57 (Value.int IntKind.i64 (l.length : Int)); go_must (refine (PN.out _ _ _ _ _ l.length _ O5.out B5.out.size (by omega) (by omega)).mono ?_; rintro e6 w6 ⟨g6, n6, m6, rfl, o6, b6, -⟩; have O6 := Lib.hid o6; have B6 := Lib.hid (B5.out.trans b6); have L6 : n6 ≤ n5 + 10 := (by have h := o6.len; rw [List.length_append, O5.out.len] at h; have := Sb.put_ten (n := l.length) (by omega); omega); clear o6 b6))
        | fail)
      clear O4 B4 O5 B5 HO HB PN
      have HPre := Lib.hid (show hdP N n t l = [83, 66, 1] ++ Sb.put N.length ++ nms N ++ Sb.put n ++ Sb.put t ++ Sb.put l.length ++ entsP l from rfl)
      generalize [83, 66, 1] ++ Sb.put N.length ++ nms N ++ Sb.put n ++ Sb.put t ++ Sb.put l.length = pre at *
      have hn6 : n6 ≤ 459 := by omega
      have PN := Lib.hid (fun B g n c l k w (ho : Sb.Own w B g n c l) (hB : B ≤ w.heap.size) (hk : k ≤ 9223372036854775807) (hl : n ≤ 70368744177664) => putNumber_any B g n c l k w ho hB hk hl)
      go_loopw [44, 9] (fun i v wr' => ∃ (q g m c : Nat), q ≤ l.length ∧ i = .int .i64 q ∧ v = .slice (some ⟨g, 0, none⟩) m c ∧ m ≤ 459 + 24 * q ∧ Hid (Sb.Own wr' w.heap.size g m c (pre ++ entsP (l.take q))) ∧ Hid (Below w.heap.size w wr')) (fun i _ _ => l.length - (intOf i).toNat)
      case atStart => exact ⟨0, g6, n6, m6, Nat.zero_le _, rfl, rfl, by omega, Lib.hid (by rw [show entsP (l.take 0) = [] from rfl, List.append_nil]; exact O6.out), B6⟩
      case round =>
        clear O6 B6 L4 L5 L6 hn6
        obtain ⟨q, gq, mq, cq, hq, rfl, rfl, hmq, HO, HB⟩ := hrel
        by_cases hql : q < l.length
        · obtain ⟨ga, oa, rfl, hga, hc⟩ := HA2.out (by omega)
          obtain ⟨a0, a1, a2, a3, a4, a5⟩ := arg_six hc q hql
          have f0 := (HB.out.cell (p := ⟨ga, oa + q * 6, none⟩) hga).trans a0
          have f1 := (HB.out.cell (p := ⟨ga, oa + q * 6 + 1, none⟩) hga).trans a1
          have f2 := (HB.out.cell (p := ⟨ga, oa + q * 6 + 2, none⟩) hga).trans a2
          have f3 := (HB.out.cell (p := ⟨ga, oa + q * 6 + 3, none⟩) hga).trans a3
          have f4 := (HB.out.cell (p := ⟨ga, oa + q * 6 + 4, none⟩) hga).trans a4
          have f5 := (HB.out.cell (p := ⟨ga, oa + q * 6 + 5, none⟩) hga).trans a5
          obtain ⟨hk0, hk3, hk4⟩ := HL2.out q hql
          have HT := Lib.hid (entsP_take l q hql)
          have HT2 : Hid (entP l[q] = Sb.put l[q].1 ++ Sb.put l[q].2.2.2.1 ++ four l[q].2.2.2.2.1) := Lib.hid rfl
          have hqi : (q : Int) < l.length := by omega
          clear hc a0 a1 a2 a3 a4 a5
          generalize entP l[q] = eP at *
          generalize l[q].1 = p0 at *
          generalize l[q].2.1 = p1 at *
          generalize l[q].2.2.1 = p2 at *
          generalize l[q].2.2.2.1 = p3 at *
          generalize l[q].2.2.2.2.1 = p4 at *
          generalize l[q].2.2.2.2.2 = p5 at *
          have R0 := Lib.hid (RowAt.new wr 63 #[.int .i64 p0, .int .i64 p1, .int .i64 p2, .int .i64 p3, .int .i64 p4, .string p5])
          have B7 := Lib.hid (HB.out.alloc HB.out.size (.cells #[.int .i64 p0, .int .i64 p1, .int .i64 p2, .int .i64 p3, .int .i64 p4, .string p5] 63))
          have O7 := Lib.hid (HO.out.alloc (.cells #[.int .i64 p0, .int .i64 p1, .int .i64 p2, .int .i64 p3, .int .i64 p4, .string p5] 63))
          have FB := Lib.hid (fun w => fourBytes_any p4 w hk4)
          have S0 := R0.out.lt
          obtain ⟨Bx, hBx⟩ : ∃ Bx, wr.heap.size = Bx := ⟨_, rfl⟩
          have c0 := R0.out.cell 0
          have hp0 : (p0 : Int) ≤ 9223372036854775807 := by omega
          have hp3 : (p3 : Int) ≤ 9223372036854775807 := by omega
          have hL7 := HO.out.len
          rw [hBx] at R0 S0 c0
          go_wp2_with (first
            | (go_at_call_of 57 (Value.int IntKind.i64 (p0 : Int)); go_must (refine (PN.out _ _ _ _ _ p0 _ O7.out B7.out.size (by omega) (by omega)).mono ?_; rintro e8 w8 ⟨g8, n8, m8, rfl, o8, b8, k8⟩; have O8 := Lib.hid o8; have B8 := Lib.hid (B7.out.trans b8); have R8 := Lib.hid (show RowAt w8 Bx _ _ from (k8 Bx S0 (own_ne_row O7.out R0.out rfl)).trans R0.out); have L8 : n8 ≤ mq + 10 := (by have h := o8.len; rw [List.length_append, hL7] at h; have := Sb.put_ten (n := p0) (by omega); omega); have d0 := R8.out.cell 3; clear o8 b8 k8))
            | (go_at_call_of 57 (Value.int IntKind.i64 (p3 : Int)); go_must (refine (PN.out _ _ _ _ _ p3 _ O8.out B8.out.size (by omega) (by omega)).mono ?_; rintro e9 w9 ⟨g9, n9, m9, rfl, o9, b9, k9⟩; have O9 := Lib.hid o9; have B9 := Lib.hid (B8.out.trans b9); have R9 := Lib.hid (show RowAt w9 Bx _ _ from (k9 Bx R8.out.lt (own_ne_row O8.out R8.out rfl)).trans R8.out); have L9 : n9 ≤ n8 + 10 := (by have h := o9.len; rw [List.length_append, O8.out.len] at h; have := Sb.put_ten (n := p3) (by omega); omega); have d1 := R9.out.cell 4; clear o9 b9 k9))
            | (go_at_call 59; go_must (refine (FB.out _).mono ?_; rintro e10 w10 ⟨g10, n10, m10, rfl, o10, b10⟩; have O10 := Lib.hid (own_keep O9.out b10); have L10 : n10 = 4 := o10.len.symm))
            | (at_builtin; go_must (refine Sb.wpList_append_rd rfl (.tmp 56) (.tmp 59) rfl rfl _ _ _ (four p4) rfl O10.out o10.rd (by first | rfl | exact o10.len.symm) (fun h => by cases h) (Nat.le_trans B9.out.size b10.size) (by omega) ?_; intro g11 c11 w11 o11 b11))
            | fail)
          go_roundw
          case rel => exact ⟨q + 1, g11, _, c11, by omega, val_int (by omega), rfl, by omega, Lib.hid (by rw [HT.out, HT2.out]; simp only [← List.append_assoc]; exact o11), Lib.hid ((B9.out.trans (b10.mono B9.out.size)).trans b11)⟩
          case measure => simp [intOf]; omega
        · have he : l.take q = l := List.take_of_length_le (by omega)
          rw [he] at HO
          have hql2 : ¬ (q : Int) < l.length := by omega
          have hmq2 : mq ≤ 1573323 := by omega
          rw [← HPre.out] at HO
          clear he hmq HA2 HL2 PN HPre
          have hLq := HO.out.len
          obtain ⟨H, hH⟩ : ∃ H, hdP N n t l = H := ⟨_, rfl⟩
          rw [hH] at HO hLq
          have HH := Lib.hid hH
          clear hH
          have kc := Sb.conv_rd HO.out.rd mq cq hLq.symm wr (fun _ _ => rfl)
          have CK := Lib.hid (checksum_any ⟨H.toArray⟩ wr (HE.out.below HB.out) (by rw [size_mk]; omega))
          rw [toList_mk] at CK
          have hck := ck_lt H
          have FB := Lib.hid (fun w => fourBytes_any (ck H) w hck)
          go_wp2_with (first
            | (go_at_call 56; go_must (refine CK.out.mono ?_; rintro e8 w8 ⟨rfl, b8⟩; have O8 := Lib.hid (own_keep HO.out b8)))
            | (go_at_call 59; go_must (refine (FB.out _).mono ?_; rintro e9 w9 ⟨g9, n9, m9, rfl, o9, b9⟩; have O9 := Lib.hid (own_keep O8.out b9); have L9 : n9 = 4 := o9.len.symm))
            | (at_builtin; go_must (refine Sb.wpList_append_rd rfl (.tmp 62) (.tmp 66) rfl rfl _ _ _ (four (ck H)) rfl O9.out o9.rd (by first | rfl | exact o9.len.symm) (fun h => by cases h) (Nat.le_trans (Nat.le_trans HB.out.size b8.size) b9.size) (by omega) ?_; intro g11 c11 w11 o11 b11))
            | fail)
          go_returns
          exact ⟨_, _, _, rfl, by rw [HH.out]; exact o11, ((HB.out.trans (b8.mono HB.out.size)).trans (b9.mono (Nat.le_trans HB.out.size b8.size))).trans b11⟩

end Go.Proofs.YtillcmddbjhepaaGreatDoor

namespace Go.Proofs.YtillcmddbjhepaaGreatDoor
open Go Go.RowKit Go.Joins
set_option linter.unusedVariables false
set_option linter.unusedSimpArgs false

set_option maxRecDepth 20000 in
set_option maxHeartbeats 2000000 in
theorem rtakeNumber_any (s : ByteArray) (a most : Nat) (w : World) (hs : s.size ≤ 9223372036854775807) (hm : most ≤ 9223372036854775807) :
    Calls Tryz.prog 76 #[.string s, .int .i64 a, .int .i64 most] w fun e w' => e = .returned (r3 (rN s.data.toList a most)) ∧ Below w.heap.size w w' := by
  have CT := Lib.hid (Sb.rtaku_any s a w hs)
  have hmi : (most : Int) ≤ 9223372036854775807 := by omega
  have hb := Sb.tu_bounds s.data.toList a
  unfold Sb.tuVal at CT
  have he := @rN_err s.data.toList a most
  have hl := @rN_lim s.data.toList a most
  have ho := @rN_ok s.data.toList a most
  obtain ⟨V, hV⟩ : ∃ V, Sb.tuV s.data.toList a = V := ⟨_, rfl⟩
  obtain ⟨M, hM⟩ : ∃ M, Sb.tuN s.data.toList a = M := ⟨_, rfl⟩
  obtain ⟨E, hE⟩ : ∃ E, Sb.tuE s.data.toList a = E := ⟨_, rfl⟩
  rw [hV, hM, hE] at CT
  rw [hV, hM, hE] at hb
  rw [hE] at he hl ho
  rw [hV] at hl ho
  rw [hM] at ho
  generalize rN s.data.toList a most = p at *
  clear hV hM hE
  have H1 := Lib.hid he; have H2 := Lib.hid hl; have H3 := Lib.hid ho
  clear he hl ho
  by_cases h0 : E = 0
  · subst h0
    by_cases h1 : most < V
    · have h1' : (most : Int) < V := by omega
      have HP := Lib.hid (H2.out rfl h1)
      clear H1 H2 H3
      go_enter Tryz.func76, Tryz.ntmps76
      go_wp2_with (first
        | (go_at_call 84; go_must (refine CT.out.mono ?_; rintro e w1 ⟨rfl, rfl⟩))
        | fail)
      go_returns
      exact ⟨r3_of HP.out, Below.refl _ _⟩
    · have h1' : ¬ (most : Int) < V := by omega
      have HP := Lib.hid (H3.out rfl h1)
      have hv : IntKind.i64.wrap (V : Int) = V := IntWalk.i64_in _ (by omega)
      clear H1 H2 H3
      go_enter Tryz.func76, Tryz.ntmps76
      go_wp2_with (first
        | (go_at_call 84; go_must (refine CT.out.mono ?_; rintro e w1 ⟨rfl, rfl⟩))
        | fail)
      go_returns
      exact ⟨r3_of HP.out, Below.refl _ _⟩
  · have h0' : ((E : Int) != 0) = true := by simp; omega
    have HP := Lib.hid (H1.out h0)
    clear H1 H2 H3
    go_enter Tryz.func76, Tryz.ntmps76
    go_wp2_with (first
      | (go_at_call 84; go_must (refine CT.out.mono ?_; rintro e w1 ⟨rfl, rfl⟩))
      | fail)
    go_returns
    exact ⟨r3_of HP.out, Below.refl _ _⟩

end Go.Proofs.YtillcmddbjhepaaGreatDoor

namespace Go.Proofs.YtillcmddbjhepaaGreatDoor
open Go.BigFrame
open Go Go.RowKit Go.Joins
set_option linter.unusedVariables false
set_option linter.unusedSimpArgs false

set_option maxRecDepth 20000 in
set_option maxHeartbeats 400000 in
theorem rtakeFour_any (s : ByteArray) (a : Nat) (w : World) (hs : s.size ≤ 9223372036854775807) (ha : a ≤ s.size) :
    Calls Tryz.prog 86 #[.string s, .int .i64 a] w fun e w' => e = .returned (r3 (rF s.data.toList a)) ∧ Below w.heap.size w w' := by
  have hsi : (s.size : Int) ≤ 9223372036854775807 := by omega
  have hai : (a : Int) ≤ s.size := by omega
  have hsl := size_len s
  by_cases h4 : s.size < a + 4
  · have HP := Lib.hid (show rF s.data.toList a = (0, 0, 5) by unfold rF; rw [if_pos (by omega)])
    have h1 : (s.size : Int) - (a : Int) < 4 := by omega
    clear hsl
    go_enter Tryz.func86, Tryz.ntmps86
    go_wp2
    go_returns
    exact ⟨r3_of HP.out, Below.refl _ _⟩
  · have HP := Lib.hid (show rF s.data.toList a = (f4 s.data.toList a, a + 4, 0) by unfold rF; rw [if_neg (by omega)])
    have h1 : ¬ (s.size : Int) - (a : Int) < 4 := by omega
    have h2 : (a : Int) + 1 < s.size := by omega
    have h3 : (a : Int) + 2 < s.size := by omega
    have h5 : (a : Int) + 3 < s.size := by omega
    have h6 : (a : Int) < s.size := by omega
    have h7 : (a : Int) + 4 ≤ 9223372036854775807 := by omega
    obtain ⟨a1, e1⟩ : ∃ a1 : Nat, a + 1 = a1 := ⟨_, rfl⟩
    obtain ⟨a2, e2⟩ : ∃ a2 : Nat, a + 2 = a2 := ⟨_, rfl⟩
    obtain ⟨a3, e3⟩ : ∃ a3 : Nat, a + 3 = a3 := ⟨_, rfl⟩
    have k1 : (a : Int) + 1 = (a1 : Int) := by omega
    have k2 : (a : Int) + 2 = (a2 : Int) := by omega
    have k3 : (a : Int) + 3 = (a3 : Int) := by omega
    have n0 : a < s.size := by omega
    have n1 : a1 < s.size := by omega
    have n2 : a2 < s.size := by omega
    have n3 : a3 < s.size := by omega
    have i1 : (a1 : Int) < s.size := by omega
    have i2 : (a2 : Int) < s.size := by omega
    have i3 : (a3 : Int) < s.size := by omega
    have HF : Hid (f4 s.data.toList a = s[a].toNat + 256 * s[a1].toNat + 65536 * s[a2].toNat + 16777216 * s[a3].toNat) := Lib.hid (by
      have e : ∀ (i : Nat) (hi : i < s.size), s.data.toList.getD i 0 = s[i] := fun i hi => by
        rw [List.getD_eq_getElem?_getD, List.getElem?_eq_getElem (by rw [← size_len]; exact hi)]; rfl
      unfold f4
      rw [e1, e2, e3, e a n0, e a1 n1, e a2 n2, e a3 n3])
    obtain ⟨x0, hx0⟩ : ∃ x, s[a].toNat = x := ⟨_, rfl⟩
    obtain ⟨x1, hx1⟩ : ∃ x, s[a1].toNat = x := ⟨_, rfl⟩
    obtain ⟨x2, hx2⟩ : ∃ x, s[a2].toNat = x := ⟨_, rfl⟩
    obtain ⟨x3, hx3⟩ : ∃ x, s[a3].toNat = x := ⟨_, rfl⟩
    have y0 : x0 < 256 := by rw [← hx0]; exact s[a].toNat_lt
    have y1 : x1 < 256 := by rw [← hx1]; exact s[a1].toNat_lt
    have y2 : x2 < 256 := by rw [← hx2]; exact s[a2].toNat_lt
    have y3 : x3 < 256 := by rw [← hx3]; exact s[a3].toNat_lt
    rw [hx0, hx1, hx2, hx3] at HF
    have w0 : IntKind.i64.wrap (x0 : Int) = x0 := IntWalk.i64_in (x0 : Int) (by omega)
    have w1 : IntKind.i64.wrap (x1 : Int) = x1 := IntWalk.i64_in (x1 : Int) (by omega)
    have w2 : IntKind.i64.wrap (x2 : Int) = x2 := IntWalk.i64_in (x2 : Int) (by omega)
    have w3 : IntKind.i64.wrap (x3 : Int) = x3 := IntWalk.i64_in (x3 : Int) (by omega)
    clear hsl h2 h3 h5 e1 e2 e3
    go_enter Tryz.func86, Tryz.ntmps86
    go_wp2
    go_big_quiet (fail)
    go_wp2
    go_returns
    refine ⟨?_, (Below.refl w.heap.size w).trans ⟨rfl, rfl, rfl, Nat.le_refl _, fun _ _ => rfl⟩⟩
    have e := r3_of (HP.out.trans (by rw [HF.out]))
    refine Eq.trans ?_ e
    show Ending.returned (.tuple #[.int .i64 _, .int .i64 _, .int .i64 _]) = .returned (.tuple #[.int .i64 _, .int .i64 _, .int .i64 _])
    congr 1

end Go.Proofs.YtillcmddbjhepaaGreatDoor
