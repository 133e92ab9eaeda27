/-
  Layer 16: the walk of the specification's Encode.
-/
import Derived.Test.YtfbclbolkojjeaaN7
import Derived.Deep.QuietTactic
import Derived.BigQuiet
namespace Go.Proofs.Ytfbclbolkojjeaa
open Go Go.RowKit Go.Joins
set_option linter.unusedVariables false
set_option linter.unusedSimpArgs false

theorem stB_bool {z : Bool} {x b : UInt8} (hx : x = 48 ∨ x = 49) : decide (stB z x b = 49) = (decide (x = 49) != (decide (b = 49) != z)) := by
  unfold stB
  rcases hx with rfl | rfl <;> cases z <;> by_cases hb : b = 49 <;> simp [hb]
theorem stB_char {z : Bool} {x b : UInt8} (hx : x = 48 ∨ x = 49) : stB z x b = if (decide (x = 49) != (decide (b = 49) != z)) = true then 49 else 48 := by
  rw [← stB_bool hx]
  rcases stB_ok (z := z) (b := b) hx with h | h <;> rw [h] <;> rfl
theorem bytes_cat (Y : List UInt8) (b : UInt8) : (⟨Y.toArray⟩ : ByteArray) ++ ⟨#[b]⟩ = ⟨(Y ++ [b]).toArray⟩ := by
  apply ByteArray.ext
  simp
theorem cdL_take (z : Bool) (x : UInt8) (d : ByteArray) (k : Nat) (hk : k < d.size) : cdL z x (d.data.toList.take (k + 1)) = cdL z x (d.data.toList.take k) ++ [stB z (cdF z x (d.data.toList.take k)) d[k]] := by
  rw [take_snoc d k hk, cdL_snoc]
theorem cdF_take (z : Bool) (x : UInt8) (d : ByteArray) (k : Nat) (hk : k < d.size) : cdF z x (d.data.toList.take (k + 1)) = stB z (cdF z x (d.data.toList.take k)) d[k] := by
  rw [take_snoc d k hk, cdF_snoc]

set_option maxRecDepth 20000 in
set_option maxHeartbeats 8000000 in
theorem refEncode_any (z : Bool) (l : List It) (V : Value) (w : World) (hT : ItArg w V l) (hl : l.length ≤ 140737488351232) (hd : ∀ j (h : j < l.length), l[j].d.size ≤ 140737488351232) : Calls Try.prog 45 #[.agg #[.bool z], V] w fun e w' => ∃ v, e = .returned (.tuple #[v, .int .i64 (clE 1048576 l)]) ∧ ItRow w' w.heap.size v (enL z l) ∧ Below w.heap.size w w' := by
  have hl' : (l.length : Int) ≤ 140737488351232 := by omega
  have HD := Lib.hid hd
  obtain ⟨A, c, rfl, hA⟩ := hT
  have HA := Lib.hid hA
  clear hA
  have hE : Hid (enL z l = if clE 1048576 l = 0 then codI z 49 l else []) := Lib.hid rfl
  have hC : Hid (clE 1048576 l = if 1024 < l.length then 6 else cfE 1048576 l) := Lib.hid rfl
  generalize enL z l = RL at *
  generalize clE 1048576 l = CE at *
  have h0 := RowAt.new w 59 #[.bool z]
  have B0 := ba w (.cells #[.bool z] 59)
  obtain ⟨W, eW⟩ : ∃ W, W = w.alloc (.cells #[.bool z] 59) := ⟨_, rfl⟩
  obtain ⟨b2, e2⟩ : ∃ b, b = w.heap.size := ⟨_, rfl⟩
  rw [← eW] at h0 B0
  rw [← e2] at h0
  have l2 := h0.lt
  have HB0 := Lib.hid B0; have H0 := Lib.hid h0
  clear B0 h0
  by_cases hbig : 1024 < l.length
  · have hbig' : (1024 : Int) < l.length := by omega
    obtain rfl : CE = 6 := by rw [hC.out, if_pos hbig]
    obtain rfl : RL = [] := by rw [hE.out, if_neg (by omega)]
    go_enter Try.func45, Try.ntmps45
    go_wp2
    rw [← eW]
    go_returns
    exact ⟨_, rfl, KRow.nil _ _, HB0.out⟩
  have hbig' : ¬ (1024 : Int) < l.length := by omega
  replace hC : Hid (CE = cfE 1048576 l) := Lib.hid (by rw [hC.out, if_neg hbig])
  have HR0 := Lib.hid (KRow.lit (T := 32) itC_size W W.heap.size (Nat.le_refl _) [] #[] rfl 0 rfl (by decide))
  have hBW := ba W (.cells #[] 32)
  obtain ⟨Y, eY⟩ : ∃ Y, Y = W.alloc (.cells #[] 32) := ⟨_, rfl⟩
  have hWs := HB0.out.size
  go_enter Try.func45, Try.ntmps45
  go_wp2
  rw [← eW, ← e2]
  have hz : W.heap.size = b2 + 1 := by rw [eW, World.size_alloc, e2]
  rw [← eY]
  rw [← eY] at HR0 hBW
  rw [hz] at HR0
  have HY := Lib.hid (HB0.out.trans (hBW.mono HB0.out.size)); have HZ0 := Lib.hid (H0.out.keep hBW)
  have sY := hBW.size
  clear eW e2 eY H0 hBW l2
  go_loopw [8, 6, 7] (fun i r q wr => ∃ (j : Nat), j ≤ l.length ∧ i = .int .i64 j ∧ q = .bool (decide (codF z 49 (l.take j) = 49)) ∧ Hid (cfE 1048576 l = cfE 1048576 (l.drop j)) ∧ Hid (ItRow wr (b2 + 1) r (codI z 49 (l.take j))) ∧ Hid (RowAt wr b2 59 #[.bool z]) ∧ Hid (Below w.heap.size w wr) ∧ b2 + 1 ≤ wr.heap.size) (fun i _ _ _ => l.length - (intOf i).toNat)
  case atStart => exact ⟨0, Nat.zero_le _, rfl, rfl, Lib.hid rfl, HR0, HZ0, HY, by omega⟩
  case round =>
    obtain ⟨j, hj, rfl, rfl, HF, HR, HZ, HB, hW⟩ := hrel
    have hb := HB.out
    have hzc := HZ.out.get1
    by_cases hjl : j < l.length
    · obtain ⟨g, o, rfl, hg, hcc⟩ := HA.out (by omega)
      obtain ⟨a0, a1, a2, a3, a4⟩ := arg_five hcc j hjl
      have f0 := (hb.cell (p := ⟨g, o + j * 5, none⟩) hg).trans a0
      have f1 := (hb.cell (p := ⟨g, o + j * 5 + 1, none⟩) hg).trans a1
      have f2 := (hb.cell (p := ⟨g, o + j * 5 + 2, none⟩) hg).trans a2
      have f3 := (hb.cell (p := ⟨g, o + j * 5 + 3, none⟩) hg).trans a3
      have f4 := (hb.cell (p := ⟨g, o + j * 5 + 4, none⟩) hg).trans a4
      have hgr : g < wr.heap.size := Nat.lt_of_lt_of_le hg hb.size
      have hx := codF_ok (z := z) (x := 49) (.inr rfl) (l.take j)
      have HS := Lib.hid (codI_snoc z 49 (l.take j) l[j])
      have HFc := Lib.hid (codF_snoc z 49 (l.take j) l[j])
      have ht : l.take (j + 1) = l.take j ++ [l[j]] := by rw [List.take_succ_eq_append_getElem hjl]
      rw [← ht] at HS HFc
      have HX : Hid (codE z (codF z 49 (l.take j)) l[j] = ⟨l[j].g, 0, 0, ⟨(cdL z (codF z 49 (l.take j)) l[j].d.data.toList).toArray⟩, 0⟩) := Lib.hid rfl
      have hlen := codI_len z 49 (l.take j)
      have hlen2 : (l.take j).length = j := by rw [List.length_take]; omega
      rw [hlen2] at hlen
      have HN := Lib.hid (cfE_at hjl HF.out)
      have hok : ciT 1048576 l[j] = 0 → l[j].d.size ≤ 4096 := fun hc0 => (ciT_ok hc0).2.2.1
      have CW : Hid (∀ W, Calls Try.prog 72 #[.agg (itA l[j].g l[j].v l[j].x l[j].d l[j].u)] W fun e w' => e = .returned (.int .i64 (ciT 1048576 l[j])) ∧ Below W.heap.size W w') := Lib.hid fun W => wrong_xy l[j].g l[j].v l[j].x l[j].d l[j].u W (HD.out j hjl)
      clear a0 a1 a2 a3 a4 hcc ht hlen2
      generalize codE z (codF z 49 (l.take j)) l[j] = ne at *
      generalize codF z 49 (l.take j) = x at *
      generalize codI z 49 (l.take j) = L at *
      generalize l[j].g = x0 at *
      generalize l[j].v = x1 at *
      generalize l[j].x = x2 at *
      generalize l[j].d = x3 at *
      generalize l[j].u = x4 at *
      generalize ciT 1048576 l[j] = C at *
      by_cases hC0 : C = 0
      case neg =>
        have hC' : (C == 0) = false := by simpa using hC0
        obtain rfl : CE = C := by rw [hC.out, HN.out, if_neg hC0]
        obtain rfl : RL = [] := by rw [hE.out, if_neg hC0]
        clear hC hE HN hC0
        go_wp2_with (go_at_call 72; go_must (refine (CW.out _).mono ?_; rintro e1 w1 ⟨rfl, b1⟩; have B1 := Lib.hid (hb.trans (b1.mono hb.size))))
        go_returns
        exact ⟨_, rfl, KRow.nil _ _, B1.out⟩
      subst hC0
      replace HN : Hid (cfE 1048576 l = cfE 1048576 (l.drop (j + 1))) := Lib.hid (by rw [HN.out, if_pos rfl])
      have hd3 := hok rfl
      clear hok
      obtain ⟨RA, RN, RC, rfl, hRN⟩ := HR.out.form
      clear hRN
      go_wp2_with (go_at_call 72; go_must (refine (CW.out _).mono ?_; rintro e1 w1 ⟨rfl, b1⟩; have B1 := Lib.hid (hb.trans (b1.mono hb.size)); have R1 := Lib.hid (HR.out.keep b1); have Z1 := Lib.hid (HZ.out.keep b1); have k0 := Lib.hid ((b1.cell (p := ⟨g, o + j * 5, none⟩) hgr).trans f0); have k3 := Lib.hid ((b1.cell (p := ⟨g, o + j * 5 + 3, none⟩) hgr).trans f3); have s1 := b1.size))
      clear f0 f1 f2 f3 f4 hzc HR HZ HB hb CW
      go_loopw [11, 10, 7] (fun i r q ws => ∃ (k m : Nat), k ≤ x3.size ∧ i = .int .i64 k ∧ r = .string ⟨(cdL z x (x3.data.toList.take k)).toArray⟩ ∧ q = .bool (decide (cdF z x (x3.data.toList.take k) = 49)) ∧ ws = w1.drewN m) (fun i _ _ _ => x3.size - (intOf i).toNat)
      case atStart => exact ⟨0, 0, Nat.zero_le _, rfl, rfl, rfl, rfl⟩
      case round =>
        obtain ⟨k, m, hk, rfl, rfl, rfl, rfl⟩ := hrel
        have q0 := k0.out; have q3 := k3.out; have qz := Z1.out.get1
        by_cases hkl : k < x3.size
        · have hxk := cdF_ok (z := z) hx (x3.data.toList.take k)
          have HT := Lib.hid (cdF_take z x x3 k hkl)
          have HL := Lib.hid (cdL_take z x x3 k hkl)
          have hb1 := stB_bool (z := z) (b := x3[k]) hxk
          have hb2 := stB_char (z := z) (b := x3[k]) hxk
          have hb49 : ((x3[k].toNat : Int) == 49) = decide (x3[k] = 49) := by
            by_cases e : x3[k] = 49
            · rw [e]; rfl
            · have e' : x3[k].toNat ≠ 49 := fun h => e (UInt8.toNat_inj.1 h)
              rw [decide_eq_false e]; simp; omega
          have hcat := Lib.hid (fun b => bytes_cat (cdL z x (x3.data.toList.take k)) b)
          generalize stB z (cdF z x (x3.data.toList.take k)) x3[k] = nx at *
          generalize decide (x3[k] = 49) = ch at *
          generalize decide (cdF z x (x3.data.toList.take k) = 49) = lb at *
          obtain ⟨nb, hnb⟩ : ∃ nb, (lb != (ch != z)) = nb := ⟨_, rfl⟩
          rw [hnb] at hb1 hb2
          have hnb2 : (!(lb == !(ch == z))) = nb := by rw [← hnb]; cases lb <;> cases ch <;> cases z <;> rfl
          have hcl : ¬ 9223372036854775807 < (cdL z x (x3.data.toList.take k)).length + 1 := by rw [cdL_len, List.length_take]; omega
          have HB1 := Lib.hid hb1; have HB2 := Lib.hid hb2
          clear hb1 hb2
          cases nb
          · have HL2 : Hid (cdL z x (x3.data.toList.take (k + 1)) = cdL z x (x3.data.toList.take k) ++ [48]) := Lib.hid (by rw [HL.out, HB2.out]; rfl)
            have HT2 : Hid (decide (cdF z x (x3.data.toList.take (k + 1)) = 49) = false) := Lib.hid (by rw [HT.out, HB1.out])
            clear HL HT HB1 HB2
            go_wp2
            go_quiet (fail)
            go_wp2
            go_roundw
            case rel => exact ⟨k + 1, m + nq, by omega, val_int (by omega), by rw [HL2.out, ← hcat.out], by rw [HT2.out], rfl⟩
            case measure => simp [intOf]; omega
          · have HL2 : Hid (cdL z x (x3.data.toList.take (k + 1)) = cdL z x (x3.data.toList.take k) ++ [49]) := Lib.hid (by rw [HL.out, HB2.out]; rfl)
            have HT2 : Hid (decide (cdF z x (x3.data.toList.take (k + 1)) = 49) = true) := Lib.hid (by rw [HT.out, HB1.out])
            clear HL HT HB1 HB2
            go_wp2
            go_quiet (fail)
            go_wp2
            go_roundw
            case rel => exact ⟨k + 1, m + nq, by omega, val_int (by omega), by rw [HL2.out, ← hcat.out], by rw [HT2.out], rfl⟩
            case measure => simp [intOf]; omega
        · obtain rfl : k = x3.size := by omega
          have ht : x3.data.toList.take x3.size = x3.data.toList := List.take_of_length_le (by rw [← size_len]; omega)
          simp only [ht]
          rw [← HFc.out]
          have hdm : (w1.drewN m).heap.size = w1.heap.size := rfl
          have R2 : Hid (ItRow (w1.drewN m) (b2 + 1) (.slice RA RN RC) L) := Lib.hid R1.out
          go_wp2_with (at_builtin; go_must (refine wpList_append_k (P := Try.prog) Try.underlying33 it_info rfl (by omega) itC_size rfl _ _ rfl (⟨x0, 0, 0, ⟨(cdL z x x3.data.toList).toArray⟩, 0⟩ : It) rfl rfl rfl rfl R2.out (by omega) rfl (by omega) (by omega) ?_; intro v4 w4 r4 b4; have R4 := Lib.hid r4; have B4 := Lib.hid b4; clear r4 b4))
          go_roundw
          case rel => exact ⟨j + 1, by omega, val_int (by omega), rfl, HN, Lib.hid (by rw [HS.out, HX.out]; exact R4.out), Lib.hid ((show RowAt (w1.drewN m) b2 59 #[.bool z] from Z1.out).below B4.out (by omega)), Lib.hid ((Go.below_drewN B1.out m).trans (B4.out.mono (by omega))), by have h1 := B4.out.size; have h2 : (w1.drewN m).heap.size = w1.heap.size := rfl; omega⟩
          case measure => simp [intOf]; omega
    · have he : l.take j = l := List.take_of_length_le (by omega)
      have hdz : l.drop j = [] := List.drop_of_length_le (by omega)
      obtain rfl : CE = 0 := by rw [hC.out, HF.out, hdz]; rfl
      obtain rfl : RL = codI z 49 l := by rw [hE.out, if_pos rfl]
      rw [he] at HR
      clear hC hE HF he hdz
      go_wp2
      go_returns
      exact ⟨_, rfl, HR.out.mono (by omega), hb⟩

end Go.Proofs.Ytfbclbolkojjeaa
