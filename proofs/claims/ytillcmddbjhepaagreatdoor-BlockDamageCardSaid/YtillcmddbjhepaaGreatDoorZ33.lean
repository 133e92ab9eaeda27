/-
  The specification's ReadHead. (Written by tools/s10_genS3.py.)
-/
import Derived.Test.YtillcmddbjhepaaGreatDoorZ32
import Derived.Test.YtillcmddbjhepaaGreatDoorZ26
import Derived.BigQuiet
namespace Go.Proofs.YtillcmddbjhepaaGreatDoor
open Go Go.RowKit Go.Joins
open Go.BigFrame
set_option linter.unusedVariables false
set_option linter.unusedSimpArgs false

theorem cells3 (hk : ∀ x, (enC x).size = 3) {w : World} {B g n c : Nat} {l : List En} (h : EnRow w B (.slice (some ⟨g, 0, none⟩) n c) l) (j : Nat) (hj : j < l.length) :
    w.cell? ⟨g, j * 3, none⟩ = some (.int .i64 l[j].1) ∧ w.cell? ⟨g, j * 3 + 1, none⟩ = some (.int .i64 l[j].2.1) ∧ w.cell? ⟨g, j * 3 + 2, none⟩ = some (.int .i64 l[j].2.2) :=
  ⟨KRow.cell hk h j hj 0 (by omega), KRow.cell hk h j hj 1 (by omega), KRow.cell hk h j hj 2 (by omega)⟩

theorem szE_bd {E : List En} {i : Nat} (hl : E.length ≤ 16384) (h : ∀ j (hj : j < E.length), okE E[j]) : szE (E.take i) ≤ 17179869184 := by
  have key : ∀ k, k ≤ E.length → szE (E.take k) ≤ k * 1048576 := by
    intro k
    induction k with
    | zero => intro _; simp [szE]
    | succ k ih =>
      intro hk
      have h1 := ih (by omega)
      have h2 := (h k (by omega)).2.1
      rw [szE_take E k (by omega)]
      omega
  by_cases hi : i ≤ E.length
  · have := key i hi; omega
  · rw [List.take_of_length_le (by omega)]
    have := key E.length (Nat.le_refl _)
    rw [List.take_length] at this
    omega

set_option maxRecDepth 100000 in
set_option maxHeartbeats 8000000 in
theorem rReadHead_any (s : ByteArray) (w : World) (hs : s.size ≤ 140737488351232) :
    Calls Tryz.prog 23 #[.string s] w (HhR (rd s.data.toList) w) := by
  have hsl := size_len s
  have RB := Lib.hid (RowAt.new w 46 #[.slice none 0 0, .int .i64 0, .int .i64 0, .slice none 0 0, .int .i64 0])
  have KB := Lib.hid (ba w (.cells #[.slice none 0 0, .int .i64 0, .int .i64 0, .slice none 0 0, .int .i64 0] 46))
  have CH := Lib.hid (fun W => rtakeHead_any s W hs)
  obtain ⟨⟨⟨N, R, T, E, bd⟩, er⟩, h⟩ : ∃ p, rH s.data.toList = p := ⟨_, rfl⟩
  obtain ⟨q, hq⟩ : ∃ q, rd s.data.toList = q := ⟨_, rfl⟩
  rw [h] at CH
  rw [hq]
  unfold HhR at CH
  simp only at CH
  by_cases c : er = 0
  case neg =>
    have HBAD := Lib.hid (show q = (noH, er) by rw [← hq]; unfold rd; rw [h]; simp only; rw [if_neg c])
    have c' : ((er : Int) != 0) = true := by simp; omega
    clear h hq hsl
    go_enter Tryz.func23, Tryz.ntmps23
    go_wp2_with (first
      | (go_at_call 48; go_must (refine (CH.out _).mono ?_; rintro e w3 ⟨vN, vB, rfl, hk, hN, hE⟩; replace RB := Lib.hid (RB.out.keep hk); replace KB := Lib.hid (KB.out.trans (hk.mono KB.out.size)); have NRN := Lib.hid (fun g (hg : vN.ownBlock = some g) => show w.heap.size < g ∧ g < w3.heap.size from ⟨by have := (KRow.lt hN g hg).1; rw [World.size_alloc] at this; omega, (KRow.lt hN g hg).2⟩); have ERN := Lib.hid (fun g (hg : vB.ownBlock = some g) => show w.heap.size < g ∧ g < w3.heap.size from ⟨by have := (KRow.lt hE g hg).1; rw [World.size_alloc] at this; omega, (KRow.lt hE g hg).2⟩); have NR := Lib.hid (KRow.mono hN (show w.heap.size ≤ (w.alloc _).heap.size by rw [World.size_alloc]; omega)); have ER := Lib.hid (KRow.mono hE (show w.heap.size ≤ (w.alloc _).heap.size by rw [World.size_alloc]; omega)); obtain ⟨nA, nn, nc, rfl, hnn⟩ := KRow.form hN; clear hnn; obtain ⟨vA, vn, vc, rfl, hvn⟩ := KRow.form hE; clear hvn; replace RB := Lib.hid (RB.out.alloc (.cells #[.slice nA nn nc, .int .i64 R, .int .i64 T, .slice vA vn vc, .int .i64 bd] 46)); replace KB := Lib.hid (KB.out.alloc KB.out.size (.cells #[.slice nA nn nc, .int .i64 R, .int .i64 T, .slice vA vn vc, .int .i64 bd] 46)); clear hk hN hE CH))
      | ((with_reducible refine wpList_store_at (B := w.heap.size) RB.out (Nat.le_refl _) #[.slice none 0 0, .int .i64 0, .int .i64 0, .slice none 0 0, .int .i64 0] (.tmp 2) _ 46 rfl rfl rfl rfl (by kernel_rfl) rfl rfl ?_); intro wz rz bz)
      | fail)
    have y0 : wz.cell? ⟨w.heap.size, 0, none⟩ = some (.slice none 0 0) := rz.cell 0
    have y1 : wz.cell? ⟨w.heap.size, 1, none⟩ = some (.int .i64 0) := rz.cell 1
    have y2 : wz.cell? ⟨w.heap.size, 2, none⟩ = some (.int .i64 0) := rz.cell 2
    have y3 : wz.cell? ⟨w.heap.size, 3, none⟩ = some (.slice none 0 0) := rz.cell 3
    have y4 : wz.cell? ⟨w.heap.size, 4, none⟩ = some (.int .i64 0) := rz.cell 4
    refine bodyPost_ret (v := .tuple #[.agg #[.slice none 0 0, .int .i64 0, .int .i64 0, .slice none 0 0, .int .i64 0], .int .i64 er]) (by simp [results, Tryz.results23, go_sem, y0, y1, y2, y3, y4]) rfl ?_
    exact HhR.bad HBAD.out (KB.out.trans bz)
  subst c
  obtain ⟨i1, i2, i3, i4, i5, i6⟩ := rH_inv h
  have hbd : (bd : Int) ≤ s.size := by omega
  have hss : (s.size : Int) ≤ 140737488351232 := by omega
  have hbk : E.length ≤ 16384 := by rw [i4]; unfold bkN; omega
  have HI := Lib.hid (fun i (hi : ¬ asI E T i) (hl : i < E.length) => (hq.symm.trans (rd_noI h hl hi)))
  have HY := Lib.hid (fun (h0 : eA E T 0 = 0) (h1 : ∀ i, i < E.length → asI E T i) => hq.symm.trans (rd_yes h h0 h1))
  have H0 := Lib.hid (fun (h0 : ¬ eA E T 0 = 0) => hq.symm.trans (rd_no0 h h0))
  have HOK := Lib.hid (fun i (hi : i < E.length) => i5 _ (List.getElem_mem hi))
  have HSL := Lib.hid hsl
  clear h hq i2 i3 i4 i5 i6 hsl
  rcases Nat.eq_zero_or_pos E.length with hn | hn1x
  · have EN := Lib.hid hn
    have hE0 : E = [] := List.eq_nil_of_length_eq_zero hn
    subst hE0
    have ha0 : eA [] T 0 = T := rfl
    by_cases hT : T = 0
    · have HQ := Lib.hid (HY.out (by rw [ha0, hT]) (fun i hi => absurd hi (by simp)))
      have hT' : ((T : Int) != 0) = false := by simp; omega
      clear HI HY H0 HOK hn ha0 hT
      go_enter Tryz.func23, Tryz.ntmps23
      go_wp2_with (first
        | (go_at_call 48; go_must (refine (CH.out _).mono ?_; rintro e w3 ⟨vN, vB, rfl, hk, hN, hE⟩; replace RB := Lib.hid (RB.out.keep hk); replace KB := Lib.hid (KB.out.trans (hk.mono KB.out.size)); have NRN := Lib.hid (fun g (hg : vN.ownBlock = some g) => show w.heap.size < g ∧ g < w3.heap.size from ⟨by have := (KRow.lt hN g hg).1; rw [World.size_alloc] at this; omega, (KRow.lt hN g hg).2⟩); have ERN := Lib.hid (fun g (hg : vB.ownBlock = some g) => show w.heap.size < g ∧ g < w3.heap.size from ⟨by have := (KRow.lt hE g hg).1; rw [World.size_alloc] at this; omega, (KRow.lt hE g hg).2⟩); have NR := Lib.hid (KRow.mono hN (show w.heap.size ≤ (w.alloc _).heap.size by rw [World.size_alloc]; omega)); have ER := Lib.hid (KRow.mono hE (show w.heap.size ≤ (w.alloc _).heap.size by rw [World.size_alloc]; omega)); obtain ⟨nA, nn, nc, rfl, hnn⟩ := KRow.form hN; clear hnn; obtain ⟨vA, vn, vc, rfl, hvn⟩ := KRow.form hE; rw [EN.out] at hvn; obtain rfl : vn = 0 := hvn; have O3 : w.heap.size < w3.heap.size := RB.out.lt; have HH := Lib.hid (RowAt.new w3 46 #[.slice nA nn nc, .int .i64 R, .int .i64 T, .slice vA 0 vc, .int .i64 bd]); replace RB := Lib.hid (RB.out.alloc (.cells #[.slice nA nn nc, .int .i64 R, .int .i64 T, .slice vA 0 vc, .int .i64 bd] 46)); replace NR := Lib.hid (KRow.alloc NR.out (.cells #[.slice nA nn nc, .int .i64 R, .int .i64 T, .slice vA 0 vc, .int .i64 bd] 46)); replace ER := Lib.hid (KRow.alloc ER.out (.cells #[.slice nA nn nc, .int .i64 R, .int .i64 T, .slice vA 0 vc, .int .i64 bd] 46)); replace KB := Lib.hid (KB.out.alloc KB.out.size (.cells #[.slice nA nn nc, .int .i64 R, .int .i64 T, .slice vA 0 vc, .int .i64 bd] 46)); clear hk hN hE CH))
        | fail)
      obtain ⟨S, hS⟩ : ∃ S : Nat, szE [] = S := ⟨_, rfl⟩
      have hS0 : (0 : Int) = (S : Int) := by rw [← hS]; rfl
      have HS := Lib.hid hS
      have HS0 := Lib.hid hS0
      clear hS hS0
      go_loopw [6, 7] (fun x y wr => x = .int .i64 (S : Nat) ∧ y = .int .i64 0 ∧ Hid (RowAt wr w.heap.size 46 #[.slice none 0 0, .int .i64 0, .int .i64 0, .slice none 0 0, .int .i64 0]) ∧ Hid (RowAt wr w3.heap.size 46 #[.slice nA nn nc, .int .i64 R, .int .i64 T, .slice vA 0 vc, .int .i64 bd]) ∧ Hid (Si.NmRow wr w.heap.size (.slice nA nn nc) N) ∧ Hid (EnRow wr w.heap.size (.slice vA 0 vc) []) ∧ Hid (Below w.heap.size w wr)) (fun _ _ _ => 0)
      case atStart => exact ⟨val_int HS0.out, rfl, Lib.hid RB.out, Lib.hid HH.out, Lib.hid NR.out, Lib.hid ER.out, Lib.hid KB.out⟩
      case round =>
        clear RB HH NR ER KB HS0
        obtain ⟨rfl, rfl, RB, HH, NR, ER, KB⟩ := hrel
        have j0 : wr.cell? ⟨w3.heap.size, 0, none⟩ = some (.slice nA nn nc) := HH.out.cell 0
        have j1 : wr.cell? ⟨w3.heap.size, 1, none⟩ = some (.int .i64 R) := HH.out.cell 1
        have j2 : wr.cell? ⟨w3.heap.size, 2, none⟩ = some (.int .i64 T) := HH.out.cell 2
        have j3 : wr.cell? ⟨w3.heap.size, 3, none⟩ = some (.slice vA 0 vc) := HH.out.cell 3
        have j4 : wr.cell? ⟨w3.heap.size, 4, none⟩ = some (.int .i64 bd) := HH.out.cell 4
        have hsl := HSL.out
        by_cases d1 : s.size - bd < S
        · have HBAD := Lib.hid (show q = (noH, 5) by rw [HQ.out, if_pos (by rw [HS.out]; omega)])
          have d1i : (s.size : Int) - (bd : Int) < (S : Int) := by omega
          clear d1 hsl
          go_wp2_with (first
            | ((with_reducible refine wpList_store_at (B := w.heap.size) RB.out (Nat.le_refl _) #[.slice none 0 0, .int .i64 0, .int .i64 0, .slice none 0 0, .int .i64 0] (.tmp 2) _ 46 rfl rfl rfl rfl (by kernel_rfl) rfl rfl ?_); intro wz rz bz)
            | fail)
          have y0 : wz.cell? ⟨w.heap.size, 0, none⟩ = some (.slice none 0 0) := rz.cell 0
          have y1 : wz.cell? ⟨w.heap.size, 1, none⟩ = some (.int .i64 0) := rz.cell 1
          have y2 : wz.cell? ⟨w.heap.size, 2, none⟩ = some (.int .i64 0) := rz.cell 2
          have y3 : wz.cell? ⟨w.heap.size, 3, none⟩ = some (.slice none 0 0) := rz.cell 3
          have y4 : wz.cell? ⟨w.heap.size, 4, none⟩ = some (.int .i64 0) := rz.cell 4
          refine bodyPost_ret (v := .tuple #[.agg #[.slice none 0 0, .int .i64 0, .int .i64 0, .slice none 0 0, .int .i64 0], .int .i64 5]) (by simp [results, Tryz.results23, go_sem, y0, y1, y2, y3, y4]) rfl ?_
          exact HhR.bad HBAD.out (KB.out.trans bz)
        · have d1i : ¬ (s.size : Int) - (bd : Int) < (S : Int) := by omega
          have HQ1 := Lib.hid (show q = if szE [] < s.data.toList.length - bd then (noH, 4) else ((N, R, T, [], bd), 0) by rw [HQ.out, if_neg (by rw [HS.out]; omega)])
          by_cases d2 : S < s.size - bd
          · have HBAD := Lib.hid (show q = (noH, 4) by rw [HQ1.out, if_pos (by rw [HS.out]; omega)])
            have d2i : (S : Int) < (s.size : Int) - (bd : Int) := by omega
            clear d1 hsl d2
            go_wp2_with (first
              | ((with_reducible refine wpList_store_at (B := w.heap.size) RB.out (Nat.le_refl _) #[.slice none 0 0, .int .i64 0, .int .i64 0, .slice none 0 0, .int .i64 0] (.tmp 2) _ 46 rfl rfl rfl rfl (by kernel_rfl) rfl rfl ?_); intro wz rz bz)
              | fail)
            have y0 : wz.cell? ⟨w.heap.size, 0, none⟩ = some (.slice none 0 0) := rz.cell 0
            have y1 : wz.cell? ⟨w.heap.size, 1, none⟩ = some (.int .i64 0) := rz.cell 1
            have y2 : wz.cell? ⟨w.heap.size, 2, none⟩ = some (.int .i64 0) := rz.cell 2
            have y3 : wz.cell? ⟨w.heap.size, 3, none⟩ = some (.slice none 0 0) := rz.cell 3
            have y4 : wz.cell? ⟨w.heap.size, 4, none⟩ = some (.int .i64 0) := rz.cell 4
            refine bodyPost_ret (v := .tuple #[.agg #[.slice none 0 0, .int .i64 0, .int .i64 0, .slice none 0 0, .int .i64 0], .int .i64 4]) (by simp [results, Tryz.results23, go_sem, y0, y1, y2, y3, y4]) rfl ?_
            exact HhR.bad HBAD.out (KB.out.trans bz)
          · have HQ2 := Lib.hid (show q = ((N, R, T, [], bd), 0) by rw [HQ1.out, if_neg (by rw [HS.out]; omega)])
            have d2i : ¬ (S : Int) < (s.size : Int) - (bd : Int) := by omega
            clear d1 hsl d2
            go_wp2_with (first
              | ((with_reducible refine wpList_store_kp RB.out #[.slice nA nn nc, .int .i64 R, .int .i64 T, .slice vA 0 vc, .int .i64 bd] (.tmp 2) _ 46 rfl rfl rfl rfl (by kernel_rfl) rfl rfl ?_); intro wz rz bz)
              | fail)
            have y0 : wz.cell? ⟨w.heap.size, 0, none⟩ = some (.slice nA nn nc) := rz.cell 0
            have y1 : wz.cell? ⟨w.heap.size, 1, none⟩ = some (.int .i64 R) := rz.cell 1
            have y2 : wz.cell? ⟨w.heap.size, 2, none⟩ = some (.int .i64 T) := rz.cell 2
            have y3 : wz.cell? ⟨w.heap.size, 3, none⟩ = some (.slice vA 0 vc) := rz.cell 3
            have y4 : wz.cell? ⟨w.heap.size, 4, none⟩ = some (.int .i64 bd) := rz.cell 4
            refine bodyPost_ret (v := .tuple #[.agg #[.slice nA nn nc, .int .i64 R, .int .i64 T, .slice vA 0 vc, .int .i64 bd], .int .i64 0]) (by simp [results, Tryz.results23, go_sem, y0, y1, y2, y3, y4]) rfl ?_
            rw [HQ2.out]
            exact ⟨_, _, rfl, KB.out.trans (bz.below (B := w.heap.size) (by simp) KB.out.size), KRow.kp NR.out bz (fun g hg hm => by simp at hm; subst hm; have := NRN.out _ hg; omega), KRow.kp ER.out bz (fun g hg hm => by simp at hm; subst hm; have := ERN.out _ hg; omega)⟩
    · have HBAD := Lib.hid (H0.out (by rw [ha0]; exact hT))
      have hT' : ((T : Int) != 0) = true := by simp; omega
      clear HI HY H0 HOK hn ha0 hT
      go_enter Tryz.func23, Tryz.ntmps23
      go_wp2_with (first
        | (go_at_call 48; go_must (refine (CH.out _).mono ?_; rintro e w3 ⟨vN, vB, rfl, hk, hN, hE⟩; replace RB := Lib.hid (RB.out.keep hk); replace KB := Lib.hid (KB.out.trans (hk.mono KB.out.size)); have NRN := Lib.hid (fun g (hg : vN.ownBlock = some g) => show w.heap.size < g ∧ g < w3.heap.size from ⟨by have := (KRow.lt hN g hg).1; rw [World.size_alloc] at this; omega, (KRow.lt hN g hg).2⟩); have ERN := Lib.hid (fun g (hg : vB.ownBlock = some g) => show w.heap.size < g ∧ g < w3.heap.size from ⟨by have := (KRow.lt hE g hg).1; rw [World.size_alloc] at this; omega, (KRow.lt hE g hg).2⟩); have NR := Lib.hid (KRow.mono hN (show w.heap.size ≤ (w.alloc _).heap.size by rw [World.size_alloc]; omega)); have ER := Lib.hid (KRow.mono hE (show w.heap.size ≤ (w.alloc _).heap.size by rw [World.size_alloc]; omega)); obtain ⟨nA, nn, nc, rfl, hnn⟩ := KRow.form hN; clear hnn; obtain ⟨vA, vn, vc, rfl, hvn⟩ := KRow.form hE; rw [EN.out] at hvn; obtain rfl : vn = 0 := hvn; have O3 : w.heap.size < w3.heap.size := RB.out.lt; have HH := Lib.hid (RowAt.new w3 46 #[.slice nA nn nc, .int .i64 R, .int .i64 T, .slice vA 0 vc, .int .i64 bd]); replace RB := Lib.hid (RB.out.alloc (.cells #[.slice nA nn nc, .int .i64 R, .int .i64 T, .slice vA 0 vc, .int .i64 bd] 46)); replace NR := Lib.hid (KRow.alloc NR.out (.cells #[.slice nA nn nc, .int .i64 R, .int .i64 T, .slice vA 0 vc, .int .i64 bd] 46)); replace ER := Lib.hid (KRow.alloc ER.out (.cells #[.slice nA nn nc, .int .i64 R, .int .i64 T, .slice vA 0 vc, .int .i64 bd] 46)); replace KB := Lib.hid (KB.out.alloc KB.out.size (.cells #[.slice nA nn nc, .int .i64 R, .int .i64 T, .slice vA 0 vc, .int .i64 bd] 46)); clear hk hN hE CH))
        | ((with_reducible refine wpList_store_at (B := w.heap.size) RB.out (Nat.le_refl _) #[.slice none 0 0, .int .i64 0, .int .i64 0, .slice none 0 0, .int .i64 0] (.tmp 2) _ 46 rfl rfl rfl rfl (by kernel_rfl) rfl rfl ?_); intro wz rz bz)
        | fail)
      have y0 : wz.cell? ⟨w.heap.size, 0, none⟩ = some (.slice none 0 0) := rz.cell 0
      have y1 : wz.cell? ⟨w.heap.size, 1, none⟩ = some (.int .i64 0) := rz.cell 1
      have y2 : wz.cell? ⟨w.heap.size, 2, none⟩ = some (.int .i64 0) := rz.cell 2
      have y3 : wz.cell? ⟨w.heap.size, 3, none⟩ = some (.slice none 0 0) := rz.cell 3
      have y4 : wz.cell? ⟨w.heap.size, 4, none⟩ = some (.int .i64 0) := rz.cell 4
      refine bodyPost_ret (v := .tuple #[.agg #[.slice none 0 0, .int .i64 0, .int .i64 0, .slice none 0 0, .int .i64 0], .int .i64 12]) (by simp [results, Tryz.results23, go_sem, y0, y1, y2, y3, y4]) rfl ?_
      exact HhR.bad HBAD.out (KB.out.trans bz)
  · obtain ⟨n, hn⟩ : ∃ n, E.length = n := ⟨_, rfl⟩
    have EN := Lib.hid hn
    have hn16 : n ≤ 16384 := by omega
    have hbk16 := Lib.hid hbk
    obtain ⟨z0, hz0⟩ : ∃ z, eA E T 0 = z := ⟨_, rfl⟩
    have Z0 := Lib.hid (show (E[0]'hn1x).1 = z0 by rw [← hz0, eA_in hn1x])
    have hz0b : z0 ≤ 1099511627776 := by rw [← Z0.out]; exact (HOK.out 0 hn1x).1
    rw [hz0] at HY H0
    rw [hn] at hbk
    have hn1 : 0 < n := by omega
    have hn1' : ((n : Int) == 0) = false := by simp; omega
    have hn1i : (0 : Int) < n := by omega
    clear hn hz0
    by_cases hz : z0 = 0
    · have hz' : ((z0 : Int) != 0) = false := by simp; omega
      have HY2 := Lib.hid (HY.out hz)
      clear HY H0
      go_enter Tryz.func23, Tryz.ntmps23
      go_wp2_with (first
        | (go_at_call 48; go_must (refine (CH.out _).mono ?_; rintro e w3 ⟨vN, vB, rfl, hk, hN, hE⟩; replace RB := Lib.hid (RB.out.keep hk); replace KB := Lib.hid (KB.out.trans (hk.mono KB.out.size)); have NRN := Lib.hid (fun g (hg : vN.ownBlock = some g) => show w.heap.size < g ∧ g < w3.heap.size from ⟨by have := (KRow.lt hN g hg).1; rw [World.size_alloc] at this; omega, (KRow.lt hN g hg).2⟩); have ERN := Lib.hid (fun g (hg : vB.ownBlock = some g) => show w.heap.size < g ∧ g < w3.heap.size from ⟨by have := (KRow.lt hE g hg).1; rw [World.size_alloc] at this; omega, (KRow.lt hE g hg).2⟩); have NR := Lib.hid (KRow.mono hN (show w.heap.size ≤ (w.alloc _).heap.size by rw [World.size_alloc]; omega)); have ER := Lib.hid (KRow.mono hE (show w.heap.size ≤ (w.alloc _).heap.size by rw [World.size_alloc]; omega)); obtain ⟨nA, nn, nc, rfl, hnn⟩ := KRow.form hN; clear hnn; obtain ⟨vA, vn, vc, rfl, hvn⟩ := KRow.form hE; obtain rfl : vn = n := hvn.trans EN.out; obtain ⟨g, vc', hvv⟩ := KRow.full ER.out (by rw [EN.out]; exact hn1); simp only [Value.slice.injEq] at hvv; obtain ⟨rfl, hgl, rfl⟩ := hvv; clear hvn hgl; have O3 : w.heap.size < w3.heap.size := RB.out.lt; have OG := ERN.out g rfl; have CL := Lib.hid (fun i (hi : i < E.length) => cells3 enC_size ER.out i hi); have HH := Lib.hid (RowAt.new w3 46 #[.slice nA nn nc, .int .i64 R, .int .i64 T, .slice (some ⟨g, 0, none⟩) vn vc, .int .i64 bd]); replace RB := Lib.hid (RB.out.alloc (.cells #[.slice nA nn nc, .int .i64 R, .int .i64 T, .slice (some ⟨g, 0, none⟩) vn vc, .int .i64 bd] 46)); replace NR := Lib.hid (KRow.alloc NR.out (.cells #[.slice nA nn nc, .int .i64 R, .int .i64 T, .slice (some ⟨g, 0, none⟩) vn vc, .int .i64 bd] 46)); replace ER := Lib.hid (KRow.alloc ER.out (.cells #[.slice nA nn nc, .int .i64 R, .int .i64 T, .slice (some ⟨g, 0, none⟩) vn vc, .int .i64 bd] 46)); replace KB := Lib.hid (KB.out.alloc KB.out.size (.cells #[.slice nA nn nc, .int .i64 R, .int .i64 T, .slice (some ⟨g, 0, none⟩) vn vc, .int .i64 bd] 46)); have q0 : w3.cell? ⟨g, 0, none⟩ = some (.int .i64 z0) := by {have := (CL.out 0 (by rw [EN.out]; exact hn1)).1; rw [Nat.zero_mul] at this; rw [this, Z0.out]}; clear hk hN hE CH))
        | fail)
      have OBH : w3.heap.size < w3.heap.size + 1 := Nat.lt_succ_self _
      go_loopw [6, 7] (fun x y wr => ∃ i : Nat, i ≤ vn ∧ x = .int .i64 (szE (E.take i) : Nat) ∧ y = .int .i64 i ∧ Hid (∀ j, j < i → asI E T j) ∧ Hid (RowAt wr w.heap.size 46 #[.slice none 0 0, .int .i64 0, .int .i64 0, .slice none 0 0, .int .i64 0]) ∧ Hid (RowAt wr w3.heap.size 46 #[.slice nA nn nc, .int .i64 R, .int .i64 T, .slice (some ⟨g, 0, none⟩) vn vc, .int .i64 bd]) ∧ Hid (Si.NmRow wr w.heap.size (.slice nA nn nc) N) ∧ Hid (EnRow wr w.heap.size (.slice (some ⟨g, 0, none⟩) vn vc) E) ∧ Hid (Below w.heap.size w wr)) (fun _ y _ => vn - (intOf y).toNat)
      case atStart => exact ⟨0, Nat.zero_le _, rfl, rfl, Lib.hid (fun j hj => absurd hj (by omega)), Lib.hid RB.out, Lib.hid HH.out, Lib.hid NR.out, Lib.hid ER.out, Lib.hid KB.out⟩
      case round =>
        clear RB HH NR ER KB CL q0
        obtain ⟨i, hi, rfl, rfl, HA, RB, HH, NR, ER, KB⟩ := hrel
        by_cases hlt : i < vn
        · have hil : i < E.length := by rw [EN.out]; exact hlt
          obtain ⟨k0, k1, _⟩ := cells3 enC_size ER.out i hil
          have j2 : wr.cell? ⟨w3.heap.size, 2, none⟩ = some (.int .i64 T) := HH.out.cell 2
          have j3 : wr.cell? ⟨w3.heap.size, 3, none⟩ = some (.slice (some ⟨g, 0, none⟩) vn vc) := HH.out.cell 3
          have hok := HOK.out i hil
          have HST := Lib.hid (szE_take E i hil)
          have HSB := Lib.hid (szE_bd (i := i) hbk16.out HOK.out)
          have HIX := Lib.hid (fun (h : ¬ asI E T i) => HI.out i h hil)
          have HAX := Lib.hid (fun (h : asI E T i) => show ∀ j, j < i + 1 → asI E T j from fun j hj => by
            rcases Nat.lt_succ_iff_lt_or_eq.1 hj with e | e
            · exact HA.out j e
            · subst e; exact h)
          have hxe : eA E T i = E[i].1 := eA_in hil
          have hli : (i : Int) < vn := by omega
          have hvi : (vn : Int) ≤ 16384 := by omega
          obtain ⟨S, hS⟩ : ∃ S, szE (E.take i) = S := ⟨_, rfl⟩
          rw [hS] at HST HSB
          rw [hS]
          have hSb : S ≤ 17179869184 := HSB.out
          have hx1 := hok.1
          have hx2 := hok.2.1
          generalize E[i].1 = x at *
          generalize hsz : E[i].2.1 = sz at *
          clear hS hok
          rcases i with _ | i1
          · rw [Nat.zero_mul] at k0 k1
            by_cases hc : x < T
            · have HA2 := Lib.hid (HAX.out ⟨by rw [hxe]; exact hc, fun h => absurd h (by omega)⟩)
              have c1 : ¬ (T : Int) ≤ (x : Int) := by omega
              have c2 : decide ((T : Int) ≤ (x : Int)) = false := decide_eq_false c1
              have c3 : decide (T ≤ x) = false := decide_eq_false (by omega)
              have c4 : ¬ T ≤ x := by omega
              clear HIX HAX hxe hc HI HOK
              go_wp2
              go_big_quiet (fail)
              have e1 : (wr.drewN nq).cell? ⟨g, 1, none⟩ = some (.int .i64 sz) := k1
              have e3 : (wr.drewN nq).cell? ⟨w3.heap.size, 3, none⟩ = some (.slice (some ⟨g, 0, none⟩) vn vc) := j3
              clear k0 k1 j2 j3
              go_wp2
              go_roundw
              case rel => exact ⟨0 + 1, by omega, val_int (by rw [HST.out]; omega), val_int (by omega), HA2, Lib.hid RB.out, Lib.hid HH.out, Lib.hid NR.out, Lib.hid ER.out, Lib.hid (Go.below_drewN KB.out _)⟩
              case measure => simp [intOf]; omega
            · have HBAD := Lib.hid (HIX.out (fun h => hc (by have := h.1; rw [hxe] at this; exact this)))
              have c1 : (T : Int) ≤ (x : Int) := by omega
              have c2 : decide ((T : Int) ≤ (x : Int)) = true := decide_eq_true c1
              have c3 : decide (T ≤ x) = true := decide_eq_true (by omega)
              have c4 : T ≤ x := by omega
              clear HIX HAX hxe hc HI HOK HA
              go_wp2
              go_big_quiet (fail)
              have RBD := Lib.hid (show RowAt (wr.drewN nq) w.heap.size 46 #[.slice none 0 0, .int .i64 0, .int .i64 0, .slice none 0 0, .int .i64 0] from RB.out)
              have KBD := Lib.hid (Go.below_drewN KB.out nq)
              clear RB KB
              have RB := Lib.hid RBD.out
              have KB := Lib.hid KBD.out
              clear RBD KBD k0 k1 j2 j3
              go_wp2_with (first
                | ((with_reducible refine wpList_store_at (B := w.heap.size) RB.out (Nat.le_refl _) #[.slice none 0 0, .int .i64 0, .int .i64 0, .slice none 0 0, .int .i64 0] (.tmp 2) _ 46 rfl rfl rfl rfl (by kernel_rfl) rfl rfl ?_); intro wz rz bz)
                | fail)
              have y0 : wz.cell? ⟨w.heap.size, 0, none⟩ = some (.slice none 0 0) := rz.cell 0
              have y1 : wz.cell? ⟨w.heap.size, 1, none⟩ = some (.int .i64 0) := rz.cell 1
              have y2 : wz.cell? ⟨w.heap.size, 2, none⟩ = some (.int .i64 0) := rz.cell 2
              have y3 : wz.cell? ⟨w.heap.size, 3, none⟩ = some (.slice none 0 0) := rz.cell 3
              have y4 : wz.cell? ⟨w.heap.size, 4, none⟩ = some (.int .i64 0) := rz.cell 4
              refine bodyPost_ret (v := .tuple #[.agg #[.slice none 0 0, .int .i64 0, .int .i64 0, .slice none 0 0, .int .i64 0], .int .i64 12]) (by simp [results, Tryz.results23, go_sem, y0, y1, y2, y3, y4]) rfl ?_
              exact HhR.bad HBAD.out (KB.out.trans bz)
          · obtain ⟨y0', _, _⟩ := cells3 enC_size ER.out i1 (by omega)
            have hye : eA E T i1 = (E[i1]'(by omega)).1 := eA_in (by omega)
            have hy1 := (HOK.out i1 (by omega)).1
            generalize (E[i1]'(by omega)).1 = y at *
            have hi0 : (0 : Int) < ((i1 + 1 : Nat) : Int) := by omega
            have hi1 : ((i1 + 1 : Nat) : Int) - 1 = (i1 : Int) := by omega
            have hi2 : IntKind.i64.wrap (((i1 + 1 : Nat) : Int) - 1) = (i1 : Int) := by rw [hi1]; exact IntWalk.i64_in _ (by omega)
            have hi3 : decide ((0 : Int) < ((i1 + 1 : Nat) : Int)) = true := decide_eq_true hi0
            have hi4 : (i1 : Int) < vn := by omega
            have hi5 : i1 < vn := by omega
            have hi6 : ((i1 + 1 : Nat) : Int) ≤ 16384 := by omega
            have HIP := Lib.hid (show asI E T (i1 + 1) ↔ x < T ∧ y < x by
              unfold asI
              rw [hxe, Nat.add_sub_cancel, hye]
              exact ⟨fun h => ⟨h.1, h.2 (by omega)⟩, fun h => ⟨h.1, fun _ => h.2⟩⟩)
            clear hxe hye
            by_cases hc : x < T
            · have c1 : ¬ (T : Int) ≤ (x : Int) := by omega
              have c2 : decide ((T : Int) ≤ (x : Int)) = false := decide_eq_false c1
              have c3 : decide (T ≤ x) = false := decide_eq_false (by omega)
              have c4 : ¬ T ≤ x := by omega
              by_cases hd : y < x
              · have HA2 := Lib.hid (HAX.out (HIP.out.2 ⟨hc, hd⟩))
                have d1 : ¬ (x : Int) ≤ (y : Int) := by omega
                have d2 : decide ((x : Int) ≤ (y : Int)) = false := decide_eq_false d1
                have d3 : decide (x ≤ y) = false := decide_eq_false (by omega)
                clear HIX HAX HIP hc hd HI HOK
                go_wp2
                go_big_quiet (fail)
                have e1 : (wr.drewN nq).cell? ⟨g, (i1 + 1) * 3 + 1, none⟩ = some (.int .i64 sz) := k1
                have e3 : (wr.drewN nq).cell? ⟨w3.heap.size, 3, none⟩ = some (.slice (some ⟨g, 0, none⟩) vn vc) := j3
                clear k0 k1 j2 j3
                go_wp2
                go_roundw
                case rel => exact ⟨(i1 + 1) + 1, by omega, val_int (by rw [HST.out]; omega), val_int (by omega), HA2, Lib.hid RB.out, Lib.hid HH.out, Lib.hid NR.out, Lib.hid ER.out, Lib.hid (Go.below_drewN KB.out _)⟩
                case measure => simp [intOf]; omega
              · have HBAD := Lib.hid (HIX.out (fun h => hd (HIP.out.1 h).2))
                have d1 : (x : Int) ≤ (y : Int) := by omega
                have d2 : decide ((x : Int) ≤ (y : Int)) = true := decide_eq_true d1
                have d3 : decide (x ≤ y) = true := decide_eq_true (by omega)
                clear HIX HAX HIP hc hd HI HOK HA
                go_wp2
                go_big_quiet (fail)
                have RBD := Lib.hid (show RowAt (wr.drewN nq) w.heap.size 46 #[.slice none 0 0, .int .i64 0, .int .i64 0, .slice none 0 0, .int .i64 0] from RB.out)
                have KBD := Lib.hid (Go.below_drewN KB.out nq)
                clear RB KB
                have RB := Lib.hid RBD.out
                have KB := Lib.hid KBD.out
                clear RBD KBD k0 k1 j2 j3
                go_wp2_with (first
                  | ((with_reducible refine wpList_store_at (B := w.heap.size) RB.out (Nat.le_refl _) #[.slice none 0 0, .int .i64 0, .int .i64 0, .slice none 0 0, .int .i64 0] (.tmp 2) _ 46 rfl rfl rfl rfl (by kernel_rfl) rfl rfl ?_); intro wz rz bz)
                  | fail)
                have y0 : wz.cell? ⟨w.heap.size, 0, none⟩ = some (.slice none 0 0) := rz.cell 0
                have y1 : wz.cell? ⟨w.heap.size, 1, none⟩ = some (.int .i64 0) := rz.cell 1
                have y2 : wz.cell? ⟨w.heap.size, 2, none⟩ = some (.int .i64 0) := rz.cell 2
                have y3 : wz.cell? ⟨w.heap.size, 3, none⟩ = some (.slice none 0 0) := rz.cell 3
                have y4 : wz.cell? ⟨w.heap.size, 4, none⟩ = some (.int .i64 0) := rz.cell 4
                refine bodyPost_ret (v := .tuple #[.agg #[.slice none 0 0, .int .i64 0, .int .i64 0, .slice none 0 0, .int .i64 0], .int .i64 12]) (by simp [results, Tryz.results23, go_sem, y0, y1, y2, y3, y4]) rfl ?_
                exact HhR.bad HBAD.out (KB.out.trans bz)
            · have HBAD := Lib.hid (HIX.out (fun h => hc (HIP.out.1 h).1))
              have c1 : (T : Int) ≤ (x : Int) := by omega
              have c2 : decide ((T : Int) ≤ (x : Int)) = true := decide_eq_true c1
              have c3 : decide (T ≤ x) = true := decide_eq_true (by omega)
              have c4 : T ≤ x := by omega
              clear HIX HAX HIP hc HI HOK HA
              go_wp2
              go_big_quiet (fail)
              have RBD := Lib.hid (show RowAt (wr.drewN nq) w.heap.size 46 #[.slice none 0 0, .int .i64 0, .int .i64 0, .slice none 0 0, .int .i64 0] from RB.out)
              have KBD := Lib.hid (Go.below_drewN KB.out nq)
              clear RB KB
              have RB := Lib.hid RBD.out
              have KB := Lib.hid KBD.out
              clear RBD KBD k0 k1 j2 j3
              go_wp2_with (first
                | ((with_reducible refine wpList_store_at (B := w.heap.size) RB.out (Nat.le_refl _) #[.slice none 0 0, .int .i64 0, .int .i64 0, .slice none 0 0, .int .i64 0] (.tmp 2) _ 46 rfl rfl rfl rfl (by kernel_rfl) rfl rfl ?_); intro wz rz bz)
                | fail)
              have y0 : wz.cell? ⟨w.heap.size, 0, none⟩ = some (.slice none 0 0) := rz.cell 0
              have y1 : wz.cell? ⟨w.heap.size, 1, none⟩ = some (.int .i64 0) := rz.cell 1
              have y2 : wz.cell? ⟨w.heap.size, 2, none⟩ = some (.int .i64 0) := rz.cell 2
              have y3 : wz.cell? ⟨w.heap.size, 3, none⟩ = some (.slice none 0 0) := rz.cell 3
              have y4 : wz.cell? ⟨w.heap.size, 4, none⟩ = some (.int .i64 0) := rz.cell 4
              refine bodyPost_ret (v := .tuple #[.agg #[.slice none 0 0, .int .i64 0, .int .i64 0, .slice none 0 0, .int .i64 0], .int .i64 12]) (by simp [results, Tryz.results23, go_sem, y0, y1, y2, y3, y4]) rfl ?_
              exact HhR.bad HBAD.out (KB.out.trans bz)
        · have hie : i = vn := by omega
          have hte : E.take i = E := List.take_of_length_le (by rw [EN.out]; omega)
          rw [hte]
          have hli : ¬ (i : Int) < vn := by omega
          have HQ := Lib.hid (HY2.out (fun j hj => HA.out j (by rw [hie, ← EN.out]; exact hj)))
          obtain ⟨S, hS⟩ : ∃ S, szE E = S := ⟨_, rfl⟩
          have HSB := Lib.hid (szE_bd (i := E.length) hbk16.out HOK.out)
          rw [List.take_length, hS] at HSB
          have HS := Lib.hid hS
          rw [hS]
          have hSb : S ≤ 17179869184 := HSB.out
          clear hte hie hS HA HI HY2 HOK
          have j0 : wr.cell? ⟨w3.heap.size, 0, none⟩ = some (.slice nA nn nc) := HH.out.cell 0
          have j1 : wr.cell? ⟨w3.heap.size, 1, none⟩ = some (.int .i64 R) := HH.out.cell 1
          have j2 : wr.cell? ⟨w3.heap.size, 2, none⟩ = some (.int .i64 T) := HH.out.cell 2
          have j3 : wr.cell? ⟨w3.heap.size, 3, none⟩ = some (.slice (some ⟨g, 0, none⟩) vn vc) := HH.out.cell 3
          have j4 : wr.cell? ⟨w3.heap.size, 4, none⟩ = some (.int .i64 bd) := HH.out.cell 4
          have hsl := HSL.out
          by_cases d1 : s.size - bd < S
          · have HBAD := Lib.hid (show q = (noH, 5) by rw [HQ.out, if_pos (by rw [HS.out]; omega)])
            have d1i : (s.size : Int) - (bd : Int) < (S : Int) := by omega
            clear d1 hsl
            go_wp2_with (first
              | ((with_reducible refine wpList_store_at (B := w.heap.size) RB.out (Nat.le_refl _) #[.slice none 0 0, .int .i64 0, .int .i64 0, .slice none 0 0, .int .i64 0] (.tmp 2) _ 46 rfl rfl rfl rfl (by kernel_rfl) rfl rfl ?_); intro wz rz bz)
              | fail)
            have y0 : wz.cell? ⟨w.heap.size, 0, none⟩ = some (.slice none 0 0) := rz.cell 0
            have y1 : wz.cell? ⟨w.heap.size, 1, none⟩ = some (.int .i64 0) := rz.cell 1
            have y2 : wz.cell? ⟨w.heap.size, 2, none⟩ = some (.int .i64 0) := rz.cell 2
            have y3 : wz.cell? ⟨w.heap.size, 3, none⟩ = some (.slice none 0 0) := rz.cell 3
            have y4 : wz.cell? ⟨w.heap.size, 4, none⟩ = some (.int .i64 0) := rz.cell 4
            refine bodyPost_ret (v := .tuple #[.agg #[.slice none 0 0, .int .i64 0, .int .i64 0, .slice none 0 0, .int .i64 0], .int .i64 5]) (by simp [results, Tryz.results23, go_sem, y0, y1, y2, y3, y4]) rfl ?_
            exact HhR.bad HBAD.out (KB.out.trans bz)
          · have d1i : ¬ (s.size : Int) - (bd : Int) < (S : Int) := by omega
            have HQ1 := Lib.hid (show q = if szE E < s.data.toList.length - bd then (noH, 4) else ((N, R, T, E, bd), 0) by rw [HQ.out, if_neg (by rw [HS.out]; omega)])
            by_cases d2 : S < s.size - bd
            · have HBAD := Lib.hid (show q = (noH, 4) by rw [HQ1.out, if_pos (by rw [HS.out]; omega)])
              have d2i : (S : Int) < (s.size : Int) - (bd : Int) := by omega
              clear d1 hsl d2
              go_wp2_with (first
                | ((with_reducible refine wpList_store_at (B := w.heap.size) RB.out (Nat.le_refl _) #[.slice none 0 0, .int .i64 0, .int .i64 0, .slice none 0 0, .int .i64 0] (.tmp 2) _ 46 rfl rfl rfl rfl (by kernel_rfl) rfl rfl ?_); intro wz rz bz)
                | fail)
              have y0 : wz.cell? ⟨w.heap.size, 0, none⟩ = some (.slice none 0 0) := rz.cell 0
              have y1 : wz.cell? ⟨w.heap.size, 1, none⟩ = some (.int .i64 0) := rz.cell 1
              have y2 : wz.cell? ⟨w.heap.size, 2, none⟩ = some (.int .i64 0) := rz.cell 2
              have y3 : wz.cell? ⟨w.heap.size, 3, none⟩ = some (.slice none 0 0) := rz.cell 3
              have y4 : wz.cell? ⟨w.heap.size, 4, none⟩ = some (.int .i64 0) := rz.cell 4
              refine bodyPost_ret (v := .tuple #[.agg #[.slice none 0 0, .int .i64 0, .int .i64 0, .slice none 0 0, .int .i64 0], .int .i64 4]) (by simp [results, Tryz.results23, go_sem, y0, y1, y2, y3, y4]) rfl ?_
              exact HhR.bad HBAD.out (KB.out.trans bz)
            · have HQ2 := Lib.hid (show q = ((N, R, T, E, bd), 0) by rw [HQ1.out, if_neg (by rw [HS.out]; omega)])
              have d2i : ¬ (S : Int) < (s.size : Int) - (bd : Int) := by omega
              clear d1 hsl d2
              go_wp2_with (first
                | ((with_reducible refine wpList_store_kp RB.out #[.slice nA nn nc, .int .i64 R, .int .i64 T, .slice (some ⟨g, 0, none⟩) vn vc, .int .i64 bd] (.tmp 2) _ 46 rfl rfl rfl rfl (by kernel_rfl) rfl rfl ?_); intro wz rz bz)
                | fail)
              have y0 : wz.cell? ⟨w.heap.size, 0, none⟩ = some (.slice nA nn nc) := rz.cell 0
              have y1 : wz.cell? ⟨w.heap.size, 1, none⟩ = some (.int .i64 R) := rz.cell 1
              have y2 : wz.cell? ⟨w.heap.size, 2, none⟩ = some (.int .i64 T) := rz.cell 2
              have y3 : wz.cell? ⟨w.heap.size, 3, none⟩ = some (.slice (some ⟨g, 0, none⟩) vn vc) := rz.cell 3
              have y4 : wz.cell? ⟨w.heap.size, 4, none⟩ = some (.int .i64 bd) := rz.cell 4
              refine bodyPost_ret (v := .tuple #[.agg #[.slice nA nn nc, .int .i64 R, .int .i64 T, .slice (some ⟨g, 0, none⟩) vn vc, .int .i64 bd], .int .i64 0]) (by simp [results, Tryz.results23, go_sem, y0, y1, y2, y3, y4]) rfl ?_
              rw [HQ2.out]
              exact ⟨_, _, rfl, KB.out.trans (bz.below (B := w.heap.size) (by simp) KB.out.size), KRow.kp NR.out bz (fun g hg hm => by simp at hm; subst hm; have := NRN.out _ hg; omega), KRow.kp ER.out bz (fun g hg hm => by simp at hm; subst hm; have := ERN.out _ hg; omega)⟩
    · have HBAD := Lib.hid (H0.out hz)
      have hz' : ((z0 : Int) != 0) = true := by simp; omega
      clear HI HY H0 HOK
      go_enter Tryz.func23, Tryz.ntmps23
      go_wp2_with (first
        | (go_at_call 48; go_must (refine (CH.out _).mono ?_; rintro e w3 ⟨vN, vB, rfl, hk, hN, hE⟩; replace RB := Lib.hid (RB.out.keep hk); replace KB := Lib.hid (KB.out.trans (hk.mono KB.out.size)); have NRN := Lib.hid (fun g (hg : vN.ownBlock = some g) => show w.heap.size < g ∧ g < w3.heap.size from ⟨by have := (KRow.lt hN g hg).1; rw [World.size_alloc] at this; omega, (KRow.lt hN g hg).2⟩); have ERN := Lib.hid (fun g (hg : vB.ownBlock = some g) => show w.heap.size < g ∧ g < w3.heap.size from ⟨by have := (KRow.lt hE g hg).1; rw [World.size_alloc] at this; omega, (KRow.lt hE g hg).2⟩); have NR := Lib.hid (KRow.mono hN (show w.heap.size ≤ (w.alloc _).heap.size by rw [World.size_alloc]; omega)); have ER := Lib.hid (KRow.mono hE (show w.heap.size ≤ (w.alloc _).heap.size by rw [World.size_alloc]; omega)); obtain ⟨nA, nn, nc, rfl, hnn⟩ := KRow.form hN; clear hnn; obtain ⟨vA, vn, vc, rfl, hvn⟩ := KRow.form hE; obtain rfl : vn = n := hvn.trans EN.out; obtain ⟨g, vc', hvv⟩ := KRow.full ER.out (by rw [EN.out]; exact hn1); simp only [Value.slice.injEq] at hvv; obtain ⟨rfl, hgl, rfl⟩ := hvv; clear hvn hgl; have O3 : w.heap.size < w3.heap.size := RB.out.lt; have OG := ERN.out g rfl; have CL := Lib.hid (fun i (hi : i < E.length) => cells3 enC_size ER.out i hi); have HH := Lib.hid (RowAt.new w3 46 #[.slice nA nn nc, .int .i64 R, .int .i64 T, .slice (some ⟨g, 0, none⟩) vn vc, .int .i64 bd]); replace RB := Lib.hid (RB.out.alloc (.cells #[.slice nA nn nc, .int .i64 R, .int .i64 T, .slice (some ⟨g, 0, none⟩) vn vc, .int .i64 bd] 46)); replace NR := Lib.hid (KRow.alloc NR.out (.cells #[.slice nA nn nc, .int .i64 R, .int .i64 T, .slice (some ⟨g, 0, none⟩) vn vc, .int .i64 bd] 46)); replace ER := Lib.hid (KRow.alloc ER.out (.cells #[.slice nA nn nc, .int .i64 R, .int .i64 T, .slice (some ⟨g, 0, none⟩) vn vc, .int .i64 bd] 46)); replace KB := Lib.hid (KB.out.alloc KB.out.size (.cells #[.slice nA nn nc, .int .i64 R, .int .i64 T, .slice (some ⟨g, 0, none⟩) vn vc, .int .i64 bd] 46)); have q0 : w3.cell? ⟨g, 0, none⟩ = some (.int .i64 z0) := by {have := (CL.out 0 (by rw [EN.out]; exact hn1)).1; rw [Nat.zero_mul] at this; rw [this, Z0.out]}; clear hk hN hE CH))
        | ((with_reducible refine wpList_store_at (B := w.heap.size) RB.out (Nat.le_refl _) #[.slice none 0 0, .int .i64 0, .int .i64 0, .slice none 0 0, .int .i64 0] (.tmp 2) _ 46 rfl rfl rfl rfl (by kernel_rfl) rfl rfl ?_); intro wz rz bz)
        | fail)
      have y0 : wz.cell? ⟨w.heap.size, 0, none⟩ = some (.slice none 0 0) := rz.cell 0
      have y1 : wz.cell? ⟨w.heap.size, 1, none⟩ = some (.int .i64 0) := rz.cell 1
      have y2 : wz.cell? ⟨w.heap.size, 2, none⟩ = some (.int .i64 0) := rz.cell 2
      have y3 : wz.cell? ⟨w.heap.size, 3, none⟩ = some (.slice none 0 0) := rz.cell 3
      have y4 : wz.cell? ⟨w.heap.size, 4, none⟩ = some (.int .i64 0) := rz.cell 4
      refine bodyPost_ret (v := .tuple #[.agg #[.slice none 0 0, .int .i64 0, .int .i64 0, .slice none 0 0, .int .i64 0], .int .i64 12]) (by simp [results, Tryz.results23, go_sem, y0, y1, y2, y3, y4]) rfl ?_
      exact HhR.bad HBAD.out (KB.out.trans bz)

end Go.Proofs.YtillcmddbjhepaaGreatDoor
