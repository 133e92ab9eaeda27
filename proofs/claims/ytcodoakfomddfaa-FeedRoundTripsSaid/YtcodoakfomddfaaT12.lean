/-
  The walk of the specification's Levels.
-/
import Derived.Test.YtcodoakfomddfaaR2
import Derived.Test.YtcodoakfomddfaaK1
namespace Go.Proofs.Ytcodoakfomddfaa
open Go Go.RowKit Go.Joins
set_option linter.unusedVariables false
set_option linter.unusedSimpArgs false

theorem held_lev {w2 W W' : World} {b g p : Nat} {x y u : Value} (hb2 : b < w2.heap.size) (hg2 : g < w2.heap.size) (h : W.cell? ⟨b, 0, none⟩ = some x ∧ W.cell? ⟨b, 1, none⟩ = some y ∧ W.cell? ⟨g, p, none⟩ = some u ∧ Below w2.heap.size w2 W) (hb : Below w2.heap.size W W') : W'.cell? ⟨b, 0, none⟩ = some x ∧ W'.cell? ⟨b, 1, none⟩ = some y ∧ W'.cell? ⟨g, p, none⟩ = some u ∧ Below w2.heap.size w2 W' := by
  obtain ⟨a, c, d, B⟩ := h
  exact ⟨(hb.cell (p := ⟨b, 0, none⟩) hb2).trans a, (hb.cell (p := ⟨b, 1, none⟩) hb2).trans c, (hb.cell (p := ⟨g, p, none⟩) hg2).trans d, B.trans hb⟩
theorem held_levB {w2 W : World} {b g p : Nat} {x y u : Value} (h : W.cell? ⟨b, 0, none⟩ = some x ∧ W.cell? ⟨b, 1, none⟩ = some y ∧ W.cell? ⟨g, p, none⟩ = some u ∧ Below w2.heap.size w2 W) : Below w2.heap.size w2 W := h.2.2.2
theorem plN_snoc {N names : List ByteArray} {j : Nat} (hj : j < names.length) : plN N (names.take (j + 1)) = plN N (names.take j) ++ [(ix N names[j]).toNat] := by
  unfold plN
  rw [List.take_succ_eq_append_getElem hj, List.map_append]
  rfl

set_option maxRecDepth 20000 in
set_option maxHeartbeats 8000000 in
theorem refLevels_any (N : List ByteArray) (R : List Rn) (names : List ByteArray) (vN vR vM : Value) (w : World) (hN : NmArg w vN N) (hs : szs N) (hR : RnArg w vR R) (hM : NmArg w vM names) (hn : R.length ≤ 8796093022208) (hm : names.length ≤ 8796093022208) :
    Calls Try.prog 10 #[.agg #[vN, vR], vM] w fun e w' => ∃ v : Value, e = .returned (.tuple #[v, .int .i64 (leE N R names)]) ∧ EvRow w' w.heap.size v (leL N R names) ∧ Below w.heap.size w w' := by
  have HN := Lib.hid (fun W (hb : Below w.heap.size w W) => hN.keep hb)
  have HM := Lib.hid (fun W (hb : Below w.heap.size w W) => hM.keep hb)
  have HRR := Lib.hid (fun W (hb : Below w.heap.size w W) => hR.keep hb)
  have hb0 := ba w (.cells #[vN, vR] 25)
  have CK := Lib.hid (rcheck_any N R vN vR (w.alloc (.cells #[vN, vR] 25)) (HN.out _ hb0) hs (HRR.out _ hb0) hn)
  obtain ⟨nA, nc, rfl, _, _⟩ := hN.form
  obtain ⟨rA, rc, rfl, hA⟩ := hR
  obtain ⟨mA, mc, rfl, _, hMA⟩ := hM.form
  have HA := Lib.hid hA
  have HMA := Lib.hid hMA
  clear hA hN hM hMA
  have hE : leE N R names = if ckC N R = 0 then (chA N names).1 else ckC N R := rfl
  have hL : leL N R names = if ckC N R = 0 ∧ (chA N names).1 = 0 then leN R (chA N names).2 R.length else [] := rfl
  generalize leE N R names = RE at *
  generalize leL N R names = RL at *
  by_cases hck : ckC N R = 0
  case neg =>
    rw [if_neg hck] at hE
    rw [if_neg (fun h => hck h.1)] at hL
    subst hE hL
    have hne : (ckC N R == 0) = false := by simpa using hck
    generalize ckC N R = E at *
    go_enter Try.func10, Try.ntmps10
    go_wp2_with (first
      | (go_at_call 26; go_must (refine CK.out.mono ?_; rintro e1 w1 ⟨rfl, b1⟩; have h1 := box_two b1; have B1 := Lib.hid (hb0.trans (b1.mono hb0.size)))))
    go_returns
    exact ⟨_, rfl, KRow.nil _ _, B1.out⟩
  rw [if_pos hck] at hE
  have hl := fun j hj => lev_at hck j hj
  obtain ⟨k1, k2, k3, k4, k5, k6⟩ := ckC_ok hck
  have HL := Lib.hid hl
  clear hl
  rw [hck] at CK
  by_cases hz : names.length = 0
  · have hch : chA N names = (1, []) := by unfold chA; rw [if_pos hz]
    rw [hch] at hE hL
    rw [if_neg (by simp)] at hL
    subst hE hL
    have hz' : ((names.length : Int) == 0) = true := by simpa using hz
    clear HL
    go_enter Try.func10, Try.ntmps10
    go_wp2_with (first
      | (go_at_call 26; go_must (refine CK.out.mono ?_; rintro e1 w1 ⟨rfl, b1⟩; have h1 := box_two b1; have B1 := Lib.hid (hb0.trans (b1.mono hb0.size)); obtain ⟨c0, c1⟩ := h1)))
    go_returns
    exact ⟨_, rfl, KRow.nil _ _, B1.out⟩
  have hz' : ((names.length : Int) == 0) = false := by simpa using hz
  have hchA : chA N names = chF N [] names := by unfold chA; rw [if_neg hz]
  have hok := chA_ok (N := N) (names := names)
  have HCH := Lib.hid hchA
  have HE := Lib.hid hE; have HLL := Lib.hid hL; have HOK := Lib.hid hok
  clear hE hL hok hchA
  have hsz : w.heap.size < (w.alloc (.cells #[.slice nA N.length nc, .slice rA R.length rc] 25)).heap.size := by rw [World.size_alloc]; omega
  go_enter Try.func10, Try.ntmps10
  go_wp2_with (first
    | (go_at_call 26; go_must (refine CK.out.mono ?_; rintro e1 W0 ⟨rfl, b1⟩; have h1 := box_two b1; have B1 := Lib.hid (hb0.trans (b1.mono hb0.size)); obtain ⟨c0, c1⟩ := h1; have hszW := Nat.lt_of_lt_of_le hsz b1.size)))
  go_loopw [7] (fun i wr => ∃ j : Nat, j ≤ names.length ∧ i = .int .i64 j ∧ Hid (chA N names = chF N (plN N (names.take j)) (names.drop j)) ∧ Hid (∀ s ∈ names.take j, 0 ≤ ix N s) ∧ Hid (Below W0.heap.size W0 wr)) (fun i _ => names.length - (intOf i).toNat)
  case atStart => exact ⟨0, Nat.zero_le _, rfl, Lib.hid (by rw [HCH.out]; rfl), Lib.hid (by simp), Lib.hid (Below.refl _ _)⟩
  case round =>
    obtain ⟨j, hj, rfl, HC, HAl, HB⟩ := hrel
    have hb := HB.out
    have hbw := B1.out.trans (hb.mono B1.out.size)
    have d0 := (hb.cell (p := ⟨w.heap.size, 0, none⟩) hszW).trans c0
    have d1 := (hb.cell (p := ⟨w.heap.size, 1, none⟩) hszW).trans c1
    by_cases hjl : j < names.length
    · obtain ⟨g, o, rfl, hg, hcell⟩ := HMA.out (by omega)
      have f0 := (hbw.cell (p := ⟨g, o + j, none⟩) hg).trans (hcell j hjl)
      have HF := Lib.hid (HC.out.trans (chF_at hjl))
      have HP := Lib.hid (plN_snoc (N := N) hjl)
      have HT := Lib.hid (fun h => twice_iff (N := N) hjl h HAl.out)
      have HA2 : Hid (0 ≤ ix N names[j] → ∀ s ∈ names.take (j + 1), 0 ≤ ix N s) := Lib.hid fun h s hs => by
        rw [List.take_succ_eq_append_getElem hjl] at hs
        rcases List.mem_append.1 hs with h1 | h1
        · exact HAl.out s h1
        · simp only [List.mem_singleton] at h1; rw [h1]; exact h
      have CN := Lib.hid (fun W (hB : Below W0.heap.size W0 W) => refPlace_any N _ names[j] W (HN.out W (B1.out.trans (hB.mono B1.out.size))) (by omega))
      have CM := Lib.hid (fun W (hB : Below W0.heap.size W0 W) => refPlace_any names _ names[j] W (HM.out W (B1.out.trans (hB.mono B1.out.size))) hm)
      have hlt : g < wr.heap.size := Nat.lt_of_lt_of_le hg hbw.size
      have hlt0 : w.heap.size < wr.heap.size := Nat.lt_of_lt_of_le hszW hb.size
      have hs9 : Hid (wr.cell? ⟨w.heap.size, 0, none⟩ = some (.slice nA N.length nc) ∧ wr.cell? ⟨g, o + j, none⟩ = some (.string names[j]) ∧ Below W0.heap.size W0 wr ∧ w.heap.size < wr.heap.size ∧ g < wr.heap.size) := Lib.hid ⟨d0, f0, hb, hlt0, hlt⟩
      clear hcell d0 f0 d1
      generalize names[j] = s at *
      generalize ix N s = x at *
      generalize ix names s = y at *
      by_cases hx : x < 0
      · have hR : chA N names = (8, []) := by rw [HF.out, if_pos hx]
        rw [hR] at HE HLL
        obtain rfl : RE = 8 := HE.out
        obtain rfl : RL = [] := by rw [HLL.out, if_neg (by simp)]
        clear HF HC HE HLL HOK HCH HT HA2 HP HL
        go_wp2
        go_region_held3 (fun w' => w'.cell? ⟨w.heap.size, 0, none⟩ = some (.slice nA N.length nc) ∧ w'.cell? ⟨g, o + j, none⟩ = some (.string s) ∧ Below W0.heap.size W0 w' ∧ w.heap.size < w'.heap.size ∧ g < w'.heap.size) (first | assumption | exact held_val hs9.out (Below.refl _ _).drew | exact held_val (by assumption) (Below.refl _ _).drew | fail)
          (first
            | (go_at_call 27; refine (CN.out _ (held_valB (w := w) (W0 := W0) (g := g) (o := o) (j := j) (s := s) (vN := .slice nA N.length nc) (by assumption))).mono ?_; rintro e5 w5 ⟨rfl, rfl⟩))
        rename_i hS9
        have hB9 := Lib.hid hS9.2.2.1
        clear hS9
        go_wp2
        go_returns
        exact ⟨_, rfl, KRow.nil _ _, B1.out.trans (hB9.out.mono B1.out.size)⟩
      · have HT2 := HT.out (by omega)
        by_cases hy : y < j
        · have hR : chA N names = (9, []) := by rw [HF.out, if_neg hx, if_pos (HT2.2 hy)]
          rw [hR] at HE HLL
          obtain rfl : RE = 9 := HE.out
          obtain rfl : RL = [] := by rw [HLL.out, if_neg (by simp)]
          clear HF HC HE HLL HOK HCH HT HA2 HP HL HT2
          go_wp2
          go_region_held3 (fun w' => w'.cell? ⟨w.heap.size, 0, none⟩ = some (.slice nA N.length nc) ∧ w'.cell? ⟨g, o + j, none⟩ = some (.string s) ∧ Below W0.heap.size W0 w' ∧ w.heap.size < w'.heap.size ∧ g < w'.heap.size) (first | assumption | exact held_val hs9.out (Below.refl _ _).drew | exact held_val (by assumption) (Below.refl _ _).drew | fail)
            (first
              | (go_at_call 27; refine (CN.out _ (held_valB (w := w) (W0 := W0) (g := g) (o := o) (j := j) (s := s) (vN := .slice nA N.length nc) (by assumption))).mono ?_; rintro e5 w5 ⟨rfl, rfl⟩))
          rename_i hS9
          obtain ⟨q0, q1, q2, q3, q4⟩ := hS9
          go_wp2_with (first
            | (go_at_call 27; go_must (refine (CM.out _ q2).mono ?_; rintro e6 w6 ⟨rfl, rfl⟩)))
          go_returns
          exact ⟨_, rfl, KRow.nil _ _, B1.out.trans (q2.mono B1.out.size)⟩
        · have HR : Hid (chA N names = chF N (plN N (names.take (j + 1))) (names.drop (j + 1))) := Lib.hid (by rw [HF.out, if_neg hx, if_neg (fun h => hy (HT2.1 h)), HP.out])
          have HA3 := Lib.hid (HA2.out (by omega))
          clear HF HC HT HA2 HP HT2
          go_wp2
          go_region_held3 (fun w' => w'.cell? ⟨w.heap.size, 0, none⟩ = some (.slice nA N.length nc) ∧ w'.cell? ⟨g, o + j, none⟩ = some (.string s) ∧ Below W0.heap.size W0 w' ∧ w.heap.size < w'.heap.size ∧ g < w'.heap.size) (first | assumption | exact held_val hs9.out (Below.refl _ _).drew | exact held_val (by assumption) (Below.refl _ _).drew | fail)
            (first
              | (go_at_call 27; refine (CN.out _ (held_valB (w := w) (W0 := W0) (g := g) (o := o) (j := j) (s := s) (vN := .slice nA N.length nc) (by assumption))).mono ?_; rintro e5 w5 ⟨rfl, rfl⟩))
          rename_i hS9
          obtain ⟨q0, q1, q2, q3, q4⟩ := hS9
          go_wp2_with (first
            | (go_at_call 27; go_must (refine (CM.out _ q2).mono ?_; rintro e6 w6 ⟨rfl, rfl⟩)))
          go_roundw
          case rel => exact ⟨j + 1, by omega, val_int (by omega), HR, HA3, Lib.hid q2⟩
          case measure => simp [intOf]; omega
    · have hd : names.drop j = [] := List.drop_of_length_le (by omega)
      have ht : names.take j = names := List.take_of_length_le (by omega)
      have hR : chA N names = (0, plN N names) := by rw [HC.out, hd, ht]; rfl
      rw [ht] at HAl
      rw [hR] at HE HLL HOK
      obtain rfl : RE = 0 := HE.out
      rw [if_pos ⟨hck, rfl⟩] at HLL
      obtain ⟨q1, q2⟩ := HOK.out rfl
      clear HC HE HOK HCH hd ht hR
      have hpl : (plN N names).length = names.length := by simp [plN]
      have hm16 : names.length ≤ 16 := by simp only at q1; omega
      have hpr : ∀ s ∈ names, 0 ≤ ix N s ∧ ix N s < 16 := fun s hs => by have h1 := HAl.out s hs; have := ix_range N s; omega
      have CV := Lib.hid (fun (L : Nat) W (hL : L ≤ 65535) (hB : Below w.heap.size w W) => refValue_any L N names (.slice nA N.length nc) (.slice rA R.length rc) _ W hL (HN.out W hB) rfl (HM.out W hB) k4 hm16 hpr)
      clear hpr hpl
      have hlt3 := Nat.lt_of_lt_of_le hszW hb.size
      have hbase := Lib.hid hbw
      clear q2 HAl
      obtain ⟨w3, hw3⟩ : ∃ x, x = wr := ⟨_, rfl⟩
      subst hw3
      clear hb HB
      go_wp2_with (first
        | (at_make; go_must (refine wpList_room_k (n := R.length) (enc := evC) Try.underlying26 ev_info rfl _ _ rfl rfl rfl rfl (by omega) (by omega) (Nat.le_refl _) ?_; intro w4 R4 b4; have HR4 := Lib.hid R4; have HB4 := Lib.hid b4; clear R4 b4)))
      generalize plN N names = C at *
      go_loopw [10, 8, 9] (fun i r s wx => ∃ j : Nat, j ≤ R.length ∧ i = .int .i64 j ∧ s = .int .i64 (lg (R.take j)) ∧ Hid (EvRow wx w3.heap.size r (leN R C j)) ∧ Hid (Below w3.heap.size w3 wx)) (fun i _ _ _ => R.length - (intOf i).toNat)
      case atStart => exact ⟨0, Nat.zero_le _, rfl, rfl, Lib.hid HR4.out, Lib.hid HB4.out⟩
      case round =>
        obtain ⟨j, hj, rfl, rfl, HR, HB⟩ := hrel
        have hb := HB.out
        have hbw := hbase.out.trans (hb.mono hbase.out.size)
        have e0 := (hb.cell (p := ⟨w.heap.size, 0, none⟩) hlt3).trans d0
        have e1 := (hb.cell (p := ⟨w.heap.size, 1, none⟩) hlt3).trans d1
        by_cases hjl : j < R.length
        · obtain ⟨g, o, rfl, hg, hc⟩ := HA.out (by omega)
          obtain ⟨a0, a1⟩ := arg_two hc j hjl
          have f0 := (hbw.cell (p := ⟨g, o + j * 2, none⟩) hg).trans a0
          have f1 := (hbw.cell (p := ⟨g, o + j * 2 + 1, none⟩) hg).trans a1
          have hg3 : g < w3.heap.size := Nat.lt_of_lt_of_le hg hbase.out.size
          clear a0 a1 hc
          obtain ⟨t1, t2, t3, t4, t5⟩ := HL.out j hjl
          have HSu := Lib.hid (leN_succ C hjl)
          have htk := Lib.hid (lg_take R j hjl)
          obtain ⟨n, hn0⟩ : ∃ n : Nat, R[j].1 = n := ⟨R[j].1.toNat, by omega⟩
          rw [hn0] at f0 HSu t1 t2
          generalize R[j].2 = D at *
          generalize lg (R.take j) = B at *
          clear hn0
          have hs0 : Hid (wr.cell? ⟨w.heap.size, 0, none⟩ = some (.slice nA N.length nc) ∧ wr.cell? ⟨w.heap.size, 1, none⟩ = some (.slice (some ⟨g, o, none⟩) R.length rc) ∧ wr.cell? ⟨g, o + j * 2, none⟩ = some (.int .i64 n) ∧ Below w3.heap.size w3 wr) := Lib.hid ⟨e0, e1, f0, hb⟩
          have hB3 := hb.size
          have hq1 : (leN R C j).length + 1 ≤ 140737488355328 := by rw [leN_len]; omega
          have hq2 : ((leN R C j).length + 1) * 64 ≤ 140737488355328 := by rw [leN_len]; omega
          go_wp2
          go_region_held3 (fun w' => w'.cell? ⟨w.heap.size, 0, none⟩ = some (.slice nA N.length nc) ∧ w'.cell? ⟨w.heap.size, 1, none⟩ = some (.slice (some ⟨g, o, none⟩) R.length rc) ∧ w'.cell? ⟨g, o + j * 2, none⟩ = some (.int .i64 n) ∧ Below w3.heap.size w3 w') (first | assumption | exact held_lev hlt3 hg3 hs0.out (Below.refl _ _).drew | exact held_lev hlt3 hg3 (by assumption) (Below.refl _ _).drew | exact held_lev hlt3 hg3 (by assumption) ((ba _ _).mono (Below.size (held_levB (b := w.heap.size) (g := g) (p := o + j * 2) (x := .slice nA N.length nc) (y := .slice (some ⟨g, o, none⟩) R.length rc) (u := .int .i64 n) (by assumption)))) | fail)
            (first
              | (go_at_call 28; refine (CV.out n _ (by omega) (hbase.out.trans ((held_levB (b := w.heap.size) (g := g) (p := o + j * 2) (x := .slice nA N.length nc) (y := .slice (some ⟨g, o, none⟩) R.length rc) (u := .int .i64 n) (by assumption)).mono hbase.out.size))).mono ?_; rintro e5 w5 ⟨rfl, b5⟩; have h5 := held_lev hlt3 hg3 (by assumption) (b5.mono hB3); have R5 := Lib.hid (HR.out.keep ((Below.refl _ wr).drew.trans b5)))
              | (refine step_append_ks Try.underlying26 ev_info rfl (by omega) evC_size rfl _ _ rfl rfl rfl rfl R5.out (Below.size h5.2.2.2) [⟨1, B, B + D, sb C n, 0, (⟨#[]⟩ : ByteArray).data.toList, 0⟩] rfl (by omega) rfl rfl hq1 hq2 ?_; intro v6 w6 R6 b6; have h6 := held_lev hlt3 hg3 h5 b6)
              | fail)
          rename_i hS9
          have hB9 := Lib.hid hS9.2.2.2
          clear hS9
          go_wp2
          go_roundw
          case rel => exact ⟨j + 1, by omega, val_int (by omega), val_int (by rw [htk.out]), Lib.hid (by rw [HSu.out]; exact R6), hB9⟩
          case measure => simp [intOf]; omega
        · have he : j = R.length := by omega
          subst he
          rw [← HLL.out] at HR
          go_wp2
          go_returns
          exact ⟨_, rfl, HR.out.mono hbase.out.size, hbw⟩

end Go.Proofs.Ytcodoakfomddfaa
