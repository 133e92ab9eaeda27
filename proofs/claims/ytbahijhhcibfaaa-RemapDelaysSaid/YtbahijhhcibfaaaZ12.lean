/-
  advanced.
  Same.
-/
import Derived.Test.YtbahijhhcibfaaaZ11
import Derived.Test.YtbahijhhcibfaaaZ10
import Derived.Deep.RegionHeld3
namespace Go.Proofs.Ytbahijhhcibfaaa
open Go Go.RowKit Go.Joins
set_option linter.unusedVariables false
set_option linter.unusedSimpArgs false

theorem mxZ_at {d : Int} {ws : List (List Rn)} {G Z : List Ps} (h : G.length = ws.length) {k : Nat} (hk : k < ws.length) (hm : k < (mx d ws G k ++ Z).length) : (mx d ws G k ++ Z)[k] = G[k]'(by omega) := by
  have hl := mx_len d ws G h.symm k (by omega)
  rw [List.getElem_append_left (by omega)]
  exact mx_at d ws G h.symm k hk (by omega)
theorem mxZ_set {d : Int} {ws : List (List Rn)} {G Z : List Ps} (h : G.length = ws.length) {k : Nat} (hk : k < ws.length) : (mx d ws G k ++ Z).set k (av ws[k] d (G[k]'(by omega))) = mx d ws G (k + 1) ++ Z := by
  have hl := mx_len d ws G h.symm k (by omega)
  rw [List.set_append_left _ _ (by omega), mx_set d ws G h.symm k hk]
def zero16 : List Ps := List.replicate 16 (0, 0)
theorem pos_info : (Try.prog.info? 98).map (·.size) = some 32 := by kernel_rfl

set_option maxRecDepth 20000 in
set_option maxHeartbeats 8000000 in
theorem advanced_any (ws : List (List Rn)) (V : Value) (T t d : Int) (G Z : List Ps) (w : World) (hT : WvArg w V ws) (hw : Wv ws T) (hn0 : 0 < ws.length) (hn : ws.length ≤ 16) (hG : Pa ws t G) (hZ : (G ++ Z).length = 16) (ht : t < T) (hd1 : 1 ≤ d) (hd : ∀ i (hi : i < ws.length) (hG : i < G.length), d ≤ rm ws[i] G[i]) :
    Calls Try.prog 81 #[V, .agg (kArr rnC (G ++ Z)), .int .i64 d] w fun e w' => e = .returned (.agg (kArr rnC (zw d ws G ++ Z))) ∧ Below w.heap.size w w' := by
  obtain ⟨A, c, rfl, hA⟩ := hT.form
  have HA := Lib.hid hA
  have HW := Lib.hid hw
  have HPa := Lib.hid hG
  have hGl := hG.1
  have HD := Lib.hid hd
  have hn' : (ws.length : Int) ≤ 16 := by omega
  have HZ := Lib.hid (show ∀ k, k ≤ ws.length → (mx d ws G k ++ Z).length = 16 by
    intro k hk
    rw [List.length_append, mx_len d ws G hGl.symm k hk, ← List.length_append]; exact hZ)
  have HMa := Lib.hid (show mx d ws G ws.length = zw d ws G from mx_all d ws G hGl.symm)
  have P1 := (RowAt.new w 98 (kArr rnC (G ++ Z))).alloc (.cells (kArr rnC zero16) 98)
  have P2 := RowAt.new (w.alloc (.cells (kArr rnC (G ++ Z)) 98)) 98 (kArr rnC zero16)
  rw [World.size_alloc] at P2
  have HP1 := Lib.hid P1; have HP2 := Lib.hid P2
  have HB0 := Lib.hid ((ba w (.cells (kArr rnC (G ++ Z)) 98)).alloc (by rw [World.size_alloc]; omega) (.cells (kArr rnC zero16) 98))
  clear hA hT hw hG hd P1 P2
  go_enter Try.func81, Try.ntmps81
  go_wp2
  go_loopw [11] (fun i wr => ∃ (k : Nat), k ≤ ws.length ∧ i = .int .i64 k ∧ Hid (RowAt wr w.heap.size 98 (kArr rnC (mx d ws G k ++ Z))) ∧ Hid (RowAt wr (w.heap.size + 1) 98 (kArr rnC zero16)) ∧ Hid (Below w.heap.size w wr)) (fun i _ => ws.length - (intOf i).toNat)
  case atStart => exact ⟨0, Nat.zero_le _, rfl, Lib.hid (by rw [mx_zero]; exact HP1.out), HP2, HB0⟩
  case round =>
    obtain ⟨k, hk, rfl, H1, H2, HB⟩ := hrel
    have hb := HB.out
    by_cases hkl : k < ws.length
    · obtain ⟨g, o, rfl, hg, hcell⟩ := HA.out (by omega)
      obtain ⟨B, b2, hc1, hc2⟩ := hcell k hkl
      have hkG : k < G.length := by omega
      have hL := HZ.out k hk
      obtain ⟨p0, p1, z0, z1⟩ := posAt H1.out k (by omega)
      have hset := mxZ_set (d := d) (Z := Z) hGl hkl
      have hat := mxZ_at (d := d) (Z := Z) hGl hkl (by omega)
      rw [hat] at p0 p1
      obtain ⟨j, hj, e1, e2, e3, e4⟩ := Pz_in (HPa.out.2 k hkl hkG) (by rw [(HW.out k hkl).2.2]; exact ht)
      obtain ⟨B2, d2, he, hrr⟩ := hc2
      simp only [Value.slice.injEq] at he
      obtain ⟨rfl, _, rfl⟩ := he
      obtain ⟨g2, o2, rfl, hg2, hc3⟩ := hrr (by omega)
      obtain ⟨a0, a1⟩ := arg_two hc3 j hj
      have f0 := (hb.cell (p := ⟨g, o + k, none⟩) hg).trans hc1
      have f2 := (hb.cell (p := ⟨g2, o2 + j * 2 + 1, none⟩) hg2).trans a1
      have hx := (el_range (HW.out k hkl).2.1 j hj).2
      have hlen := (HW.out k hkl).1
      have hrm := HD.out k hkl hkG
      have hgd : ws[k].getD G[k].1.toNat (0, 0) = ws[k][j] := by rw [e1]; simp [hj]
      unfold rm at hrm
      unfold av at hset
      rw [hgd] at hrm hset
      rw [e1] at p0 hset
      have hjl : (j : Int) < ws[k].length := by omega
      have hk16 : (k : Int) < 16 := by omega
      have hs1 := H1.out.lt
      have hs2 := H2.out.lt
      have S1 := Lib.hid (fun (y : Int) => kArr_set rnC_size H1.out k 1 (by omega) (by omega) (.int .i64 y) (G[k].1, y) (by rw [hat]; rfl))
      have S2 := Lib.hid (fun (v : Value) => H2.out.other ⟨w.heap.size, k * 2 + 1, none⟩ v (by show w.heap.size ≠ _; omega))
      have S3 := Lib.hid (fun (v : Value) => show Below w.heap.size w (wr.setCell ⟨w.heap.size, k * 2 + 1, none⟩ v) from Below.setCell hb (Nat.le_refl _) v)
      rw [e1] at S1
      clear hcell hc1 hrr hc3 a0 a1 hgd hat e1 e2
      generalize hy : ws[k][j].2 = x1 at *
      clear hy
      generalize G[k].2 = Q at *
      generalize ws[k].length = nk at *
      have hqd : Q + d ≤ 1099511627776 := by omega
      have HFC := Lib.hid (fun w' (hb' : Below w.heap.size w w') => (hb'.cell (p := ⟨g2, o2 + j * 2 + 1, none⟩) hg2).trans ((hb.cell (p := ⟨g2, o2 + j * 2 + 1, none⟩) hg2).symm.trans f2))
      have hLk := hL
      go_wp2
      have r1 := Lib.hid (S1.out (Q + d)); have r2 := Lib.hid (S2.out (.int .i64 (Q + d))); have r3 := Lib.hid (S3.out (.int .i64 (Q + d)))
      clear p0 p1 z0 z1 f0 f2 S1 S2 S3
      have hLl : ((mx d ws G k ++ Z).set k ((j : Int), Q + d)).length = 16 := by rw [List.length_set]; exact hL
      generalize wr.setCell ⟨w.heap.size, k * 2 + 1, none⟩ (.int .i64 (Q + d)) = W at *
      have q := posAt r1.out k (by omega)
      rw [List.getElem_set_self] at q
      obtain ⟨p0, p1, z0, z1⟩ := q
      simp only at p0 p1
      have f2 := HFC.out W r3.out
      by_cases he : Q + d = x1
      · rw [if_pos he] at hset
        have S1 := Lib.hid (fun m => kArr_set rnC_size (kArr_set rnC_size (show RowAt (W.drewN m) w.heap.size 98 (kArr rnC ((mx d ws G k ++ Z).set k ((j : Int), Q + d))) from r1.out) k 0 (by omega) (by omega) (.int .i64 ((j : Int) + 1)) ((j : Int) + 1, Q + d) (by rw [List.getElem_set_self]; rfl)) k 1 (by rw [List.length_set]; omega) (by omega) (.int .i64 0) ((j : Int) + 1, 0) (by rw [List.getElem_set_self]; rfl))
        rw [List.set_set, List.set_set, hset] at S1
        have S2 := Lib.hid (fun m (v v' : Value) => (((show RowAt (W.drewN m) (w.heap.size + 1) 98 (kArr rnC zero16) from r2.out)).other ⟨w.heap.size, k * 2, none⟩ v (by show w.heap.size ≠ _; omega)).other ⟨w.heap.size, k * 2 + 1, none⟩ v' (by show w.heap.size ≠ _; omega))
        have S3 := Lib.hid (fun m (v v' : Value) => show Below w.heap.size w (((W.drewN m).setCell ⟨w.heap.size, k * 2, none⟩ v).setCell ⟨w.heap.size, k * 2 + 1, none⟩ v') from Below.setCell (Below.setCell (Go.below_drewN r3.out m) (Nat.le_refl _) v) (Nat.le_refl _) v')
        clear hset HFC hLk hLl
        go_wp2
        go_quiet (fail)
        go_wp2
        go_roundw
        case rel => exact ⟨k + 1, by omega, by go_num, Lib.hid (S1.out _), Lib.hid (S2.out _ _ _), Lib.hid (S3.out _ _ _)⟩
        case measure => simp [intOf]; omega
      · rw [if_neg he] at hset
        have hne : (Q + d == x1) = false := by simpa using he
        rw [hset] at r1
        clear hset HFC hLk hLl he
        go_wp2
        go_quiet (fail)
        go_wp2
        go_roundw
        case rel => exact ⟨k + 1, by omega, by go_num, r1, r2, Lib.hid (Go.below_drewN r3.out _)⟩
        case measure => simp [intOf]; omega
    · have hkn : k = ws.length := by omega
      rw [hkn, HMa.out] at H1
      have hsz : (kArr rnC (zw d ws G ++ Z)).size = 32 := by
        rw [kArr_size rnC_size, ← HMa.out, HZ.out _ (Nat.le_refl _)]
      have hone := kArr_one rnC_one (zw d ws G ++ Z)
      go_wp2_with (first
        | (refine wpList_load_row rfl _ _ rfl _ rfl _ _ _ _ H1.out Try.underlying98 rfl (by rw [hsz]; exact pos_info) ?_)
        | (refine wpList_store_at H2.out (Nat.le_succ _) (kArr rnC (zw d ws G ++ Z)) _ _ _ rfl rfl rfl rfl (by rw [hsz]; exact pos_info) (by rw [hsz]; rfl) hone ?_; intro w9 r9 b9))
      exact bodyPost_ret (v := .agg (kArr rnC (zw d ws G ++ Z))) (results_cell_row Try.results81 _ w9 (w.heap.size + 1) _ _ _ _ rfl r9 Try.underlying98 rfl (by rw [hsz]; exact pos_info)) rfl ⟨rfl, hb.trans b9⟩

end Go.Proofs.Ytbahijhhcibfaaa

namespace Go.Proofs.Ytbahijhhcibfaaa
open Go Go.RowKit Go.Joins
set_option linter.unusedVariables false
set_option linter.unusedSimpArgs false

def smP (N : List ByteArray) (R : List Rn) (N' : List ByteArray) (R' : List Rn) : Prop := ckC N R = 0 ∧ ckC N' R' = 0 ∧ N = N' ∧ jn R = jn R'
theorem heldT {w W W' : World} {b b' : Nat} {x y : Value} (h : W.cell? ⟨b, 1, none⟩ = some x ∧ W.cell? ⟨b', 1, none⟩ = some y ∧ Below w.heap.size w W ∧ b < W.heap.size ∧ b' < W.heap.size) (hb : Below W.heap.size W W') : W'.cell? ⟨b, 1, none⟩ = some x ∧ W'.cell? ⟨b', 1, none⟩ = some y ∧ Below w.heap.size w W' ∧ b < W'.heap.size ∧ b' < W'.heap.size := by
  obtain ⟨h0, h1, h2, h3, h4⟩ := h
  have := hb.size
  exact ⟨(hb.cell (p := ⟨b, 1, none⟩) h3).trans h0, (hb.cell (p := ⟨b', 1, none⟩) h4).trans h1, h2.trans (hb.mono h2.size), by omega, by omega⟩

set_option maxRecDepth 100000 in
set_option maxHeartbeats 8000000 in
theorem capSame_any (b : Bool) (N : List ByteArray) (R : List Rn) (N' : List ByteArray) (R' : List Rn) (v1 v2 u1 u2 : Value) (w : World) (hN : NmArg w v1 N) (hs : szs N) (hR : RnArg w v2 R) (hN' : NmArg w u1 N') (hs' : szs N') (hR' : RnArg w u2 R') (hn : R.length ≤ 1099511627776) (hn' : R'.length ≤ 1099511627776)
    (hm : N.length ≤ 1099511627776) (hm' : N'.length ≤ 1099511627776) (hb1 : smP N R N' R' → b = true) (hb2 : ¬ smP N R N' R' → b = false) :
    Calls Try.prog 26 #[.agg #[v1, v2], .agg #[u1, u2]] w fun e w' => e = .returned (.bool b) ∧ Below w.heap.size w w' := by
  have HK := Lib.hid (fun w' (hb : Below w.heap.size w w') => check_any N R v1 v2 w' (hN.keep hb) hs (hR.keep hb) hn)
  have HK' := Lib.hid (fun w' (hb : Below w.heap.size w w') => check_any N' R' u1 u2 w' (hN'.keep hb) hs' (hR'.keep hb) hn')
  have HQ := Lib.hid (fun q w' (hb : Below w.heap.size w w') h1 h2 => eqNames_any q N N' v1 u1 w' (hN.keep hb) (hN'.keep hb) hm hm' h1 h2)
  have HP := Lib.hid (fun m h h0 w' (hb : Below w.heap.size w w') => part_any m R v2 0 1099511627776 w' (hR.keep hb) h0 h (by omega) (by omega) (by omega) (by omega))
  have HP' := Lib.hid (fun m h h0 w' (hb : Below w.heap.size w w') => part_any m R' u2 0 1099511627776 w' (hR'.keep hb) h0 h (by omega) (by omega) (by omega) (by omega))
  have HB1 := Lib.hid hb1; have HB2 := Lib.hid hb2
  obtain ⟨A1, c1, rfl, _, q1⟩ := hN.form
  obtain ⟨A2, c2, rfl, q2⟩ := hR
  obtain ⟨A3, c3, rfl, _, q3⟩ := hN'.form
  obtain ⟨A4, c4, rfl, q4⟩ := hR'
  have BA := Lib.hid (ba w (.cells #[.slice A1 N.length c1, .slice A2 R.length c2] 25))
  have PA := Lib.hid (RowAt.new w 25 #[.slice A1 N.length c1, .slice A2 R.length c2])
  have BB := Lib.hid (ba (w.alloc (.cells #[.slice A1 N.length c1, .slice A2 R.length c2] 25)) (.cells #[.slice A3 N'.length c3, .slice A4 R'.length c4] 25))
  have PB := Lib.hid (RowAt.new (w.alloc (.cells #[.slice A1 N.length c1, .slice A2 R.length c2] 25)) 25 #[.slice A3 N'.length c3, .slice A4 R'.length c4])
  rw [World.size_alloc] at PB
  have PA2 := Lib.hid (PA.out.keep BB.out)
  have B2 := Lib.hid (BA.out.trans (BB.out.mono BA.out.size))
  clear hN hN' q1 q2 q3 q4 hb1 hb2 hs hs'
  by_cases hz : ckC N R = 0
  case neg =>
    have hx := HB2.out (fun h => hz h.1)
    subst hx
    have hz' : (ckC N R != 0) = true := by simpa using hz
    have hz2 : ¬ ckC N R = 0 := hz
    clear HB1 HB2 HQ HP HP' HK' hz
    generalize ckC N R = c at *
    go_enter Try.func26, Try.ntmps26
    go_wp2_with (first
      | (go_at_call 24; go_must (refine (HK.out _ B2.out).mono ?_; rintro e3 w3 ⟨rfl, b3⟩; have B3 := Lib.hid (B2.out.trans (b3.mono B2.out.size)); clear b3)))
    go_returns
    exact ⟨rfl, B3.out⟩
  by_cases hy : ckC N' R' = 0
  case neg =>
    have hx := HB2.out (fun h => hy h.2.1)
    subst hx
    have hz' : (ckC N' R' != 0) = true := by simpa using hy
    have hz2 : ¬ ckC N' R' = 0 := hy
    rw [hz] at HK
    clear HB1 HB2 HQ HP HP' hz hy
    generalize ckC N' R' = c at *
    go_enter Try.func26, Try.ntmps26
    go_wp2_with (first
      | (go_at_call 24; first
          | ((with_reducible refine (HK.out _ B2.out).mono ?_); rintro e3 w3 ⟨rfl, b3⟩; have B3 := Lib.hid (B2.out.trans (b3.mono B2.out.size)); have PB3 := PB.out.keep b3; have g2 := PB3.cell 0; have g3 := PB3.cell 1; clear b3 PB3)
          | ((with_reducible refine (HK'.out _ B3.out).mono ?_); rintro e4 w4 ⟨rfl, b4⟩; have B4 := Lib.hid (B3.out.trans (b4.mono B3.out.size)); clear b4)))
    go_returns
    exact ⟨rfl, B4.out⟩
  obtain ⟨k1, _, _, _, _, k6⟩ := ckC_ok hz
  obtain ⟨k1', _, _, _, _, k6'⟩ := ckC_ok hy
  have HP2 := HP.out _ k6 k1
  have HP2' := HP'.out _ k6' k1'
  rw [prt_all k6] at HP2
  rw [prt_all k6'] at HP2'
  have hj := jn_len R
  have hj' := jn_len R'
  have HPx := Lib.hid HP2; have HPx' := Lib.hid HP2'
  rw [hz] at HK
  rw [hy] at HK'
  clear HP HP' HP2 HP2' k6 k6'
  by_cases he : N = N'
  case neg =>
    have hx := HB2.out (fun h => he h.2.2.1)
    subst hx
    have HQ2 := Lib.hid (fun w' hb => HQ.out false w' hb (fun h => absurd h he) (fun _ => rfl))
    clear HB1 HB2 HQ hz hy HPx HPx'
    go_enter Try.func26, Try.ntmps26
    go_wp2_with (first
      | (go_at_call 24; first
          | ((with_reducible refine (HK.out _ B2.out).mono ?_); rintro e3 w3 ⟨rfl, b3⟩; have B3 := Lib.hid (B2.out.trans (b3.mono B2.out.size)); have PA3 := Lib.hid (PA2.out.keep b3); have PB3 := Lib.hid (PB.out.keep b3); have g2 := PB3.out.cell 0; have g3 := PB3.out.cell 1; clear b3)
          | ((with_reducible refine (HK'.out _ B3.out).mono ?_); rintro e4 w4 ⟨rfl, b4⟩; have B4 := Lib.hid (B3.out.trans (b4.mono B3.out.size)); have PA4 := PA3.out.keep b4; have PB4 := PB3.out.keep b4; have g0 := PA4.cell 0; have g1 := PA4.cell 1; have g2 := PB4.cell 0; have g3 := PB4.cell 1; clear b4 PA4 PB4))
      | (go_at_call 53; go_must (refine (HQ2.out _ B4.out).mono ?_; rintro e5 w5 ⟨rfl, b5⟩; have B5 := Lib.hid (B4.out.trans (b5.mono B4.out.size)); clear b5)))
    go_returns
    exact ⟨rfl, B5.out⟩
  have HQ2 := Lib.hid (fun w' hb => HQ.out true w' hb (fun _ => rfl) (fun h => absurd he h))
  have HB1x := Lib.hid (fun h => HB1.out ⟨hz, hy, he, h⟩)
  have HB2x := Lib.hid (fun (h : ¬ jn R = jn R') => HB2.out (fun e => h e.2.2.2))
  clear HB1 HB2 HQ hz hy he
  generalize jn R = J at *
  generalize jn R' = J' at *
  have hJ : J.length ≤ 1099511627776 := by omega
  have hJ' : J'.length ≤ 1099511627776 := by omega
  go_enter Try.func26, Try.ntmps26
  go_wp2_with (first
    | (go_at_call 24; first
        | ((with_reducible refine (HK.out _ B2.out).mono ?_); rintro e3 w3 ⟨rfl, b3⟩; have B3 := Lib.hid (B2.out.trans (b3.mono B2.out.size)); have PA3 := Lib.hid (PA2.out.keep b3); have PB3 := Lib.hid (PB.out.keep b3); have g2 := PB3.out.cell 0; have g3 := PB3.out.cell 1; clear b3)
        | ((with_reducible refine (HK'.out _ B3.out).mono ?_); rintro e4 w4 ⟨rfl, b4⟩; have B4 := Lib.hid (B3.out.trans (b4.mono B3.out.size)); have PA4 := Lib.hid (PA3.out.keep b4); have PB4 := Lib.hid (PB3.out.keep b4); have g0 := PA4.out.cell 0; have g1 := PA4.out.cell 1; have g2 := PB4.out.cell 0; have g3 := PB4.out.cell 1; clear b4))
    | (go_at_call 53; go_must (refine (HQ2.out _ B4.out).mono ?_; rintro e5 w5 ⟨rfl, b5⟩; have B5 := Lib.hid (B4.out.trans (b5.mono B4.out.size)); have PA5 := Lib.hid (PA4.out.keep b5); have PB5 := Lib.hid (PB4.out.keep b5); have g1 := PA5.out.cell 1; have g3 := PB5.out.cell 1; clear b5))
    | fail)
  have S0 : (w5.drew).cell? ⟨w.heap.size, 1, none⟩ = some (.slice A2 R.length c2) ∧ (w5.drew).cell? ⟨w.heap.size + 1, 1, none⟩ = some (.slice A4 R'.length c4) ∧ Below w.heap.size w (w5.drew) ∧ w.heap.size < (w5.drew).heap.size ∧ w.heap.size + 1 < (w5.drew).heap.size := ⟨g1, g3, B5.out.drew, World.block_lt_of_cell? w5 _ g1, World.block_lt_of_cell? w5 _ g3⟩
  go_region_held3 (fun w' => w'.cell? ⟨w.heap.size, 1, none⟩ = some (.slice A2 R.length c2) ∧ w'.cell? ⟨w.heap.size + 1, 1, none⟩ = some (.slice A4 R'.length c4) ∧ Below w.heap.size w w' ∧ w.heap.size < w'.heap.size ∧ w.heap.size + 1 < w'.heap.size) (first | assumption | go_keep)
    (first
      | (go_at_call 55; first
          | ((with_reducible refine (HPx.out _ (And.left (And.right (And.right (by assumption))))).mono ?_); rintro e6 w6 ⟨v6, rfl, r6, b6⟩; obtain ⟨X6, m6, d6, rfl, rfl⟩ := KRow.form r6; have R6 := Lib.hid (KRow.arg rnC_size r6); have h6 := heldT (by assumption) b6; clear r6)
          | ((with_reducible refine (HPx'.out _ (And.left (And.right (And.right (by assumption))))).mono ?_); rintro e7 w7 ⟨v7, rfl, r7, b7⟩; obtain ⟨X7, m7, d7, rfl, rfl⟩ := KRow.form r7; have R7 := Lib.hid (KRow.arg rnC_size r7); have R67 := Lib.hid (R6.out.keep b7); have h7 := heldT (by assumption) b7; clear r7))
      | (go_at_call 54; refine (eqRuns_any b J J' _ _ _ R67.out R7.out hJ hJ' HB1x.out HB2x.out).mono ?_; rintro e8 w8 ⟨rfl, b8⟩; have h8 := heldT (by assumption) b8)
      | fail)
  have BZ := Lib.hid h8.2.2.1
  go_wp2
  go_returns
  exact ⟨rfl, BZ.out⟩

end Go.Proofs.Ytbahijhhcibfaaa
