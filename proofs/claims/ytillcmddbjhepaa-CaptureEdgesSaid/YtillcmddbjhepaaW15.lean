/-
  advanced.
-/
import Derived.Test.YtillcmddbjhepaaW14
namespace Go.Proofs.Ytillcmddbjhepaa
open Go Go.RowKit Go.Joins
set_option linter.unusedVariables false
set_option linter.unusedSimpArgs false

theorem mxZ_at {d : Int} {ws : List (List Rn)} {G Z : List Ps} (h : G.length = ws.length) {k : Nat} (hk : k < ws.length) (hm : k < (mx d ws G k ++ Z).length) : (mx d ws G k ++ Z)[k] = G[k]'(by omega) := by
  have hl := mx_len d ws G h.symm k (by omega)
  rw [List.getElem_append_left (by omega)]
  exact mx_at d ws G h.symm k hk (by omega)
theorem mxZ_set {d : Int} {ws : List (List Rn)} {G Z : List Ps} (h : G.length = ws.length) {k : Nat} (hk : k < ws.length) : (mx d ws G k ++ Z).set k (av ws[k] d (G[k]'(by omega))) = mx d ws G (k + 1) ++ Z := by
  have hl := mx_len d ws G h.symm k (by omega)
  rw [List.set_append_left _ _ (by omega), mx_set d ws G h.symm k hk]
def zero16 : List Ps := List.replicate 16 (0, 0)
theorem pos_info : (Try.prog.info? 58).map (·.size) = some 32 := by kernel_rfl

set_option maxRecDepth 20000 in
set_option maxHeartbeats 8000000 in
theorem advanced_any (ws : List (List Rn)) (V : Value) (T t d : Int) (G Z : List Ps) (w : World) (hT : WvArg w V ws) (hw : Wv ws T) (hn0 : 0 < ws.length) (hn : ws.length ≤ 16) (hG : Pa ws t G) (hZ : (G ++ Z).length = 16) (ht : t < T) (hd1 : 1 ≤ d) (hd : ∀ i (hi : i < ws.length) (hG : i < G.length), d ≤ rm ws[i] G[i]) :
    Calls Try.prog 24 #[V, .agg (kArr rnC (G ++ Z)), .int .i64 d] w fun e w' => e = .returned (.agg (kArr rnC (zw d ws G ++ Z))) ∧ Below w.heap.size w w' := by
  obtain ⟨A, c, rfl, hA⟩ := hT.form
  have HA := Lib.hid hA
  have HW := Lib.hid hw
  have HPa := Lib.hid hG
  have hGl := hG.1
  have HD := Lib.hid hd
  have hn' : (ws.length : Int) ≤ 16 := by omega
  have HZ := Lib.hid (show ∀ k, k ≤ ws.length → (mx d ws G k ++ Z).length = 16 by
    intro k hk
    rw [List.length_append, mx_len d ws G hGl.symm k hk, ← List.length_append]; exact hZ)
  have HMa := Lib.hid (show mx d ws G ws.length = zw d ws G from mx_all d ws G hGl.symm)
  have P1 := (RowAt.new w 58 (kArr rnC (G ++ Z))).alloc (.cells (kArr rnC zero16) 58)
  have P2 := RowAt.new (w.alloc (.cells (kArr rnC (G ++ Z)) 58)) 58 (kArr rnC zero16)
  rw [World.size_alloc] at P2
  have HP1 := Lib.hid P1; have HP2 := Lib.hid P2
  have HB0 := Lib.hid ((ba w (.cells (kArr rnC (G ++ Z)) 58)).alloc (by rw [World.size_alloc]; omega) (.cells (kArr rnC zero16) 58))
  clear hA hT hw hG hd P1 P2
  go_enter Try.func24, Try.ntmps24
  go_wp2
  go_loopw [11] (fun i wr => ∃ (k : Nat), k ≤ ws.length ∧ i = .int .i64 k ∧ Hid (RowAt wr w.heap.size 58 (kArr rnC (mx d ws G k ++ Z))) ∧ Hid (RowAt wr (w.heap.size + 1) 58 (kArr rnC zero16)) ∧ Hid (Below w.heap.size w wr)) (fun i _ => ws.length - (intOf i).toNat)
  case atStart => exact ⟨0, Nat.zero_le _, rfl, Lib.hid (by rw [mx_zero]; exact HP1.out), HP2, HB0⟩
  case round =>
    obtain ⟨k, hk, rfl, H1, H2, HB⟩ := hrel
    have hb := HB.out
    by_cases hkl : k < ws.length
    · obtain ⟨g, o, rfl, hg, hcell⟩ := HA.out (by omega)
      obtain ⟨B, b2, hc1, hc2⟩ := hcell k hkl
      have hkG : k < G.length := by omega
      have hL := HZ.out k hk
      obtain ⟨p0, p1, z0, z1⟩ := posAt H1.out k (by omega)
      have hset := mxZ_set (d := d) (Z := Z) hGl hkl
      have hat := mxZ_at (d := d) (Z := Z) hGl hkl (by omega)
      rw [hat] at p0 p1
      obtain ⟨j, hj, e1, e2, e3, e4⟩ := Pz_in (HPa.out.2 k hkl hkG) (by rw [(HW.out k hkl).2.2]; exact ht)
      obtain ⟨B2, d2, he, hrr⟩ := hc2
      simp only [Value.slice.injEq] at he
      obtain ⟨rfl, _, rfl⟩ := he
      obtain ⟨g2, o2, rfl, hg2, hc3⟩ := hrr (by omega)
      obtain ⟨a0, a1⟩ := arg_two hc3 j hj
      have f0 := (hb.cell (p := ⟨g, o + k, none⟩) hg).trans hc1
      have f2 := (hb.cell (p := ⟨g2, o2 + j * 2 + 1, none⟩) hg2).trans a1
      have hx := (el_range (HW.out k hkl).2.1 j hj).2
      have hlen := (HW.out k hkl).1
      have hrm := HD.out k hkl hkG
      have hgd : ws[k].getD G[k].1.toNat (0, 0) = ws[k][j] := by rw [e1]; simp [hj]
      unfold rm at hrm
      unfold av at hset
      rw [hgd] at hrm hset
      rw [e1] at p0 hset
      have hjl : (j : Int) < ws[k].length := by omega
      have hk16 : (k : Int) < 16 := by omega
      have hs1 := H1.out.lt
      have hs2 := H2.out.lt
      have S1 := Lib.hid (fun (y : Int) => kArr_set rnC_size H1.out k 1 (by omega) (by omega) (.int .i64 y) (G[k].1, y) (by rw [hat]; rfl))
      have S2 := Lib.hid (fun (v : Value) => H2.out.other ⟨w.heap.size, k * 2 + 1, none⟩ v (by show w.heap.size ≠ _; omega))
      have S3 := Lib.hid (fun (v : Value) => show Below w.heap.size w (wr.setCell ⟨w.heap.size, k * 2 + 1, none⟩ v) from Below.setCell hb (Nat.le_refl _) v)
      rw [e1] at S1
      clear hcell hc1 hrr hc3 a0 a1 hgd hat e1 e2
      generalize hy : ws[k][j].2 = x1 at *
      clear hy
      generalize G[k].2 = Q at *
      generalize ws[k].length = nk at *
      have hqd : Q + d ≤ 1099511627776 := by omega
      have HFC := Lib.hid (fun w' (hb' : Below w.heap.size w w') => (hb'.cell (p := ⟨g2, o2 + j * 2 + 1, none⟩) hg2).trans ((hb.cell (p := ⟨g2, o2 + j * 2 + 1, none⟩) hg2).symm.trans f2))
      have hLk := hL
      go_wp2
      have r1 := Lib.hid (S1.out (Q + d)); have r2 := Lib.hid (S2.out (.int .i64 (Q + d))); have r3 := Lib.hid (S3.out (.int .i64 (Q + d)))
      clear p0 p1 z0 z1 f0 f2 S1 S2 S3
      have hLl : ((mx d ws G k ++ Z).set k ((j : Int), Q + d)).length = 16 := by rw [List.length_set]; exact hL
      generalize wr.setCell ⟨w.heap.size, k * 2 + 1, none⟩ (.int .i64 (Q + d)) = W at *
      have q := posAt r1.out k (by omega)
      rw [List.getElem_set_self] at q
      obtain ⟨p0, p1, z0, z1⟩ := q
      simp only at p0 p1
      have f2 := HFC.out W r3.out
      by_cases he : Q + d = x1
      · rw [if_pos he] at hset
        have S1 := Lib.hid (fun m => kArr_set rnC_size (kArr_set rnC_size (show RowAt (W.drewN m) w.heap.size 58 (kArr rnC ((mx d ws G k ++ Z).set k ((j : Int), Q + d))) from r1.out) k 0 (by omega) (by omega) (.int .i64 ((j : Int) + 1)) ((j : Int) + 1, Q + d) (by rw [List.getElem_set_self]; rfl)) k 1 (by rw [List.length_set]; omega) (by omega) (.int .i64 0) ((j : Int) + 1, 0) (by rw [List.getElem_set_self]; rfl))
        rw [List.set_set, List.set_set, hset] at S1
        have S2 := Lib.hid (fun m (v v' : Value) => (((show RowAt (W.drewN m) (w.heap.size + 1) 58 (kArr rnC zero16) from r2.out)).other ⟨w.heap.size, k * 2, none⟩ v (by show w.heap.size ≠ _; omega)).other ⟨w.heap.size, k * 2 + 1, none⟩ v' (by show w.heap.size ≠ _; omega))
        have S3 := Lib.hid (fun m (v v' : Value) => show Below w.heap.size w (((W.drewN m).setCell ⟨w.heap.size, k * 2, none⟩ v).setCell ⟨w.heap.size, k * 2 + 1, none⟩ v') from Below.setCell (Below.setCell (Go.below_drewN r3.out m) (Nat.le_refl _) v) (Nat.le_refl _) v')
        clear hset HFC hLk hLl
        go_wp2
        go_quiet (fail)
        go_wp2
        go_roundw
        case rel => exact ⟨k + 1, by omega, by go_num, Lib.hid (S1.out _), Lib.hid (S2.out _ _ _), Lib.hid (S3.out _ _ _)⟩
        case measure => simp [intOf]; omega
      · rw [if_neg he] at hset
        have hne : (Q + d == x1) = false := by simpa using he
        rw [hset] at r1
        clear hset HFC hLk hLl he
        go_wp2
        go_quiet (fail)
        go_wp2
        go_roundw
        case rel => exact ⟨k + 1, by omega, by go_num, r1, r2, Lib.hid (Go.below_drewN r3.out _)⟩
        case measure => simp [intOf]; omega
    · have hkn : k = ws.length := by omega
      rw [hkn, HMa.out] at H1
      have hsz : (kArr rnC (zw d ws G ++ Z)).size = 32 := by
        rw [kArr_size rnC_size, ← HMa.out, HZ.out _ (Nat.le_refl _)]
      have hone := kArr_one rnC_one (zw d ws G ++ Z)
      go_wp2_with (first
        | (refine wpList_load_row rfl _ _ rfl _ rfl _ _ _ _ H1.out Try.underlying58 rfl (by rw [hsz]; exact pos_info) ?_)
        | (refine wpList_store_at H2.out (Nat.le_succ _) (kArr rnC (zw d ws G ++ Z)) _ _ _ rfl rfl rfl rfl (by rw [hsz]; exact pos_info) (by rw [hsz]; rfl) hone ?_; intro w9 r9 b9))
      exact bodyPost_ret (v := .agg (kArr rnC (zw d ws G ++ Z))) (results_cell_row Try.results24 _ w9 (w.heap.size + 1) _ _ _ _ rfl r9 Try.underlying58 rfl (by rw [hsz]; exact pos_info)) rfl ⟨rfl, hb.trans b9⟩

end Go.Proofs.Ytillcmddbjhepaa
