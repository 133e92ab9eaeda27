/-
  common.
-/
import Derived.Test.YtillcmddbjhepaaW13
import Derived.Test.YtillcmddbjhepaaM5
namespace Go.Proofs.Ytillcmddbjhepaa
open Go Go.RowKit Go.Joins
set_option linter.unusedVariables false
set_option linter.unusedSimpArgs false

theorem posAt {w : World} {b : Nat} {T : TypeId} {L : List Ps} (h : RowAt w b T (kArr rnC L)) (j : Nat) (hj : j < L.length) : w.cell? ⟨b, j * 2, none⟩ = some (.int .i64 L[j].1) ∧ w.cell? ⟨b, j * 2 + 1, none⟩ = some (.int .i64 L[j].2) ∧ w.frozen? ⟨b, j * 2, none⟩ = false ∧ w.frozen? ⟨b, j * 2 + 1, none⟩ = false :=
  ⟨kArr_cell rnC_size h j hj 0 (by omega), kArr_cell rnC_size h j hj 1 (by omega), h.frozen _, h.frozen _⟩
theorem wrap_bit {x : Int} {k : Nat} (hx : 0 ≤ x ∧ x ≤ 1) (hk : k ≤ 15) : wrap64 (x * 2 ^ k) = x * 2 ^ k := by
  have e : (2 : Int) ^ k = ((2 ^ k : Nat) : Int) := by simp
  have h2 : 2 ^ k ≤ 2 ^ 15 := Nat.pow_le_pow_right (by omega) hk
  have : x = 0 ∨ x = 1 := by omega
  rw [e]
  generalize 2 ^ k = P at *
  rcases this with rfl | rfl
  · simp [wrap64]
  · unfold wrap64; omega
theorem get_app {G Z : List Ps} {i : Nat} (hi : i < G.length) (h : i < (G ++ Z).length) : (G ++ Z)[i] = G[i] := List.getElem_append_left hi

set_option maxRecDepth 20000 in
set_option maxHeartbeats 8000000 in
theorem common_any (ws : List (List Rn)) (V : Value) (T t : Int) (G Z : List Ps) (w : World) (hT : WvArg w V ws) (hw : Wv ws T) (hn0 : 0 < ws.length) (hn : ws.length ≤ 16) (hG : Pa ws t G) (hZ : (G ++ Z).length = 16) (ht0 : 0 ≤ t) (ht : t < T) :
    Calls Try.prog 22 #[V, .agg (kArr rnC (G ++ Z))] w fun e w' => e = .returned (.agg #[.int .i64 (lvl ws t), .int .i64 (mnF 1099511627776 ws G)]) ∧ Below w.heap.size w w' := by
  obtain ⟨A, c, rfl, hA⟩ := hT.form
  have HA := Lib.hid hA
  have HW := Lib.hid hw
  have HPa := Lib.hid hG
  have hGl := hG.1
  have HZ := Lib.hid hZ
  have hn' : (ws.length : Int) ≤ 16 := by omega
  have H01 := Lib.hid (Pa_01 hw ht0 ht)
  have P1 := Lib.hid (((RowAt.new w 58 (kArr rnC (G ++ Z))).alloc (.cells #[.int .i64 0, .int .i64 0] 41)).alloc (.cells #[.int .i64 0, .int .i64 1099511627776] 41))
  have P2 := (RowAt.new (w.alloc (.cells (kArr rnC (G ++ Z)) 58)) 41 #[.int .i64 0, .int .i64 0]).alloc (.cells #[.int .i64 0, .int .i64 1099511627776] 41)
  have P3 := RowAt.new ((w.alloc (.cells (kArr rnC (G ++ Z)) 58)).alloc (.cells #[.int .i64 0, .int .i64 0] 41)) 41 #[.int .i64 0, .int .i64 1099511627776]
  rw [World.size_alloc] at P2
  rw [World.size_alloc, World.size_alloc] at P3
  have HP2 := Lib.hid P2; have HP3 := Lib.hid P3
  have HB0 := Lib.hid (((ba w (.cells (kArr rnC (G ++ Z)) 58)).alloc (by rw [World.size_alloc]; omega) (.cells #[.int .i64 0, .int .i64 0] 41)).alloc (by rw [World.size_alloc, World.size_alloc]; omega) (.cells #[.int .i64 0, .int .i64 1099511627776] 41))
  clear hA hT hw hG P2 P3
  go_enter Try.func22, Try.ntmps22
  go_wp2
  go_loopw [12] (fun i wr => ∃ (k : Nat) (acc m : Int), k ≤ ws.length ∧ i = .int .i64 k ∧ 1 ≤ m ∧ m ≤ 1099511627776 ∧ Hid (acc = lvl (ws.take k) t) ∧ Hid (mnF m (ws.drop k) (G.drop k) = mnF 1099511627776 ws G) ∧ Hid (RowAt wr w.heap.size 58 (kArr rnC (G ++ Z))) ∧ Hid (RowAt wr (w.heap.size + 1) 41 #[.int .i64 0, .int .i64 0]) ∧ Hid (RowAt wr (w.heap.size + 2) 41 #[.int .i64 acc, .int .i64 m]) ∧ Hid (Below w.heap.size w wr)) (fun i _ => ws.length - (intOf i).toNat)
  case atStart => exact ⟨0, 0, 1099511627776, Nat.zero_le _, rfl, by omega, by omega, Lib.hid rfl, Lib.hid rfl, P1, HP2, HP3, HB0⟩
  case round =>
    obtain ⟨k, acc, m, hk, rfl, hm0, hm1, HAc, HM, H1, H2, H3, HB⟩ := hrel
    have hb := HB.out
    by_cases hkl : k < ws.length
    · obtain ⟨g, o, rfl, hg, hcell⟩ := HA.out (by omega)
      obtain ⟨B, d, hc1, hc2⟩ := hcell k hkl
      have hkG : k < G.length := by omega
      obtain ⟨p0, p1, z0, z1⟩ := posAt H1.out k (by rw [HZ.out]; omega)
      rw [get_app hkG] at p0 p1
      obtain ⟨j, hj, e1, e2, e3, e4⟩ := Pz_in (HPa.out.2 k hkl hkG) (by rw [(HW.out k hkl).2.2]; exact ht)
      obtain ⟨B2, d2, he, hrr⟩ := hc2
      simp only [Value.slice.injEq] at he
      obtain ⟨rfl, _, rfl⟩ := he
      obtain ⟨g2, o2, rfl, hg2, hc3⟩ := hrr (by omega)
      obtain ⟨a0, a1⟩ := arg_two hc3 j hj
      have f0 := (hb.cell (p := ⟨g, o + k, none⟩) hg).trans hc1
      have f1 := (hb.cell (p := ⟨g2, o2 + j * 2, none⟩) hg2).trans a0
      have f2 := (hb.cell (p := ⟨g2, o2 + j * 2 + 1, none⟩) hg2).trans a1
      have hx := el_range (HW.out k hkl).2.1 j hj
      have hlen := (HW.out k hkl).1
      have HM2 := Lib.hid ((mnF_drop m ws G k hkl hkG).symm.trans HM.out)
      have hrm : rm ws[k] G[k] = ws[k][j].2 - G[k].2 := by unfold rm; rw [e1]; simp [hj]
      rw [hrm] at HM2
      have hlv := lvl_take ws k hkl t
      rw [Pz_level (HW.out.ps k hkl) (HPa.out.2 k hkl hkG) (by rw [(HW.out k hkl).2.2]; exact ht) (d := 1) (by show (1 : Int) ≤ rm ws[k] G[k]; rw [hrm]; omega) (Int.le_refl _) (by omega), ← HAc.out] at hlv
      have hlr := lvl_range (w01_take H01.out k)
      rw [List.length_take, Nat.min_eq_left hk, ← HAc.out] at hlr
      have hgd : ws[k].getD G[k].1.toNat (0, 0) = ws[k][j] := by rw [e1]; simp [hj]
      rw [hgd] at hlv
      rw [e1] at p0
      have HLV := Lib.hid hlv
      have HOR := Lib.hid (or_step (b := ws[k][j].1) hlr.1 hlr.2 (by omega) (show k ≤ 15 by omega))
      have hjl : (j : Int) < ws[k].length := by omega
      have q0 : wr.cell? ⟨w.heap.size + 2, 0, none⟩ = some (.int .i64 acc) := H3.out.cell 0
      have q1 : wr.cell? ⟨w.heap.size + 2, 1, none⟩ = some (.int .i64 m) := H3.out.cell 1
      have q2 := H3.out.frozen 0
      have q3 := H3.out.frozen 1
      have hs1 := H1.out.lt
      have hs3 := H3.out.lt
      have hk16 : (k : Int) < 16 := by omega
      have hxx := hx.1
      have hx2 := hx.2
      clear hcell hc1 hrr hc3 a0 a1 hgd hlv HM HAc hrm z0 z1 e1 e2 hx
      have HR6 := Lib.hid (fun (X : World) (h : RowAt X (w.heap.size + 2) 41 #[.int .i64 acc, .int .i64 m]) (V2 : Int) (hV : V2 = acc + ws[k][j].1 * 2 ^ k) => show RowAt (X.setCell ⟨w.heap.size + 2, 0, none⟩ (.int .i64 V2)) (w.heap.size + 2) 41 #[.int .i64 (acc + ws[k][j].1 * 2 ^ k), .int .i64 m] from by subst hV; exact h.set 0 _)
      change Hid (lvl (List.take (k + 1) ws) t = acc + ws[k][j].1 * 2 ^ k) at HLV
      generalize ws[k][j].1 = x0 at *
      generalize ws[k][j].2 = x1 at *
      generalize hQ : G[k].2 = Q at *
      have HQ := Lib.hid hQ
      clear hQ
      generalize ws[k].length = nk at *
      go_wp2
      have r1 := Lib.hid (show RowAt (wr.alloc (.cells #[.int .i64 x0, .int .i64 x1] 41)) w.heap.size 58 (kArr rnC (G ++ Z)) from H1.out.alloc _)
      have r2 := Lib.hid (show RowAt (wr.alloc (.cells #[.int .i64 x0, .int .i64 x1] 41)) (w.heap.size + 1) 41 #[.int .i64 0, .int .i64 0] from H2.out.alloc _)
      have r3 := Lib.hid (show RowAt (wr.alloc (.cells #[.int .i64 x0, .int .i64 x1] 41)) (w.heap.size + 2) 41 #[.int .i64 acc, .int .i64 m] from H3.out.alloc _)
      have r4 := Lib.hid (show RowAt (wr.alloc (.cells #[.int .i64 x0, .int .i64 x1] 41)) wr.heap.size 41 #[.int .i64 x0, .int .i64 x1] from RowAt.new wr 41 #[.int .i64 x0, .int .i64 x1])
      have r5 := Lib.hid (show Below w.heap.size w (wr.alloc (.cells #[.int .i64 x0, .int .i64 x1] 41)) from hb.alloc hb.size _)
      clear p0 p1 f0 f1 f2 q0 q1 q2 q3
      generalize (wr.alloc (.cells #[.int .i64 x0, .int .i64 x1] 41)) = W at *
      have t0 : W.cell? ⟨w.heap.size + 2, 0, none⟩ = some (.int .i64 acc) := r3.out.cell 0
      have t1 : W.cell? ⟨wr.heap.size, 0, none⟩ = some (.int .i64 x0) := r4.out.cell 0
      go_still_tail 8, (by kernel_rfl)
      change wpList _ _ _ _ _ W.drew
      clear t0 t1
      have u3 := Lib.hid (show RowAt W.drew (w.heap.size + 2) 41 #[.int .i64 acc, .int .i64 m] from r3.out)
      have u1 := Lib.hid (show RowAt W.drew w.heap.size 58 (kArr rnC (G ++ Z)) from r1.out)
      have u2 := Lib.hid (show RowAt W.drew (w.heap.size + 1) 41 #[.int .i64 0, .int .i64 0] from r2.out)
      have u4 := Lib.hid (show RowAt W.drew wr.heap.size 41 #[.int .i64 x0, .int .i64 x1] from r4.out)
      have u5 := Lib.hid (show Below w.heap.size w W.drew from r5.out.drew)
      clear r1 r2 r3 r4 r5
      have t0 : W.drew.cell? ⟨w.heap.size + 2, 0, none⟩ = some (.int .i64 acc) := u3.out.cell 0
      have t2 : W.drew.frozen? ⟨w.heap.size + 2, 0, none⟩ = false := u3.out.frozen 0
      generalize W.drew = W2 at *
      go_wp2
      have hV : bits BinOp.or .i64 acc (wrap64 (x0 * 2 ^ k)) = acc + x0 * 2 ^ k := by rw [wrap_bit hxx (by omega)]; exact HOR.out
      have v3 := Lib.hid (HR6.out W2 u3.out _ hV)
      have v1 := Lib.hid (u1.out.other ⟨w.heap.size + 2, 0, none⟩ (.int .i64 (bits BinOp.or .i64 acc (wrap64 (x0 * 2 ^ k)))) (by show w.heap.size + 2 ≠ _; omega))
      have v2 := Lib.hid (u2.out.other ⟨w.heap.size + 2, 0, none⟩ (.int .i64 (bits BinOp.or .i64 acc (wrap64 (x0 * 2 ^ k)))) (by show w.heap.size + 2 ≠ _; omega))
      have v4 := Lib.hid (u4.out.other ⟨w.heap.size + 2, 0, none⟩ (.int .i64 (bits BinOp.or .i64 acc (wrap64 (x0 * 2 ^ k)))) (by show w.heap.size + 2 ≠ _; omega))
      have v5 := Lib.hid (show Below w.heap.size w (W2.setCell ⟨w.heap.size + 2, 0, none⟩ (.int .i64 (bits BinOp.or .i64 acc (wrap64 (x0 * 2 ^ k))))) from Below.setCell u5.out (by show w.heap.size ≤ w.heap.size + 2; omega) _)
      clear t0 t2 u1 u2 u3 u4 u5 HR6 hV
      generalize W2.setCell ⟨w.heap.size + 2, 0, none⟩ (.int .i64 (bits BinOp.or .i64 acc (wrap64 (x0 * 2 ^ k)))) = W3 at *
      obtain ⟨p0, p1, _, _⟩ := posAt v1.out k (by rw [HZ.out]; omega)
      rw [get_app hkG] at p0 p1
      rw [HQ.out] at p1
      have t0 : W3.cell? ⟨w.heap.size + 2, 1, none⟩ = some (.int .i64 m) := v3.out.cell 1
      have t1 : W3.cell? ⟨wr.heap.size, 1, none⟩ = some (.int .i64 x1) := v4.out.cell 1
      have w1 : IntKind.i64.wrap (x1 - Q) = x1 - Q := IntWalk.i64_in _ (by omega)
      go_still_tail 11, (by kernel_rfl)
      change wpList _ _ _ _ _ W3.drew
      clear t0 t1 p0 p1
      have u3 := Lib.hid (show RowAt W3.drew (w.heap.size + 2) 41 #[.int .i64 (acc + x0 * 2 ^ k), .int .i64 m] from v3.out)
      have u1 := Lib.hid (show RowAt W3.drew w.heap.size 58 (kArr rnC (G ++ Z)) from v1.out)
      have u2 := Lib.hid (show RowAt W3.drew (w.heap.size + 1) 41 #[.int .i64 0, .int .i64 0] from v2.out)
      have u5 := Lib.hid (show Below w.heap.size w W3.drew from v5.out.drew)
      clear v1 v2 v3 v4 v5
      have t0 : W3.drew.cell? ⟨w.heap.size + 2, 1, none⟩ = some (.int .i64 m) := u3.out.cell 1
      have t2 : W3.drew.frozen? ⟨w.heap.size + 2, 1, none⟩ = false := u3.out.frozen 1
      generalize W3.drew = W4 at *
      have HR7 := Lib.hid (fun (V2 : Int) (hV : V2 = min m (x1 - Q)) => show RowAt (W4.setCell ⟨w.heap.size + 2, 1, none⟩ (.int .i64 V2)) (w.heap.size + 2) 41 #[.int .i64 (acc + x0 * 2 ^ k), .int .i64 (min m (x1 - Q))] from by subst hV; exact u3.out.set 1 _)
      go_wp2
      go_roundw
      case rel =>
        refine ⟨k + 1, acc + x0 * 2 ^ k, min m (x1 - Q), by omega, by go_num, by omega, by omega, Lib.hid HLV.out.symm, HM2, Lib.hid (u1.out.other ⟨w.heap.size + 2, 1, none⟩ _ (by show w.heap.size + 2 ≠ _; omega)), Lib.hid (u2.out.other ⟨w.heap.size + 2, 1, none⟩ _ (by show w.heap.size + 2 ≠ _; omega)), Lib.hid (HR7.out _ (by first | rfl | rw [show wrap64 (x1 - Q) = x1 - Q from w1])), Lib.hid (Below.setCell u5.out (by show w.heap.size ≤ w.heap.size + 2; omega) _)⟩
      case measure => simp [intOf]; omega
    · have hacc := HAc.out
      rw [List.take_of_length_le (by omega)] at hacc
      have hmm := HM.out
      rw [List.drop_eq_nil_of_le (show ws.length ≤ k by omega)] at hmm
      have hmm2 : m = mnF 1099511627776 ws G := by rw [← hmm]; rfl
      have HAc2 := Lib.hid hacc; have HM2 := Lib.hid hmm2
      have q0 : wr.cell? ⟨w.heap.size + 2, 0, none⟩ = some (.int .i64 acc) := H3.out.cell 0
      have q1 : wr.cell? ⟨w.heap.size + 2, 1, none⟩ = some (.int .i64 m) := H3.out.cell 1
      have q2 : wr.cell? ⟨w.heap.size + 1, 0, none⟩ = some (.int .i64 0) := H2.out.cell 0
      have q3 : wr.cell? ⟨w.heap.size + 1, 1, none⟩ = some (.int .i64 0) := H2.out.cell 1
      have q4 := H2.out.frozen 0
      have q5 := H2.out.frozen 1
      have hs2 := H2.out.lt
      clear hmm hmm2 hacc HAc HM
      go_wp2
      have e0 : ((wr.setCell ⟨w.heap.size + 1, 0, none⟩ (.int .i64 acc)).setCell ⟨w.heap.size + 1, 1, none⟩ (.int .i64 m)).cell? ⟨w.heap.size + 1, 0, none⟩ = some (.int .i64 acc) := (two_set q2 q3).1
      have e1 : ((wr.setCell ⟨w.heap.size + 1, 0, none⟩ (.int .i64 acc)).setCell ⟨w.heap.size + 1, 1, none⟩ (.int .i64 m)).cell? ⟨w.heap.size + 1, 1, none⟩ = some (.int .i64 m) := (two_set q2 q3).2
      refine bodyPost_ret (v := .agg #[.int .i64 acc, .int .i64 m]) (by simp [results, Try.results22, go_sem, e0, e1]) rfl ⟨by rw [HAc2.out, HM2.out], Below.setCell (Below.setCell hb (by show w.heap.size ≤ w.heap.size + 1; omega) _) (by show w.heap.size ≤ w.heap.size + 1; omega) _⟩

end Go.Proofs.Ytillcmddbjhepaa
