/-
  The walk of the specification's Merge.
-/
import Derived.Test.YtcodoakfomddfaaT4
namespace Go.Proofs.Ytcodoakfomddfaa
open Go Go.RowKit Go.Joins
set_option linter.unusedVariables false
set_option linter.unusedSimpArgs false

/-- The last joined event continues as the last event does. -/
theorem mg_last {l : List Ev} {n : Nat} (hn : n < l.length) : ∃ q m, mg (l.take (n + 1)) = q ++ [m] ∧ ∀ e, tcE m e = tcE l[n] e := by
  rw [mg_take hn]
  rcases ev_nil_or_snoc (mg (l.take n)) with h | ⟨q, m, h⟩
  · rw [h, mgs_nil]
    exact ⟨[], l[n], rfl, fun _ => rfl⟩
  · rw [h, mgs_snoc]
    by_cases ht : tcE m l[n] = true
    · rw [if_pos ht]
      obtain ⟨h1, h2, h3, h4⟩ := (tcE_iff _ _).1 ht
      refine ⟨q, _, rfl, fun e => ?_⟩
      have e1 : plE { m with t := l[n].t } = plE m := rfl
      unfold tcE
      rw [e1, h1, h2, h3]
    · rw [if_neg ht]
      exact ⟨q ++ [m], l[n], rfl, fun _ => rfl⟩
theorem held_rmg {wr w w' : World} {g o n : Nat} {x0 x1 x2 x3 x4 : Int} {x5 : ByteArray} {x6 : Int} {y0 y1 y2 y3 y4 : Int} {y5 : ByteArray} {y6 : Int} (h : w.cell? ⟨g, o + (n + 1) * 7, none⟩ = some (.int .i64 x0) ∧ w.cell? ⟨g, o + (n + 1) * 7 + 1, none⟩ = some (.int .i64 x1) ∧ w.cell? ⟨g, o + (n + 1) * 7 + 2, none⟩ = some (.int .i64 x2) ∧ w.cell? ⟨g, o + (n + 1) * 7 + 3, none⟩ = some (.int .i64 x3) ∧ w.cell? ⟨g, o + (n + 1) * 7 + 4, none⟩ = some (.int .i64 x4) ∧ w.cell? ⟨g, o + (n + 1) * 7 + 5, none⟩ = some (.string x5) ∧ w.cell? ⟨g, o + (n + 1) * 7 + 6, none⟩ = some (.int .i64 x6) ∧ w.cell? ⟨g, o + n * 7, none⟩ = some (.int .i64 y0) ∧ w.cell? ⟨g, o + n * 7 + 1, none⟩ = some (.int .i64 y1) ∧ w.cell? ⟨g, o + n * 7 + 2, none⟩ = some (.int .i64 y2) ∧ w.cell? ⟨g, o + n * 7 + 3, none⟩ = some (.int .i64 y3) ∧ w.cell? ⟨g, o + n * 7 + 4, none⟩ = some (.int .i64 y4) ∧ w.cell? ⟨g, o + n * 7 + 5, none⟩ = some (.string y5) ∧ w.cell? ⟨g, o + n * 7 + 6, none⟩ = some (.int .i64 y6) ∧ Below wr.heap.size wr w ∧ g < w.heap.size) (hb : Below w.heap.size w w') : w'.cell? ⟨g, o + (n + 1) * 7, none⟩ = some (.int .i64 x0) ∧ w'.cell? ⟨g, o + (n + 1) * 7 + 1, none⟩ = some (.int .i64 x1) ∧ w'.cell? ⟨g, o + (n + 1) * 7 + 2, none⟩ = some (.int .i64 x2) ∧ w'.cell? ⟨g, o + (n + 1) * 7 + 3, none⟩ = some (.int .i64 x3) ∧ w'.cell? ⟨g, o + (n + 1) * 7 + 4, none⟩ = some (.int .i64 x4) ∧ w'.cell? ⟨g, o + (n + 1) * 7 + 5, none⟩ = some (.string x5) ∧ w'.cell? ⟨g, o + (n + 1) * 7 + 6, none⟩ = some (.int .i64 x6) ∧ w'.cell? ⟨g, o + n * 7, none⟩ = some (.int .i64 y0) ∧ w'.cell? ⟨g, o + n * 7 + 1, none⟩ = some (.int .i64 y1) ∧ w'.cell? ⟨g, o + n * 7 + 2, none⟩ = some (.int .i64 y2) ∧ w'.cell? ⟨g, o + n * 7 + 3, none⟩ = some (.int .i64 y3) ∧ w'.cell? ⟨g, o + n * 7 + 4, none⟩ = some (.int .i64 y4) ∧ w'.cell? ⟨g, o + n * 7 + 5, none⟩ = some (.string y5) ∧ w'.cell? ⟨g, o + n * 7 + 6, none⟩ = some (.int .i64 y6) ∧ Below wr.heap.size wr w' ∧ g < w'.heap.size := by
  obtain ⟨a0, a1, a2, a3, a4, a5, a6, b0, b1, b2, b3, b4, b5, b6, hB, l1⟩ := h
  have hs := hb.size
  exact ⟨(hb.cell l1).trans a0, (hb.cell l1).trans a1, (hb.cell l1).trans a2, (hb.cell l1).trans a3, (hb.cell l1).trans a4, (hb.cell l1).trans a5, (hb.cell l1).trans a6, (hb.cell l1).trans b0, (hb.cell l1).trans b1, (hb.cell l1).trans b2, (hb.cell l1).trans b3, (hb.cell l1).trans b4, (hb.cell l1).trans b5, (hb.cell l1).trans b6, hB.trans (hb.mono hB.size), by omega⟩

set_option maxRecDepth 20000 in
set_option maxHeartbeats 16000000 in
theorem refMerge_any (l : List Ev) (V : Value) (w : World) (hT : EvArg w V l) (hn : l.length ≤ 2199023255550) : Calls Try.prog 14 #[V] w fun e w' => ∃ v : Value, e = .returned v ∧ EvRow w' w.heap.size v (mg l) ∧ Below w.heap.size w w' := by
  have CI := Lib.hid (fun k f t v a s u W => refPlain_xy k f t v a s u W)
  obtain ⟨A0, c0, rfl, hA0⟩ := hT
  have HA := Lib.hid hA0
  clear hA0
  go_enter Try.func14, Try.ntmps14
  go_wp2_with (first
    | (at_make; go_must (refine wpList_room_k (n := l.length) (enc := evC) Try.underlying26 ev_info rfl _ _ rfl rfl rfl rfl (by omega) (by omega) (Nat.le_refl _) ?_; intro w1 R1 b1; have HR1 := Lib.hid R1; have HB1 := Lib.hid b1; clear R1 b1)))
  go_loopw [4, 3] (fun i r wr => ∃ (j : Nat), j ≤ l.length ∧ i = .int .i64 j ∧ Hid (EvRow wr w.heap.size r (mg (l.take j))) ∧ Hid (Below w.heap.size w wr)) (fun i _ _ => l.length - (intOf i).toNat)
  case atStart => exact ⟨0, Nat.zero_le _, rfl, Lib.hid HR1.out, Lib.hid HB1.out⟩
  case round =>
    obtain ⟨j, hj, rfl, HR, HB⟩ := hrel
    have hb := HB.out
    by_cases hjl : j < l.length
    · obtain ⟨g, o, rfl, hg, hc⟩ := HA.out (by omega)
      obtain ⟨a0, a1, a2, a3, a4, a5, a6⟩ := arg_seven hc j hjl
      have f0 := (hb.cell (p := ⟨g, o + j * 7, none⟩) hg).trans a0
      have f1 := (hb.cell (p := ⟨g, o + j * 7 + 1, none⟩) hg).trans a1
      have f2 := (hb.cell (p := ⟨g, o + j * 7 + 2, none⟩) hg).trans a2
      have f3 := (hb.cell (p := ⟨g, o + j * 7 + 3, none⟩) hg).trans a3
      have f4 := (hb.cell (p := ⟨g, o + j * 7 + 4, none⟩) hg).trans a4
      have f5 := (hb.cell (p := ⟨g, o + j * 7 + 5, none⟩) hg).trans a5
      have f6 := (hb.cell (p := ⟨g, o + j * 7 + 6, none⟩) hg).trans a6
      have HM := Lib.hid (mg_take hjl)
      have hml := mg_len l j hj
      have hev : Hid (l[j] = ⟨l[j].k, l[j].f, l[j].t, l[j].v, l[j].a, (⟨l[j].d.toArray⟩ : ByteArray).data.toList, l[j].u⟩) := Lib.hid rfl
      have hgr : g < wr.heap.size := Nat.lt_of_lt_of_le hg hb.size
      clear a0 a1 a2 a3 a4 a5 a6
      by_cases hj0 : j = 0
      · subst hj0
        have hz : mg (l.take 0) = [] := by simp [mg]
        rw [hz] at HM HR
        have HM' : Hid (mg (l.take (0 + 1)) = [] ++ [⟨l[0].k, l[0].f, l[0].t, l[0].v, l[0].a, (⟨l[0].d.toArray⟩ : ByteArray).data.toList, l[0].u⟩]) := Lib.hid (by rw [HM.out, mgs_nil, ← hev.out]; rfl)
        simp only [Nat.zero_mul, Nat.add_zero] at f0 f1 f2 f3 f4 f5 f6
        generalize (⟨l[0].d.toArray⟩ : ByteArray) = x5 at *
        generalize l[0].k = x0 at *
        generalize l[0].f = x1 at *
        generalize l[0].t = x2 at *
        generalize l[0].v = x3 at *
        generalize l[0].a = x4 at *
        generalize l[0].u = x6 at *
        clear HM hev hc hz
        obtain ⟨UA, UN, UC, rfl, hUN⟩ := HR.out.form
        obtain rfl : UN = 0 := hUN
        have hk0 : decide ((0 : Int) < 0) = false := by decide
        have hle := hb.size
        go_wp2
        go_quiet (fail)
        go_wp2_with (first
          | (at_builtin; go_must (refine wpList_append_ev2 rfl _ _ rfl rfl rfl rfl (by first | rfl | (simp only [World.size_alloc]; done)) (HR.out.drewN _) hle (by simp) ?_; intro v5 w5 R5 b5 n5)))
        go_roundw
        case rel => exact ⟨1, by omega, rfl, Lib.hid (by rw [HM'.out]; exact R5), Lib.hid (hb.trans ((Go.below_drewN (Below.refl _ _) _).trans b5))⟩
        case measure => simp [intOf]; omega
      · obtain ⟨n, hnj⟩ : ∃ n, j = n + 1 := ⟨j - 1, by omega⟩
        have hnl : n < l.length := by omega
        obtain ⟨q, m, hqm, htc0⟩ := mg_last hnl
        subst hnj
        obtain ⟨a0, a1, a2, a3, a4, a5, a6⟩ := arg_seven hc n hnl
        have g0 := (hb.cell (p := ⟨g, o + n * 7, none⟩) hg).trans a0
        have g1 := (hb.cell (p := ⟨g, o + n * 7 + 1, none⟩) hg).trans a1
        have g2 := (hb.cell (p := ⟨g, o + n * 7 + 2, none⟩) hg).trans a2
        have g3 := (hb.cell (p := ⟨g, o + n * 7 + 3, none⟩) hg).trans a3
        have g4 := (hb.cell (p := ⟨g, o + n * 7 + 4, none⟩) hg).trans a4
        have g5 := (hb.cell (p := ⟨g, o + n * 7 + 5, none⟩) hg).trans a5
        have g6 := (hb.cell (p := ⟨g, o + n * 7 + 6, none⟩) hg).trans a6
        have htc := htc0 l[n + 1]
        clear htc0 a0 a1 a2 a3 a4 a5 a6 hc
        rw [show tcE l[n] l[n + 1] = (plF l[n].k l[n].a ⟨l[n].d.toArray⟩ l[n].u && (plF l[n + 1].k l[n + 1].a ⟨l[n + 1].d.toArray⟩ l[n + 1].u && (l[n].v == l[n + 1].v && l[n].t == l[n + 1].f))) from rfl] at htc
        have HMM := HM.out
        rw [hqm, mgs_snoc, htc] at HMM
        have HM1 : mg (l.take (n + 1 + 1)) = if (plF l[n].k l[n].a ⟨l[n].d.toArray⟩ l[n].u && (plF l[n + 1].k l[n + 1].a ⟨l[n + 1].d.toArray⟩ l[n + 1].u && (l[n].v == l[n + 1].v && l[n].t == l[n + 1].f))) = true then q ++ [{ m with t := l[n + 1].t }] else q ++ [m] ++ [⟨l[n + 1].k, l[n + 1].f, l[n + 1].t, l[n + 1].v, l[n + 1].a, (⟨l[n + 1].d.toArray⟩ : ByteArray).data.toList, l[n + 1].u⟩] := HMM
        clear HMM htc hev HM
        rw [hqm] at HR hml
        generalize (⟨l[n + 1].d.toArray⟩ : ByteArray) = x5 at *
        generalize l[n + 1].k = x0 at *
        generalize l[n + 1].f = x1 at *
        generalize l[n + 1].t = x2 at *
        generalize l[n + 1].v = x3 at *
        generalize l[n + 1].a = x4 at *
        generalize l[n + 1].u = x6 at *
        generalize (⟨l[n].d.toArray⟩ : ByteArray) = y5 at *
        generalize l[n].k = y0 at *
        generalize l[n].f = y1 at *
        generalize l[n].t = y2 at *
        generalize l[n].v = y3 at *
        generalize l[n].a = y4 at *
        generalize l[n].u = y6 at *
        have CX : Hid (∀ W, Calls Try.prog 32 #[.agg (evA x0 x1 x2 x3 x4 x5 x6)] W fun e w' => e = .returned (.bool (plF x0 x4 x5 x6)) ∧ Below W.heap.size W w') := Lib.hid fun W => CI.out _ _ _ _ _ _ _ W
        have CY : Hid (∀ W, Calls Try.prog 32 #[.agg (evA y0 y1 y2 y3 y4 y5 y6)] W fun e w' => e = .returned (.bool (plF y0 y4 y5 y6)) ∧ Below W.heap.size W w') := Lib.hid fun W => CI.out _ _ _ _ _ _ _ W
        generalize plF x0 x4 x5 x6 = px at HM1 CX
        generalize plF y0 y4 y5 y6 = py at HM1 CY
        have HM2 := Lib.hid HM1
        have hlen : (q ++ [m]).length = q.length + 1 := by simp
        obtain ⟨h2, c2, rfl⟩ := HR.out.full (by omega)
        obtain ⟨hN, hNc, hBg, hgw⟩ := HR.out.len
        have HT := Lib.hid (fun (W : World) (h : EvRow W w.heap.size (.slice (some ⟨h2, 0, none⟩) (q ++ [m]).length c2) (q ++ [m])) t => row_to h t)
        have hk0 : decide ((0 : Int) < ((n + 1 : Nat) : Int)) = true := decide_eq_true (by omega)
        have hk6 : (n : Int) + 1 < (l.length : Int) := by omega
        have hk9 : (0 : Int) ≤ (n : Int) + 1 := by omega
        have hk10 : ((n : Int) + 1).toNat = n + 1 := by omega
        have hk7 : IntKind.i64.wrap (n : Int) = (n : Int) := IntWalk.i64_in _ (by omega)
        have hk8 : IntKind.i64.wrap ((n : Int) + 1 - 1) = (n : Int) := by rw [IntWalk.i64_in _ (by omega)]; omega
        have hk3 : (0 : Int) ≤ (n : Int) := by omega
        have hk4 : (n : Int) < (l.length : Int) := by omega
        have hk5 : (0 : Int) < (n : Int) + 1 := by omega
        have hr2 := row_seven HR.out
        rw [hlen] at hml hN hNc HR HT
        clear HM1 CI
        rw [hlen]
        generalize q.length = K at *
        have hs2 : wr.cell? ⟨g, o + (n + 1) * 7, none⟩ = some (.int .i64 x0) ∧ wr.cell? ⟨g, o + (n + 1) * 7 + 1, none⟩ = some (.int .i64 x1) ∧ wr.cell? ⟨g, o + (n + 1) * 7 + 2, none⟩ = some (.int .i64 x2) ∧ wr.cell? ⟨g, o + (n + 1) * 7 + 3, none⟩ = some (.int .i64 x3) ∧ wr.cell? ⟨g, o + (n + 1) * 7 + 4, none⟩ = some (.int .i64 x4) ∧ wr.cell? ⟨g, o + (n + 1) * 7 + 5, none⟩ = some (.string x5) ∧ wr.cell? ⟨g, o + (n + 1) * 7 + 6, none⟩ = some (.int .i64 x6) ∧ wr.cell? ⟨g, o + n * 7, none⟩ = some (.int .i64 y0) ∧ wr.cell? ⟨g, o + n * 7 + 1, none⟩ = some (.int .i64 y1) ∧ wr.cell? ⟨g, o + n * 7 + 2, none⟩ = some (.int .i64 y2) ∧ wr.cell? ⟨g, o + n * 7 + 3, none⟩ = some (.int .i64 y3) ∧ wr.cell? ⟨g, o + n * 7 + 4, none⟩ = some (.int .i64 y4) ∧ wr.cell? ⟨g, o + n * 7 + 5, none⟩ = some (.string y5) ∧ wr.cell? ⟨g, o + n * 7 + 6, none⟩ = some (.int .i64 y6) ∧ Below wr.heap.size wr wr ∧ g < wr.heap.size := ⟨f0, f1, f2, f3, f4, f5, f6, g0, g1, g2, g3, g4, g5, g6, Below.refl _ _, hgr⟩
        have hs := Lib.hid hs2
        have HR27 := Lib.hid hr2.2.2.1
        clear hs2 f0 f1 f2 f3 f4 f5 f6 g0 g1 g2 g3 g4 g5 g6 hr2
        go_wp2
        cases hpy : py
        · subst hpy
          have HM3 : Hid (mg (l.take (n + 1 + 1)) = q ++ [m] ++ [⟨x0, x1, x2, x3, x4, x5.data.toList, x6⟩]) := Lib.hid (by rw [HM2.out, if_neg (by simp)])
          clear HM2
          refine wp_region_held_drew (S := fun w' => w'.cell? ⟨g, o + (n + 1) * 7, none⟩ = some (.int .i64 x0) ∧ w'.cell? ⟨g, o + (n + 1) * 7 + 1, none⟩ = some (.int .i64 x1) ∧ w'.cell? ⟨g, o + (n + 1) * 7 + 2, none⟩ = some (.int .i64 x2) ∧ w'.cell? ⟨g, o + (n + 1) * 7 + 3, none⟩ = some (.int .i64 x3) ∧ w'.cell? ⟨g, o + (n + 1) * 7 + 4, none⟩ = some (.int .i64 x4) ∧ w'.cell? ⟨g, o + (n + 1) * 7 + 5, none⟩ = some (.string x5) ∧ w'.cell? ⟨g, o + (n + 1) * 7 + 6, none⟩ = some (.int .i64 x6) ∧ w'.cell? ⟨g, o + n * 7, none⟩ = some (.int .i64 y0) ∧ w'.cell? ⟨g, o + n * 7 + 1, none⟩ = some (.int .i64 y1) ∧ w'.cell? ⟨g, o + n * 7 + 2, none⟩ = some (.int .i64 y2) ∧ w'.cell? ⟨g, o + n * 7 + 3, none⟩ = some (.int .i64 y3) ∧ w'.cell? ⟨g, o + n * 7 + 4, none⟩ = some (.int .i64 y4) ∧ w'.cell? ⟨g, o + n * 7 + 5, none⟩ = some (.string y5) ∧ w'.cell? ⟨g, o + n * 7 + 6, none⟩ = some (.int .i64 y6) ∧ Below wr.heap.size wr w' ∧ g < w'.heap.size) (by kernel_rfl) ?_ (fun hH => ?_)
          · exact held_rmg hs.out (Below.refl _ _).drew
          refine wpAnyH_take (i := 0) (oi := { dst := some 14, op := Go.Op.move (Go.Operand.tmp 4), type := 3, pos := "ref.go:74", after := #[], guard := none }) (v := ?_) rfl ?_ ?_ ?_ ?_ (Or.inl ⟨?_, ?_⟩) hH ?_
          rotate_left
          · kernel_rfl
          · kernel_rfl
          · kernel_rfl
          · exact fun _ _ _ h => h
          · kernel_rfl
          · intro wS hSw
            try dsimp only at hSw
            go_simp
            try with_reducible rfl
          try simp only [Act.put, List.setIfInBounds_toArray, List.set_cons_zero, List.set_cons_succ]
          refine wpAnyH_take (i := 1) (oi := { dst := some 15, op := Go.Op.binOp Go.BinOp.gtr 3 (Go.Operand.tmp 14) (Go.Operand.const (Go.Value.int Go.IntKind.i64 0)) 3, type := 4, pos := "ref.go:74", after := #[{ on := 0, ground := Go.Ground.data }], guard := none }) (v := ?_) rfl ?_ ?_ ?_ ?_ (Or.inl ⟨?_, ?_⟩) hH ?_
          rotate_left
          · kernel_rfl
          · kernel_rfl
          · kernel_rfl
          · exact fun _ _ _ h => h
          · kernel_rfl
          · intro wS hSw
            try dsimp only at hSw
            go_simp
            try with_reducible rfl
          try simp only [Act.put, List.setIfInBounds_toArray, List.set_cons_zero, List.set_cons_succ]
          refine wpAnyH_take (i := 2) (oi := { dst := some 16, op := Go.Op.move (Go.Operand.tmp 15), type := 4, pos := "ref.go:74", after := #[{ on := 1, ground := Go.Ground.data }], guard := none }) (v := ?_) rfl ?_ ?_ ?_ ?_ (Or.inl ⟨?_, ?_⟩) hH ?_
          rotate_left
          · kernel_rfl
          · kernel_rfl
          · kernel_rfl
          · exact fun _ _ _ h => h
          · kernel_rfl
          · intro wS hSw
            try dsimp only at hSw
            go_simp
            try with_reducible rfl
          try simp only [Act.put, List.setIfInBounds_toArray, List.set_cons_zero, List.set_cons_succ]
          refine wpAnyH_take (i := 3) (oi := { dst := some 17, op := Go.Op.move (Go.Operand.tmp 0), type := 26, pos := "ref.go:74", after := #[{ on := 2, ground := Go.Ground.guard }], guard := some (2, true) }) (v := ?_) rfl ?_ ?_ ?_ ?_ (Or.inl ⟨?_, ?_⟩) hH ?_
          rotate_left
          · kernel_rfl
          · kernel_rfl
          · kernel_rfl
          · exact fun _ _ _ h => h
          · kernel_rfl
          · intro wS hSw
            try dsimp only at hSw
            go_simp
            try with_reducible rfl
          try simp only [Act.put, List.setIfInBounds_toArray, List.set_cons_zero, List.set_cons_succ]
          refine wpAnyH_take (i := 4) (oi := { dst := some 18, op := Go.Op.move (Go.Operand.tmp 4), type := 3, pos := "ref.go:74", after := #[{ on := 2, ground := Go.Ground.guard }], guard := some (2, true) }) (v := ?_) rfl ?_ ?_ ?_ ?_ (Or.inl ⟨?_, ?_⟩) hH ?_
          rotate_left
          · kernel_rfl
          · kernel_rfl
          · kernel_rfl
          · exact fun _ _ _ h => h
          · kernel_rfl
          · intro wS hSw
            try dsimp only at hSw
            go_simp
            try with_reducible rfl
          try simp only [Act.put, List.setIfInBounds_toArray, List.set_cons_zero, List.set_cons_succ]
          refine wpAnyH_take (i := 5) (oi := { dst := some 19, op := Go.Op.binOp Go.BinOp.sub 3 (Go.Operand.tmp 18) (Go.Operand.const (Go.Value.int Go.IntKind.i64 1)) 3, type := 3, pos := "ref.go:74", after := #[{ on := 4, ground := Go.Ground.data }, { on := 2, ground := Go.Ground.guard }], guard := some (2, true) }) (v := ?_) rfl ?_ ?_ ?_ ?_ (Or.inl ⟨?_, ?_⟩) hH ?_
          rotate_left
          · kernel_rfl
          · kernel_rfl
          · kernel_rfl
          · exact fun _ _ _ h => h
          · kernel_rfl
          · intro wS hSw
            try dsimp only at hSw
            go_simp
            try with_reducible rfl
          try simp only [Act.put, List.setIfInBounds_toArray, List.set_cons_zero, List.set_cons_succ]
          refine wpAnyH_take (i := 6) (oi := { dst := some 20, op := Go.Op.indexAddr 26 (Go.Operand.tmp 17) (Go.Operand.tmp 19), type := 0, pos := "ref.go:74", after := #[{ on := 3, ground := Go.Ground.data }, { on := 5, ground := Go.Ground.data }, { on := 2, ground := Go.Ground.guard }], guard := some (2, true) }) (v := ?_) rfl ?_ ?_ ?_ ?_ (Or.inl ⟨?_, ?_⟩) hH ?_
          rotate_left
          · kernel_rfl
          · kernel_rfl
          · kernel_rfl
          · exact fun _ _ _ h => h
          · kernel_rfl
          · intro wS hSw
            try dsimp only at hSw
            go_simp
            try with_reducible rfl
          try simp only [Act.put, List.setIfInBounds_toArray, List.set_cons_zero, List.set_cons_succ]
          refine wpAnyH_take (i := 7) (oi := { dst := some 21, op := Go.Op.load 48 (Go.Operand.tmp 20), type := 48, pos := "ref.go:74", after := #[{ on := 6, ground := Go.Ground.data }, { on := 2, ground := Go.Ground.guard }], guard := some (2, true) }) (v := ?_) rfl ?_ ?_ ?_ ?_ (Or.inl ⟨?_, ?_⟩) hH ?_
          rotate_left
          · kernel_rfl
          · kernel_rfl
          · kernel_rfl
          · exact fun _ _ _ h => h
          · kernel_rfl
          · intro wS hSw
            try dsimp only at hSw
            go_simp
            try with_reducible rfl
          try simp only [Act.put, List.setIfInBounds_toArray, List.set_cons_zero, List.set_cons_succ]
          refine wpAnyH_ready (rs := [8]) (by kernel_rfl) (by simp) ?_
          refine AllReadyH.cons (o := { dst := some 22, op := Go.Op.call { callee := Go.Callee.value (Go.Operand.func 32), args := #[Go.Operand.tmp 21], argTypes := #[48] }, type := 4, pos := "ref.go:74", after := #[{ on := 7, ground := Go.Ground.data }, { on := 2, ground := Go.Ground.chain }, { on := 2, ground := Go.Ground.guard }], guard := some (2, true) }) rfl (fun K hK => ?_) AllReadyH.nil
          go_simp
          refine (CY.out _).mono ?_
          rintro e8 w8 ⟨rfl, b8⟩
          try go_wp2_with fail
          refine hK.out _ _ ?_ (fun hH2 => ?_)
          · exact held_rmg hH b8
          clear hK K hH
          try simp only [Act.put, List.setIfInBounds_toArray, List.set_cons_zero, List.set_cons_succ]
          refine wpAnyH_take (i := 9) (oi := { dst := some 23, op := Go.Op.pick (Go.Operand.tmp 16) (Go.Operand.tmp 22) (Go.Operand.const (Go.Value.bool false)), type := 4, pos := "ref.go:74", after := #[{ on := 2, ground := Go.Ground.data }, { on := 8, ground := Go.Ground.data }], guard := none }) (v := ?_) rfl ?_ ?_ ?_ ?_ (Or.inl ⟨?_, ?_⟩) hH2 ?_
          rotate_left
          · kernel_rfl
          · kernel_rfl
          · kernel_rfl
          · exact fun _ _ _ h => h
          · kernel_rfl
          · intro wS hSw
            try dsimp only at hSw
            go_simp
            try with_reducible rfl
          try simp only [Act.put, List.setIfInBounds_toArray, List.set_cons_zero, List.set_cons_succ]
          refine wpAnyH_take (i := 10) (oi := { dst := some 24, op := Go.Op.move (Go.Operand.tmp 23), type := 4, pos := "ref.go:74", after := #[{ on := 9, ground := Go.Ground.data }, { on := 8, ground := Go.Ground.chain }], guard := none }) (v := ?_) rfl ?_ ?_ ?_ ?_ (Or.inl ⟨?_, ?_⟩) hH2 ?_
          rotate_left
          · kernel_rfl
          · kernel_rfl
          · kernel_rfl
          · exact fun _ _ _ h => h
          · kernel_rfl
          · intro wS hSw
            try dsimp only at hSw
            go_simp
            try with_reducible rfl
          try simp only [Act.put, List.setIfInBounds_toArray, List.set_cons_zero, List.set_cons_succ]
          refine wpAnyH_take (i := 11) (oi := { dst := some 25, op := Go.Op.move (Go.Operand.tmp 0), type := 26, pos := "ref.go:74", after := #[{ on := 10, ground := Go.Ground.guard }], guard := some (10, true) }) (v := undef) rfl ?_ ?_ ?_ ?_ ?_ hH2 ?_
          · kernel_rfl
          · kernel_rfl
          · kernel_rfl
          · exact fun _ _ _ h => h
          · exact Or.inr ⟨by kernel_rfl, rfl⟩
          try simp only [Act.put, List.setIfInBounds_toArray, List.set_cons_zero, List.set_cons_succ]
          refine wpAnyH_take (i := 12) (oi := { dst := some 26, op := Go.Op.move (Go.Operand.tmp 4), type := 3, pos := "ref.go:74", after := #[{ on := 10, ground := Go.Ground.guard }], guard := some (10, true) }) (v := undef) rfl ?_ ?_ ?_ ?_ ?_ hH2 ?_
          · kernel_rfl
          · kernel_rfl
          · kernel_rfl
          · exact fun _ _ _ h => h
          · exact Or.inr ⟨by kernel_rfl, rfl⟩
          try simp only [Act.put, List.setIfInBounds_toArray, List.set_cons_zero, List.set_cons_succ]
          refine wpAnyH_take (i := 13) (oi := { dst := some 27, op := Go.Op.indexAddr 26 (Go.Operand.tmp 25) (Go.Operand.tmp 26), type := 0, pos := "ref.go:74", after := #[{ on := 11, ground := Go.Ground.data }, { on := 12, ground := Go.Ground.data }, { on := 10, ground := Go.Ground.guard }], guard := some (10, true) }) (v := undef) rfl ?_ ?_ ?_ ?_ ?_ hH2 ?_
          · kernel_rfl
          · kernel_rfl
          · kernel_rfl
          · exact fun _ _ _ h => h
          · exact Or.inr ⟨by kernel_rfl, rfl⟩
          try simp only [Act.put, List.setIfInBounds_toArray, List.set_cons_zero, List.set_cons_succ]
          refine wpAnyH_take (i := 14) (oi := { dst := some 28, op := Go.Op.load 48 (Go.Operand.tmp 27), type := 48, pos := "ref.go:74", after := #[{ on := 13, ground := Go.Ground.data }, { on := 10, ground := Go.Ground.guard }], guard := some (10, true) }) (v := undef) rfl ?_ ?_ ?_ ?_ ?_ hH2 ?_
          · kernel_rfl
          · kernel_rfl
          · kernel_rfl
          · exact fun _ _ _ h => h
          · exact Or.inr ⟨by kernel_rfl, rfl⟩
          try simp only [Act.put, List.setIfInBounds_toArray, List.set_cons_zero, List.set_cons_succ]
          refine wpAnyH_take (i := 15) (oi := { dst := some 29, op := Go.Op.call { callee := Go.Callee.value (Go.Operand.func 32), args := #[Go.Operand.tmp 28], argTypes := #[48] }, type := 4, pos := "ref.go:74", after := #[{ on := 14, ground := Go.Ground.data }, { on := 10, ground := Go.Ground.chain }, { on := 10, ground := Go.Ground.guard }], guard := some (10, true) }) (v := undef) rfl ?_ ?_ ?_ ?_ ?_ hH2 ?_
          · kernel_rfl
          · kernel_rfl
          · kernel_rfl
          · exact fun _ _ _ h => h
          · exact Or.inr ⟨by kernel_rfl, rfl⟩
          try simp only [Act.put, List.setIfInBounds_toArray, List.set_cons_zero, List.set_cons_succ]
          refine wpAnyH_take (i := 16) (oi := { dst := some 30, op := Go.Op.pick (Go.Operand.tmp 24) (Go.Operand.tmp 29) (Go.Operand.const (Go.Value.bool false)), type := 4, pos := "ref.go:74", after := #[{ on := 10, ground := Go.Ground.data }, { on := 15, ground := Go.Ground.data }], guard := none }) (v := ?_) rfl ?_ ?_ ?_ ?_ (Or.inl ⟨?_, ?_⟩) hH2 ?_
          rotate_left
          · kernel_rfl
          · kernel_rfl
          · kernel_rfl
          · exact fun _ _ _ h => h
          · kernel_rfl
          · intro wS hSw
            try dsimp only at hSw
            go_simp
            try with_reducible rfl
          try simp only [Act.put, List.setIfInBounds_toArray, List.set_cons_zero, List.set_cons_succ]
          refine wpAnyH_take (i := 17) (oi := { dst := some 31, op := Go.Op.move (Go.Operand.tmp 30), type := 4, pos := "ref.go:74", after := #[{ on := 16, ground := Go.Ground.data }, { on := 15, ground := Go.Ground.chain }], guard := none }) (v := ?_) rfl ?_ ?_ ?_ ?_ (Or.inl ⟨?_, ?_⟩) hH2 ?_
          rotate_left
          · kernel_rfl
          · kernel_rfl
          · kernel_rfl
          · exact fun _ _ _ h => h
          · kernel_rfl
          · intro wS hSw
            try dsimp only at hSw
            go_simp
            try with_reducible rfl
          try simp only [Act.put, List.setIfInBounds_toArray, List.set_cons_zero, List.set_cons_succ]
          refine wpAnyH_take (i := 18) (oi := { dst := some 32, op := Go.Op.move (Go.Operand.tmp 0), type := 26, pos := "ref.go:74", after := #[{ on := 17, ground := Go.Ground.guard }], guard := some (17, true) }) (v := undef) rfl ?_ ?_ ?_ ?_ ?_ hH2 ?_
          · kernel_rfl
          · kernel_rfl
          · kernel_rfl
          · exact fun _ _ _ h => h
          · exact Or.inr ⟨by kernel_rfl, rfl⟩
          try simp only [Act.put, List.setIfInBounds_toArray, List.set_cons_zero, List.set_cons_succ]
          refine wpAnyH_take (i := 19) (oi := { dst := some 33, op := Go.Op.move (Go.Operand.tmp 4), type := 3, pos := "ref.go:74", after := #[{ on := 17, ground := Go.Ground.guard }], guard := some (17, true) }) (v := undef) rfl ?_ ?_ ?_ ?_ ?_ hH2 ?_
          · kernel_rfl
          · kernel_rfl
          · kernel_rfl
          · exact fun _ _ _ h => h
          · exact Or.inr ⟨by kernel_rfl, rfl⟩
          try simp only [Act.put, List.setIfInBounds_toArray, List.set_cons_zero, List.set_cons_succ]
          refine wpAnyH_take (i := 20) (oi := { dst := some 34, op := Go.Op.binOp Go.BinOp.sub 3 (Go.Operand.tmp 33) (Go.Operand.const (Go.Value.int Go.IntKind.i64 1)) 3, type := 3, pos := "ref.go:74", after := #[{ on := 19, ground := Go.Ground.data }, { on := 17, ground := Go.Ground.guard }], guard := some (17, true) }) (v := undef) rfl ?_ ?_ ?_ ?_ ?_ hH2 ?_
          · kernel_rfl
          · kernel_rfl
          · kernel_rfl
          · exact fun _ _ _ h => h
          · exact Or.inr ⟨by kernel_rfl, rfl⟩
          try simp only [Act.put, List.setIfInBounds_toArray, List.set_cons_zero, List.set_cons_succ]
          refine wpAnyH_take (i := 21) (oi := { dst := some 35, op := Go.Op.indexAddr 26 (Go.Operand.tmp 32) (Go.Operand.tmp 34), type := 0, pos := "ref.go:74", after := #[{ on := 18, ground := Go.Ground.data }, { on := 20, ground := Go.Ground.data }, { on := 17, ground := Go.Ground.guard }], guard := some (17, true) }) (v := undef) rfl ?_ ?_ ?_ ?_ ?_ hH2 ?_
          · kernel_rfl
          · kernel_rfl
          · kernel_rfl
          · exact fun _ _ _ h => h
          · exact Or.inr ⟨by kernel_rfl, rfl⟩
          try simp only [Act.put, List.setIfInBounds_toArray, List.set_cons_zero, List.set_cons_succ]
          refine wpAnyH_take (i := 22) (oi := { dst := some 36, op := Go.Op.fieldAddr 48 (Go.Operand.tmp 35) 3, type := 0, pos := "ref.go:74", after := #[{ on := 21, ground := Go.Ground.data }, { on := 17, ground := Go.Ground.guard }], guard := some (17, true) }) (v := undef) rfl ?_ ?_ ?_ ?_ ?_ hH2 ?_
          · kernel_rfl
          · kernel_rfl
          · kernel_rfl
          · exact fun _ _ _ h => h
          · exact Or.inr ⟨by kernel_rfl, rfl⟩
          try simp only [Act.put, List.setIfInBounds_toArray, List.set_cons_zero, List.set_cons_succ]
          refine wpAnyH_take (i := 23) (oi := { dst := some 37, op := Go.Op.load 3 (Go.Operand.tmp 36), type := 3, pos := "ref.go:74", after := #[{ on := 22, ground := Go.Ground.data }, { on := 17, ground := Go.Ground.guard }], guard := some (17, true) }) (v := undef) rfl ?_ ?_ ?_ ?_ ?_ hH2 ?_
          · kernel_rfl
          · kernel_rfl
          · kernel_rfl
          · exact fun _ _ _ h => h
          · exact Or.inr ⟨by kernel_rfl, rfl⟩
          try simp only [Act.put, List.setIfInBounds_toArray, List.set_cons_zero, List.set_cons_succ]
          refine wpAnyH_take (i := 24) (oi := { dst := some 38, op := Go.Op.move (Go.Operand.tmp 0), type := 26, pos := "ref.go:74", after := #[{ on := 17, ground := Go.Ground.guard }], guard := some (17, true) }) (v := undef) rfl ?_ ?_ ?_ ?_ ?_ hH2 ?_
          · kernel_rfl
          · kernel_rfl
          · kernel_rfl
          · exact fun _ _ _ h => h
          · exact Or.inr ⟨by kernel_rfl, rfl⟩
          try simp only [Act.put, List.setIfInBounds_toArray, List.set_cons_zero, List.set_cons_succ]
          refine wpAnyH_take (i := 25) (oi := { dst := some 39, op := Go.Op.move (Go.Operand.tmp 4), type := 3, pos := "ref.go:74", after := #[{ on := 17, ground := Go.Ground.guard }], guard := some (17, true) }) (v := undef) rfl ?_ ?_ ?_ ?_ ?_ hH2 ?_
          · kernel_rfl
          · kernel_rfl
          · kernel_rfl
          · exact fun _ _ _ h => h
          · exact Or.inr ⟨by kernel_rfl, rfl⟩
          try simp only [Act.put, List.setIfInBounds_toArray, List.set_cons_zero, List.set_cons_succ]
          refine wpAnyH_take (i := 26) (oi := { dst := some 40, op := Go.Op.indexAddr 26 (Go.Operand.tmp 38) (Go.Operand.tmp 39), type := 0, pos := "ref.go:74", after := #[{ on := 24, ground := Go.Ground.data }, { on := 25, ground := Go.Ground.data }, { on := 17, ground := Go.Ground.guard }], guard := some (17, true) }) (v := undef) rfl ?_ ?_ ?_ ?_ ?_ hH2 ?_
          · kernel_rfl
          · kernel_rfl
          · kernel_rfl
          · exact fun _ _ _ h => h
          · exact Or.inr ⟨by kernel_rfl, rfl⟩
          try simp only [Act.put, List.setIfInBounds_toArray, List.set_cons_zero, List.set_cons_succ]
          refine wpAnyH_take (i := 27) (oi := { dst := some 41, op := Go.Op.fieldAddr 48 (Go.Operand.tmp 40) 3, type := 0, pos := "ref.go:74", after := #[{ on := 26, ground := Go.Ground.data }, { on := 17, ground := Go.Ground.guard }], guard := some (17, true) }) (v := undef) rfl ?_ ?_ ?_ ?_ ?_ hH2 ?_
          · kernel_rfl
          · kernel_rfl
          · kernel_rfl
          · exact fun _ _ _ h => h
          · exact Or.inr ⟨by kernel_rfl, rfl⟩
          try simp only [Act.put, List.setIfInBounds_toArray, List.set_cons_zero, List.set_cons_succ]
          refine wpAnyH_take (i := 28) (oi := { dst := some 42, op := Go.Op.load 3 (Go.Operand.tmp 41), type := 3, pos := "ref.go:74", after := #[{ on := 27, ground := Go.Ground.data }, { on := 17, ground := Go.Ground.guard }], guard := some (17, true) }) (v := undef) rfl ?_ ?_ ?_ ?_ ?_ hH2 ?_
          · kernel_rfl
          · kernel_rfl
          · kernel_rfl
          · exact fun _ _ _ h => h
          · exact Or.inr ⟨by kernel_rfl, rfl⟩
          try simp only [Act.put, List.setIfInBounds_toArray, List.set_cons_zero, List.set_cons_succ]
          refine wpAnyH_take (i := 29) (oi := { dst := some 43, op := Go.Op.binOp Go.BinOp.eql 3 (Go.Operand.tmp 37) (Go.Operand.tmp 42) 3, type := 4, pos := "ref.go:74", after := #[{ on := 23, ground := Go.Ground.data }, { on := 28, ground := Go.Ground.data }, { on := 17, ground := Go.Ground.guard }], guard := some (17, true) }) (v := undef) rfl ?_ ?_ ?_ ?_ ?_ hH2 ?_
          · kernel_rfl
          · kernel_rfl
          · kernel_rfl
          · exact fun _ _ _ h => h
          · exact Or.inr ⟨by kernel_rfl, rfl⟩
          try simp only [Act.put, List.setIfInBounds_toArray, List.set_cons_zero, List.set_cons_succ]
          refine wpAnyH_take (i := 30) (oi := { dst := some 44, op := Go.Op.pick (Go.Operand.tmp 31) (Go.Operand.tmp 43) (Go.Operand.const (Go.Value.bool false)), type := 4, pos := "ref.go:74", after := #[{ on := 17, ground := Go.Ground.data }, { on := 29, ground := Go.Ground.data }], guard := none }) (v := ?_) rfl ?_ ?_ ?_ ?_ (Or.inl ⟨?_, ?_⟩) hH2 ?_
          rotate_left
          · kernel_rfl
          · kernel_rfl
          · kernel_rfl
          · exact fun _ _ _ h => h
          · kernel_rfl
          · intro wS hSw
            try dsimp only at hSw
            go_simp
            try with_reducible rfl
          try simp only [Act.put, List.setIfInBounds_toArray, List.set_cons_zero, List.set_cons_succ]
          refine wpAnyH_take (i := 31) (oi := { dst := some 45, op := Go.Op.move (Go.Operand.tmp 44), type := 4, pos := "ref.go:74", after := #[{ on := 30, ground := Go.Ground.data }, { on := 17, ground := Go.Ground.chain }], guard := none }) (v := ?_) rfl ?_ ?_ ?_ ?_ (Or.inl ⟨?_, ?_⟩) hH2 ?_
          rotate_left
          · kernel_rfl
          · kernel_rfl
          · kernel_rfl
          · exact fun _ _ _ h => h
          · kernel_rfl
          · intro wS hSw
            try dsimp only at hSw
            go_simp
            try with_reducible rfl
          try simp only [Act.put, List.setIfInBounds_toArray, List.set_cons_zero, List.set_cons_succ]
          refine wpAnyH_take (i := 32) (oi := { dst := some 46, op := Go.Op.move (Go.Operand.tmp 0), type := 26, pos := "ref.go:74", after := #[{ on := 31, ground := Go.Ground.guard }], guard := some (31, true) }) (v := undef) rfl ?_ ?_ ?_ ?_ ?_ hH2 ?_
          · kernel_rfl
          · kernel_rfl
          · kernel_rfl
          · exact fun _ _ _ h => h
          · exact Or.inr ⟨by kernel_rfl, rfl⟩
          try simp only [Act.put, List.setIfInBounds_toArray, List.set_cons_zero, List.set_cons_succ]
          refine wpAnyH_take (i := 33) (oi := { dst := some 47, op := Go.Op.move (Go.Operand.tmp 4), type := 3, pos := "ref.go:74", after := #[{ on := 31, ground := Go.Ground.guard }], guard := some (31, true) }) (v := undef) rfl ?_ ?_ ?_ ?_ ?_ hH2 ?_
          · kernel_rfl
          · kernel_rfl
          · kernel_rfl
          · exact fun _ _ _ h => h
          · exact Or.inr ⟨by kernel_rfl, rfl⟩
          try simp only [Act.put, List.setIfInBounds_toArray, List.set_cons_zero, List.set_cons_succ]
          refine wpAnyH_take (i := 34) (oi := { dst := some 48, op := Go.Op.binOp Go.BinOp.sub 3 (Go.Operand.tmp 47) (Go.Operand.const (Go.Value.int Go.IntKind.i64 1)) 3, type := 3, pos := "ref.go:74", after := #[{ on := 33, ground := Go.Ground.data }, { on := 31, ground := Go.Ground.guard }], guard := some (31, true) }) (v := undef) rfl ?_ ?_ ?_ ?_ ?_ hH2 ?_
          · kernel_rfl
          · kernel_rfl
          · kernel_rfl
          · exact fun _ _ _ h => h
          · exact Or.inr ⟨by kernel_rfl, rfl⟩
          try simp only [Act.put, List.setIfInBounds_toArray, List.set_cons_zero, List.set_cons_succ]
          refine wpAnyH_take (i := 35) (oi := { dst := some 49, op := Go.Op.indexAddr 26 (Go.Operand.tmp 46) (Go.Operand.tmp 48), type := 0, pos := "ref.go:74", after := #[{ on := 32, ground := Go.Ground.data }, { on := 34, ground := Go.Ground.data }, { on := 31, ground := Go.Ground.guard }], guard := some (31, true) }) (v := undef) rfl ?_ ?_ ?_ ?_ ?_ hH2 ?_
          · kernel_rfl
          · kernel_rfl
          · kernel_rfl
          · exact fun _ _ _ h => h
          · exact Or.inr ⟨by kernel_rfl, rfl⟩
          try simp only [Act.put, List.setIfInBounds_toArray, List.set_cons_zero, List.set_cons_succ]
          refine wpAnyH_take (i := 36) (oi := { dst := some 50, op := Go.Op.fieldAddr 48 (Go.Operand.tmp 49) 2, type := 0, pos := "ref.go:74", after := #[{ on := 35, ground := Go.Ground.data }, { on := 31, ground := Go.Ground.guard }], guard := some (31, true) }) (v := undef) rfl ?_ ?_ ?_ ?_ ?_ hH2 ?_
          · kernel_rfl
          · kernel_rfl
          · kernel_rfl
          · exact fun _ _ _ h => h
          · exact Or.inr ⟨by kernel_rfl, rfl⟩
          try simp only [Act.put, List.setIfInBounds_toArray, List.set_cons_zero, List.set_cons_succ]
          refine wpAnyH_take (i := 37) (oi := { dst := some 51, op := Go.Op.load 3 (Go.Operand.tmp 50), type := 3, pos := "ref.go:74", after := #[{ on := 36, ground := Go.Ground.data }, { on := 31, ground := Go.Ground.guard }], guard := some (31, true) }) (v := undef) rfl ?_ ?_ ?_ ?_ ?_ hH2 ?_
          · kernel_rfl
          · kernel_rfl
          · kernel_rfl
          · exact fun _ _ _ h => h
          · exact Or.inr ⟨by kernel_rfl, rfl⟩
          try simp only [Act.put, List.setIfInBounds_toArray, List.set_cons_zero, List.set_cons_succ]
          refine wpAnyH_take (i := 38) (oi := { dst := some 52, op := Go.Op.move (Go.Operand.tmp 0), type := 26, pos := "ref.go:74", after := #[{ on := 31, ground := Go.Ground.guard }], guard := some (31, true) }) (v := undef) rfl ?_ ?_ ?_ ?_ ?_ hH2 ?_
          · kernel_rfl
          · kernel_rfl
          · kernel_rfl
          · exact fun _ _ _ h => h
          · exact Or.inr ⟨by kernel_rfl, rfl⟩
          try simp only [Act.put, List.setIfInBounds_toArray, List.set_cons_zero, List.set_cons_succ]
          refine wpAnyH_take (i := 39) (oi := { dst := some 53, op := Go.Op.move (Go.Operand.tmp 4), type := 3, pos := "ref.go:74", after := #[{ on := 31, ground := Go.Ground.guard }], guard := some (31, true) }) (v := undef) rfl ?_ ?_ ?_ ?_ ?_ hH2 ?_
          · kernel_rfl
          · kernel_rfl
          · kernel_rfl
          · exact fun _ _ _ h => h
          · exact Or.inr ⟨by kernel_rfl, rfl⟩
          try simp only [Act.put, List.setIfInBounds_toArray, List.set_cons_zero, List.set_cons_succ]
          refine wpAnyH_take (i := 40) (oi := { dst := some 54, op := Go.Op.indexAddr 26 (Go.Operand.tmp 52) (Go.Operand.tmp 53), type := 0, pos := "ref.go:74", after := #[{ on := 38, ground := Go.Ground.data }, { on := 39, ground := Go.Ground.data }, { on := 31, ground := Go.Ground.guard }], guard := some (31, true) }) (v := undef) rfl ?_ ?_ ?_ ?_ ?_ hH2 ?_
          · kernel_rfl
          · kernel_rfl
          · kernel_rfl
          · exact fun _ _ _ h => h
          · exact Or.inr ⟨by kernel_rfl, rfl⟩
          try simp only [Act.put, List.setIfInBounds_toArray, List.set_cons_zero, List.set_cons_succ]
          refine wpAnyH_take (i := 41) (oi := { dst := some 55, op := Go.Op.fieldAddr 48 (Go.Operand.tmp 54) 1, type := 0, pos := "ref.go:74", after := #[{ on := 40, ground := Go.Ground.data }, { on := 31, ground := Go.Ground.guard }], guard := some (31, true) }) (v := undef) rfl ?_ ?_ ?_ ?_ ?_ hH2 ?_
          · kernel_rfl
          · kernel_rfl
          · kernel_rfl
          · exact fun _ _ _ h => h
          · exact Or.inr ⟨by kernel_rfl, rfl⟩
          try simp only [Act.put, List.setIfInBounds_toArray, List.set_cons_zero, List.set_cons_succ]
          refine wpAnyH_take (i := 42) (oi := { dst := some 56, op := Go.Op.load 3 (Go.Operand.tmp 55), type := 3, pos := "ref.go:74", after := #[{ on := 41, ground := Go.Ground.data }, { on := 31, ground := Go.Ground.guard }], guard := some (31, true) }) (v := undef) rfl ?_ ?_ ?_ ?_ ?_ hH2 ?_
          · kernel_rfl
          · kernel_rfl
          · kernel_rfl
          · exact fun _ _ _ h => h
          · exact Or.inr ⟨by kernel_rfl, rfl⟩
          try simp only [Act.put, List.setIfInBounds_toArray, List.set_cons_zero, List.set_cons_succ]
          refine wpAnyH_take (i := 43) (oi := { dst := some 57, op := Go.Op.binOp Go.BinOp.eql 3 (Go.Operand.tmp 51) (Go.Operand.tmp 56) 3, type := 4, pos := "ref.go:74", after := #[{ on := 37, ground := Go.Ground.data }, { on := 42, ground := Go.Ground.data }, { on := 31, ground := Go.Ground.guard }], guard := some (31, true) }) (v := undef) rfl ?_ ?_ ?_ ?_ ?_ hH2 ?_
          · kernel_rfl
          · kernel_rfl
          · kernel_rfl
          · exact fun _ _ _ h => h
          · exact Or.inr ⟨by kernel_rfl, rfl⟩
          try simp only [Act.put, List.setIfInBounds_toArray, List.set_cons_zero, List.set_cons_succ]
          refine wpAnyH_take (i := 44) (oi := { dst := some 58, op := Go.Op.pick (Go.Operand.tmp 45) (Go.Operand.tmp 57) (Go.Operand.const (Go.Value.bool false)), type := 4, pos := "ref.go:74", after := #[{ on := 31, ground := Go.Ground.data }, { on := 43, ground := Go.Ground.data }], guard := none }) (v := ?_) rfl ?_ ?_ ?_ ?_ (Or.inl ⟨?_, ?_⟩) hH2 ?_
          rotate_left
          · kernel_rfl
          · kernel_rfl
          · kernel_rfl
          · exact fun _ _ _ h => h
          · kernel_rfl
          · intro wS hSw
            try dsimp only at hSw
            go_simp
            try with_reducible rfl
          try simp only [Act.put, List.setIfInBounds_toArray, List.set_cons_zero, List.set_cons_succ]
          refine wpAnyH_done (by kernel_rfl) ?_ _
          have hS9 := hH2
          clear hH2
          obtain ⟨d0, d1, d2, d3, d4, d5, d6, e0, e1, e2, e3, e4, e5, e6, B9, l1⟩ := hS9
          have HR9 := Lib.hid (HR.out.keep B9)
          have z2 := HR9.out.frozen (K * 7 + 2)
          have hbw := Lib.hid (hb.trans (B9.mono hb.size))
          have hle9 := hbw.out.size
          go_wp2_with (first
            | (at_builtin; go_must (refine wpList_append_ev2 rfl _ _ rfl rfl rfl rfl (by simp only [World.size_alloc]) HR9.out hle9 (by rw [hlen]; omega) ?_; intro v5 w5 R5 b5 n5)))
          go_roundw
          case rel => exact ⟨n + 1 + 1, by omega, val_int (by omega), Lib.hid (by rw [HM3.out]; exact R5), Lib.hid (hbw.out.trans b5)⟩
          case measure => simp [intOf]; omega
        cases hpx : px
        · subst hpy hpx
          have HM3 : Hid (mg (l.take (n + 1 + 1)) = q ++ [m] ++ [⟨x0, x1, x2, x3, x4, x5.data.toList, x6⟩]) := Lib.hid (by rw [HM2.out, if_neg (by simp)])
          clear HM2
          refine wp_region_held_drew (S := fun w' => w'.cell? ⟨g, o + (n + 1) * 7, none⟩ = some (.int .i64 x0) ∧ w'.cell? ⟨g, o + (n + 1) * 7 + 1, none⟩ = some (.int .i64 x1) ∧ w'.cell? ⟨g, o + (n + 1) * 7 + 2, none⟩ = some (.int .i64 x2) ∧ w'.cell? ⟨g, o + (n + 1) * 7 + 3, none⟩ = some (.int .i64 x3) ∧ w'.cell? ⟨g, o + (n + 1) * 7 + 4, none⟩ = some (.int .i64 x4) ∧ w'.cell? ⟨g, o + (n + 1) * 7 + 5, none⟩ = some (.string x5) ∧ w'.cell? ⟨g, o + (n + 1) * 7 + 6, none⟩ = some (.int .i64 x6) ∧ w'.cell? ⟨g, o + n * 7, none⟩ = some (.int .i64 y0) ∧ w'.cell? ⟨g, o + n * 7 + 1, none⟩ = some (.int .i64 y1) ∧ w'.cell? ⟨g, o + n * 7 + 2, none⟩ = some (.int .i64 y2) ∧ w'.cell? ⟨g, o + n * 7 + 3, none⟩ = some (.int .i64 y3) ∧ w'.cell? ⟨g, o + n * 7 + 4, none⟩ = some (.int .i64 y4) ∧ w'.cell? ⟨g, o + n * 7 + 5, none⟩ = some (.string y5) ∧ w'.cell? ⟨g, o + n * 7 + 6, none⟩ = some (.int .i64 y6) ∧ Below wr.heap.size wr w' ∧ g < w'.heap.size) (by kernel_rfl) ?_ (fun hH => ?_)
          · exact held_rmg hs.out (Below.refl _ _).drew
          refine wpAnyH_take (i := 0) (oi := { dst := some 14, op := Go.Op.move (Go.Operand.tmp 4), type := 3, pos := "ref.go:74", after := #[], guard := none }) (v := ?_) rfl ?_ ?_ ?_ ?_ (Or.inl ⟨?_, ?_⟩) hH ?_
          rotate_left
          · kernel_rfl
          · kernel_rfl
          · kernel_rfl
          · exact fun _ _ _ h => h
          · kernel_rfl
          · intro wS hSw
            try dsimp only at hSw
            go_simp
            try with_reducible rfl
          try simp only [Act.put, List.setIfInBounds_toArray, List.set_cons_zero, List.set_cons_succ]
          refine wpAnyH_take (i := 1) (oi := { dst := some 15, op := Go.Op.binOp Go.BinOp.gtr 3 (Go.Operand.tmp 14) (Go.Operand.const (Go.Value.int Go.IntKind.i64 0)) 3, type := 4, pos := "ref.go:74", after := #[{ on := 0, ground := Go.Ground.data }], guard := none }) (v := ?_) rfl ?_ ?_ ?_ ?_ (Or.inl ⟨?_, ?_⟩) hH ?_
          rotate_left
          · kernel_rfl
          · kernel_rfl
          · kernel_rfl
          · exact fun _ _ _ h => h
          · kernel_rfl
          · intro wS hSw
            try dsimp only at hSw
            go_simp
            try with_reducible rfl
          try simp only [Act.put, List.setIfInBounds_toArray, List.set_cons_zero, List.set_cons_succ]
          refine wpAnyH_take (i := 2) (oi := { dst := some 16, op := Go.Op.move (Go.Operand.tmp 15), type := 4, pos := "ref.go:74", after := #[{ on := 1, ground := Go.Ground.data }], guard := none }) (v := ?_) rfl ?_ ?_ ?_ ?_ (Or.inl ⟨?_, ?_⟩) hH ?_
          rotate_left
          · kernel_rfl
          · kernel_rfl
          · kernel_rfl
          · exact fun _ _ _ h => h
          · kernel_rfl
          · intro wS hSw
            try dsimp only at hSw
            go_simp
            try with_reducible rfl
          try simp only [Act.put, List.setIfInBounds_toArray, List.set_cons_zero, List.set_cons_succ]
          refine wpAnyH_take (i := 3) (oi := { dst := some 17, op := Go.Op.move (Go.Operand.tmp 0), type := 26, pos := "ref.go:74", after := #[{ on := 2, ground := Go.Ground.guard }], guard := some (2, true) }) (v := ?_) rfl ?_ ?_ ?_ ?_ (Or.inl ⟨?_, ?_⟩) hH ?_
          rotate_left
          · kernel_rfl
          · kernel_rfl
          · kernel_rfl
          · exact fun _ _ _ h => h
          · kernel_rfl
          · intro wS hSw
            try dsimp only at hSw
            go_simp
            try with_reducible rfl
          try simp only [Act.put, List.setIfInBounds_toArray, List.set_cons_zero, List.set_cons_succ]
          refine wpAnyH_take (i := 4) (oi := { dst := some 18, op := Go.Op.move (Go.Operand.tmp 4), type := 3, pos := "ref.go:74", after := #[{ on := 2, ground := Go.Ground.guard }], guard := some (2, true) }) (v := ?_) rfl ?_ ?_ ?_ ?_ (Or.inl ⟨?_, ?_⟩) hH ?_
          rotate_left
          · kernel_rfl
          · kernel_rfl
          · kernel_rfl
          · exact fun _ _ _ h => h
          · kernel_rfl
          · intro wS hSw
            try dsimp only at hSw
            go_simp
            try with_reducible rfl
          try simp only [Act.put, List.setIfInBounds_toArray, List.set_cons_zero, List.set_cons_succ]
          refine wpAnyH_take (i := 5) (oi := { dst := some 19, op := Go.Op.binOp Go.BinOp.sub 3 (Go.Operand.tmp 18) (Go.Operand.const (Go.Value.int Go.IntKind.i64 1)) 3, type := 3, pos := "ref.go:74", after := #[{ on := 4, ground := Go.Ground.data }, { on := 2, ground := Go.Ground.guard }], guard := some (2, true) }) (v := ?_) rfl ?_ ?_ ?_ ?_ (Or.inl ⟨?_, ?_⟩) hH ?_
          rotate_left
          · kernel_rfl
          · kernel_rfl
          · kernel_rfl
          · exact fun _ _ _ h => h
          · kernel_rfl
          · intro wS hSw
            try dsimp only at hSw
            go_simp
            try with_reducible rfl
          try simp only [Act.put, List.setIfInBounds_toArray, List.set_cons_zero, List.set_cons_succ]
          refine wpAnyH_take (i := 6) (oi := { dst := some 20, op := Go.Op.indexAddr 26 (Go.Operand.tmp 17) (Go.Operand.tmp 19), type := 0, pos := "ref.go:74", after := #[{ on := 3, ground := Go.Ground.data }, { on := 5, ground := Go.Ground.data }, { on := 2, ground := Go.Ground.guard }], guard := some (2, true) }) (v := ?_) rfl ?_ ?_ ?_ ?_ (Or.inl ⟨?_, ?_⟩) hH ?_
          rotate_left
          · kernel_rfl
          · kernel_rfl
          · kernel_rfl
          · exact fun _ _ _ h => h
          · kernel_rfl
          · intro wS hSw
            try dsimp only at hSw
            go_simp
            try with_reducible rfl
          try simp only [Act.put, List.setIfInBounds_toArray, List.set_cons_zero, List.set_cons_succ]
          refine wpAnyH_take (i := 7) (oi := { dst := some 21, op := Go.Op.load 48 (Go.Operand.tmp 20), type := 48, pos := "ref.go:74", after := #[{ on := 6, ground := Go.Ground.data }, { on := 2, ground := Go.Ground.guard }], guard := some (2, true) }) (v := ?_) rfl ?_ ?_ ?_ ?_ (Or.inl ⟨?_, ?_⟩) hH ?_
          rotate_left
          · kernel_rfl
          · kernel_rfl
          · kernel_rfl
          · exact fun _ _ _ h => h
          · kernel_rfl
          · intro wS hSw
            try dsimp only at hSw
            go_simp
            try with_reducible rfl
          try simp only [Act.put, List.setIfInBounds_toArray, List.set_cons_zero, List.set_cons_succ]
          refine wpAnyH_ready (rs := [8]) (by kernel_rfl) (by simp) ?_
          refine AllReadyH.cons (o := { dst := some 22, op := Go.Op.call { callee := Go.Callee.value (Go.Operand.func 32), args := #[Go.Operand.tmp 21], argTypes := #[48] }, type := 4, pos := "ref.go:74", after := #[{ on := 7, ground := Go.Ground.data }, { on := 2, ground := Go.Ground.chain }, { on := 2, ground := Go.Ground.guard }], guard := some (2, true) }) rfl (fun K hK => ?_) AllReadyH.nil
          go_simp
          refine (CY.out _).mono ?_
          rintro e8 w8 ⟨rfl, b8⟩
          try go_wp2_with fail
          refine hK.out _ _ ?_ (fun hH2 => ?_)
          · exact held_rmg hH b8
          clear hK K hH
          try simp only [Act.put, List.setIfInBounds_toArray, List.set_cons_zero, List.set_cons_succ]
          refine wpAnyH_take (i := 9) (oi := { dst := some 23, op := Go.Op.pick (Go.Operand.tmp 16) (Go.Operand.tmp 22) (Go.Operand.const (Go.Value.bool false)), type := 4, pos := "ref.go:74", after := #[{ on := 2, ground := Go.Ground.data }, { on := 8, ground := Go.Ground.data }], guard := none }) (v := ?_) rfl ?_ ?_ ?_ ?_ (Or.inl ⟨?_, ?_⟩) hH2 ?_
          rotate_left
          · kernel_rfl
          · kernel_rfl
          · kernel_rfl
          · exact fun _ _ _ h => h
          · kernel_rfl
          · intro wS hSw
            try dsimp only at hSw
            go_simp
            try with_reducible rfl
          try simp only [Act.put, List.setIfInBounds_toArray, List.set_cons_zero, List.set_cons_succ]
          refine wpAnyH_take (i := 10) (oi := { dst := some 24, op := Go.Op.move (Go.Operand.tmp 23), type := 4, pos := "ref.go:74", after := #[{ on := 9, ground := Go.Ground.data }, { on := 8, ground := Go.Ground.chain }], guard := none }) (v := ?_) rfl ?_ ?_ ?_ ?_ (Or.inl ⟨?_, ?_⟩) hH2 ?_
          rotate_left
          · kernel_rfl
          · kernel_rfl
          · kernel_rfl
          · exact fun _ _ _ h => h
          · kernel_rfl
          · intro wS hSw
            try dsimp only at hSw
            go_simp
            try with_reducible rfl
          try simp only [Act.put, List.setIfInBounds_toArray, List.set_cons_zero, List.set_cons_succ]
          refine wpAnyH_take (i := 11) (oi := { dst := some 25, op := Go.Op.move (Go.Operand.tmp 0), type := 26, pos := "ref.go:74", after := #[{ on := 10, ground := Go.Ground.guard }], guard := some (10, true) }) (v := ?_) rfl ?_ ?_ ?_ ?_ (Or.inl ⟨?_, ?_⟩) hH2 ?_
          rotate_left
          · kernel_rfl
          · kernel_rfl
          · kernel_rfl
          · exact fun _ _ _ h => h
          · kernel_rfl
          · intro wS hSw
            try dsimp only at hSw
            go_simp
            try with_reducible rfl
          try simp only [Act.put, List.setIfInBounds_toArray, List.set_cons_zero, List.set_cons_succ]
          refine wpAnyH_take (i := 12) (oi := { dst := some 26, op := Go.Op.move (Go.Operand.tmp 4), type := 3, pos := "ref.go:74", after := #[{ on := 10, ground := Go.Ground.guard }], guard := some (10, true) }) (v := ?_) rfl ?_ ?_ ?_ ?_ (Or.inl ⟨?_, ?_⟩) hH2 ?_
          rotate_left
          · kernel_rfl
          · kernel_rfl
          · kernel_rfl
          · exact fun _ _ _ h => h
          · kernel_rfl
          · intro wS hSw
            try dsimp only at hSw
            go_simp
            try with_reducible rfl
          try simp only [Act.put, List.setIfInBounds_toArray, List.set_cons_zero, List.set_cons_succ]
          refine wpAnyH_take (i := 13) (oi := { dst := some 27, op := Go.Op.indexAddr 26 (Go.Operand.tmp 25) (Go.Operand.tmp 26), type := 0, pos := "ref.go:74", after := #[{ on := 11, ground := Go.Ground.data }, { on := 12, ground := Go.Ground.data }, { on := 10, ground := Go.Ground.guard }], guard := some (10, true) }) (v := ?_) rfl ?_ ?_ ?_ ?_ (Or.inl ⟨?_, ?_⟩) hH2 ?_
          rotate_left
          · kernel_rfl
          · kernel_rfl
          · kernel_rfl
          · exact fun _ _ _ h => h
          · kernel_rfl
          · intro wS hSw
            try dsimp only at hSw
            go_simp
            try with_reducible rfl
          try simp only [Act.put, List.setIfInBounds_toArray, List.set_cons_zero, List.set_cons_succ]
          refine wpAnyH_take (i := 14) (oi := { dst := some 28, op := Go.Op.load 48 (Go.Operand.tmp 27), type := 48, pos := "ref.go:74", after := #[{ on := 13, ground := Go.Ground.data }, { on := 10, ground := Go.Ground.guard }], guard := some (10, true) }) (v := ?_) rfl ?_ ?_ ?_ ?_ (Or.inl ⟨?_, ?_⟩) hH2 ?_
          rotate_left
          · kernel_rfl
          · kernel_rfl
          · kernel_rfl
          · exact fun _ _ _ h => h
          · kernel_rfl
          · intro wS hSw
            try dsimp only at hSw
            go_simp
            try with_reducible rfl
          try simp only [Act.put, List.setIfInBounds_toArray, List.set_cons_zero, List.set_cons_succ]
          refine wpAnyH_ready (rs := [15]) (by kernel_rfl) (by simp) ?_
          refine AllReadyH.cons (o := { dst := some 29, op := Go.Op.call { callee := Go.Callee.value (Go.Operand.func 32), args := #[Go.Operand.tmp 28], argTypes := #[48] }, type := 4, pos := "ref.go:74", after := #[{ on := 14, ground := Go.Ground.data }, { on := 10, ground := Go.Ground.chain }, { on := 10, ground := Go.Ground.guard }], guard := some (10, true) }) rfl (fun K hK => ?_) AllReadyH.nil
          go_simp
          refine (CX.out _).mono ?_
          rintro e15 w15 ⟨rfl, b15⟩
          try go_wp2_with fail
          refine hK.out _ _ ?_ (fun hH3 => ?_)
          · exact held_rmg hH2 b15
          clear hK K hH2
          try simp only [Act.put, List.setIfInBounds_toArray, List.set_cons_zero, List.set_cons_succ]
          refine wpAnyH_take (i := 16) (oi := { dst := some 30, op := Go.Op.pick (Go.Operand.tmp 24) (Go.Operand.tmp 29) (Go.Operand.const (Go.Value.bool false)), type := 4, pos := "ref.go:74", after := #[{ on := 10, ground := Go.Ground.data }, { on := 15, ground := Go.Ground.data }], guard := none }) (v := ?_) rfl ?_ ?_ ?_ ?_ (Or.inl ⟨?_, ?_⟩) hH3 ?_
          rotate_left
          · kernel_rfl
          · kernel_rfl
          · kernel_rfl
          · exact fun _ _ _ h => h
          · kernel_rfl
          · intro wS hSw
            try dsimp only at hSw
            go_simp
            try with_reducible rfl
          try simp only [Act.put, List.setIfInBounds_toArray, List.set_cons_zero, List.set_cons_succ]
          refine wpAnyH_take (i := 17) (oi := { dst := some 31, op := Go.Op.move (Go.Operand.tmp 30), type := 4, pos := "ref.go:74", after := #[{ on := 16, ground := Go.Ground.data }, { on := 15, ground := Go.Ground.chain }], guard := none }) (v := ?_) rfl ?_ ?_ ?_ ?_ (Or.inl ⟨?_, ?_⟩) hH3 ?_
          rotate_left
          · kernel_rfl
          · kernel_rfl
          · kernel_rfl
          · exact fun _ _ _ h => h
          · kernel_rfl
          · intro wS hSw
            try dsimp only at hSw
            go_simp
            try with_reducible rfl
          try simp only [Act.put, List.setIfInBounds_toArray, List.set_cons_zero, List.set_cons_succ]
          refine wpAnyH_take (i := 18) (oi := { dst := some 32, op := Go.Op.move (Go.Operand.tmp 0), type := 26, pos := "ref.go:74", after := #[{ on := 17, ground := Go.Ground.guard }], guard := some (17, true) }) (v := undef) rfl ?_ ?_ ?_ ?_ ?_ hH3 ?_
          · kernel_rfl
          · kernel_rfl
          · kernel_rfl
          · exact fun _ _ _ h => h
          · exact Or.inr ⟨by kernel_rfl, rfl⟩
          try simp only [Act.put, List.setIfInBounds_toArray, List.set_cons_zero, List.set_cons_succ]
          refine wpAnyH_take (i := 19) (oi := { dst := some 33, op := Go.Op.move (Go.Operand.tmp 4), type := 3, pos := "ref.go:74", after := #[{ on := 17, ground := Go.Ground.guard }], guard := some (17, true) }) (v := undef) rfl ?_ ?_ ?_ ?_ ?_ hH3 ?_
          · kernel_rfl
          · kernel_rfl
          · kernel_rfl
          · exact fun _ _ _ h => h
          · exact Or.inr ⟨by kernel_rfl, rfl⟩
          try simp only [Act.put, List.setIfInBounds_toArray, List.set_cons_zero, List.set_cons_succ]
          refine wpAnyH_take (i := 20) (oi := { dst := some 34, op := Go.Op.binOp Go.BinOp.sub 3 (Go.Operand.tmp 33) (Go.Operand.const (Go.Value.int Go.IntKind.i64 1)) 3, type := 3, pos := "ref.go:74", after := #[{ on := 19, ground := Go.Ground.data }, { on := 17, ground := Go.Ground.guard }], guard := some (17, true) }) (v := undef) rfl ?_ ?_ ?_ ?_ ?_ hH3 ?_
          · kernel_rfl
          · kernel_rfl
          · kernel_rfl
          · exact fun _ _ _ h => h
          · exact Or.inr ⟨by kernel_rfl, rfl⟩
          try simp only [Act.put, List.setIfInBounds_toArray, List.set_cons_zero, List.set_cons_succ]
          refine wpAnyH_take (i := 21) (oi := { dst := some 35, op := Go.Op.indexAddr 26 (Go.Operand.tmp 32) (Go.Operand.tmp 34), type := 0, pos := "ref.go:74", after := #[{ on := 18, ground := Go.Ground.data }, { on := 20, ground := Go.Ground.data }, { on := 17, ground := Go.Ground.guard }], guard := some (17, true) }) (v := undef) rfl ?_ ?_ ?_ ?_ ?_ hH3 ?_
          · kernel_rfl
          · kernel_rfl
          · kernel_rfl
          · exact fun _ _ _ h => h
          · exact Or.inr ⟨by kernel_rfl, rfl⟩
          try simp only [Act.put, List.setIfInBounds_toArray, List.set_cons_zero, List.set_cons_succ]
          refine wpAnyH_take (i := 22) (oi := { dst := some 36, op := Go.Op.fieldAddr 48 (Go.Operand.tmp 35) 3, type := 0, pos := "ref.go:74", after := #[{ on := 21, ground := Go.Ground.data }, { on := 17, ground := Go.Ground.guard }], guard := some (17, true) }) (v := undef) rfl ?_ ?_ ?_ ?_ ?_ hH3 ?_
          · kernel_rfl
          · kernel_rfl
          · kernel_rfl
          · exact fun _ _ _ h => h
          · exact Or.inr ⟨by kernel_rfl, rfl⟩
          try simp only [Act.put, List.setIfInBounds_toArray, List.set_cons_zero, List.set_cons_succ]
          refine wpAnyH_take (i := 23) (oi := { dst := some 37, op := Go.Op.load 3 (Go.Operand.tmp 36), type := 3, pos := "ref.go:74", after := #[{ on := 22, ground := Go.Ground.data }, { on := 17, ground := Go.Ground.guard }], guard := some (17, true) }) (v := undef) rfl ?_ ?_ ?_ ?_ ?_ hH3 ?_
          · kernel_rfl
          · kernel_rfl
          · kernel_rfl
          · exact fun _ _ _ h => h
          · exact Or.inr ⟨by kernel_rfl, rfl⟩
          try simp only [Act.put, List.setIfInBounds_toArray, List.set_cons_zero, List.set_cons_succ]
          refine wpAnyH_take (i := 24) (oi := { dst := some 38, op := Go.Op.move (Go.Operand.tmp 0), type := 26, pos := "ref.go:74", after := #[{ on := 17, ground := Go.Ground.guard }], guard := some (17, true) }) (v := undef) rfl ?_ ?_ ?_ ?_ ?_ hH3 ?_
          · kernel_rfl
          · kernel_rfl
          · kernel_rfl
          · exact fun _ _ _ h => h
          · exact Or.inr ⟨by kernel_rfl, rfl⟩
          try simp only [Act.put, List.setIfInBounds_toArray, List.set_cons_zero, List.set_cons_succ]
          refine wpAnyH_take (i := 25) (oi := { dst := some 39, op := Go.Op.move (Go.Operand.tmp 4), type := 3, pos := "ref.go:74", after := #[{ on := 17, ground := Go.Ground.guard }], guard := some (17, true) }) (v := undef) rfl ?_ ?_ ?_ ?_ ?_ hH3 ?_
          · kernel_rfl
          · kernel_rfl
          · kernel_rfl
          · exact fun _ _ _ h => h
          · exact Or.inr ⟨by kernel_rfl, rfl⟩
          try simp only [Act.put, List.setIfInBounds_toArray, List.set_cons_zero, List.set_cons_succ]
          refine wpAnyH_take (i := 26) (oi := { dst := some 40, op := Go.Op.indexAddr 26 (Go.Operand.tmp 38) (Go.Operand.tmp 39), type := 0, pos := "ref.go:74", after := #[{ on := 24, ground := Go.Ground.data }, { on := 25, ground := Go.Ground.data }, { on := 17, ground := Go.Ground.guard }], guard := some (17, true) }) (v := undef) rfl ?_ ?_ ?_ ?_ ?_ hH3 ?_
          · kernel_rfl
          · kernel_rfl
          · kernel_rfl
          · exact fun _ _ _ h => h
          · exact Or.inr ⟨by kernel_rfl, rfl⟩
          try simp only [Act.put, List.setIfInBounds_toArray, List.set_cons_zero, List.set_cons_succ]
          refine wpAnyH_take (i := 27) (oi := { dst := some 41, op := Go.Op.fieldAddr 48 (Go.Operand.tmp 40) 3, type := 0, pos := "ref.go:74", after := #[{ on := 26, ground := Go.Ground.data }, { on := 17, ground := Go.Ground.guard }], guard := some (17, true) }) (v := undef) rfl ?_ ?_ ?_ ?_ ?_ hH3 ?_
          · kernel_rfl
          · kernel_rfl
          · kernel_rfl
          · exact fun _ _ _ h => h
          · exact Or.inr ⟨by kernel_rfl, rfl⟩
          try simp only [Act.put, List.setIfInBounds_toArray, List.set_cons_zero, List.set_cons_succ]
          refine wpAnyH_take (i := 28) (oi := { dst := some 42, op := Go.Op.load 3 (Go.Operand.tmp 41), type := 3, pos := "ref.go:74", after := #[{ on := 27, ground := Go.Ground.data }, { on := 17, ground := Go.Ground.guard }], guard := some (17, true) }) (v := undef) rfl ?_ ?_ ?_ ?_ ?_ hH3 ?_
          · kernel_rfl
          · kernel_rfl
          · kernel_rfl
          · exact fun _ _ _ h => h
          · exact Or.inr ⟨by kernel_rfl, rfl⟩
          try simp only [Act.put, List.setIfInBounds_toArray, List.set_cons_zero, List.set_cons_succ]
          refine wpAnyH_take (i := 29) (oi := { dst := some 43, op := Go.Op.binOp Go.BinOp.eql 3 (Go.Operand.tmp 37) (Go.Operand.tmp 42) 3, type := 4, pos := "ref.go:74", after := #[{ on := 23, ground := Go.Ground.data }, { on := 28, ground := Go.Ground.data }, { on := 17, ground := Go.Ground.guard }], guard := some (17, true) }) (v := undef) rfl ?_ ?_ ?_ ?_ ?_ hH3 ?_
          · kernel_rfl
          · kernel_rfl
          · kernel_rfl
          · exact fun _ _ _ h => h
          · exact Or.inr ⟨by kernel_rfl, rfl⟩
          try simp only [Act.put, List.setIfInBounds_toArray, List.set_cons_zero, List.set_cons_succ]
          refine wpAnyH_take (i := 30) (oi := { dst := some 44, op := Go.Op.pick (Go.Operand.tmp 31) (Go.Operand.tmp 43) (Go.Operand.const (Go.Value.bool false)), type := 4, pos := "ref.go:74", after := #[{ on := 17, ground := Go.Ground.data }, { on := 29, ground := Go.Ground.data }], guard := none }) (v := ?_) rfl ?_ ?_ ?_ ?_ (Or.inl ⟨?_, ?_⟩) hH3 ?_
          rotate_left
          · kernel_rfl
          · kernel_rfl
          · kernel_rfl
          · exact fun _ _ _ h => h
          · kernel_rfl
          · intro wS hSw
            try dsimp only at hSw
            go_simp
            try with_reducible rfl
          try simp only [Act.put, List.setIfInBounds_toArray, List.set_cons_zero, List.set_cons_succ]
          refine wpAnyH_take (i := 31) (oi := { dst := some 45, op := Go.Op.move (Go.Operand.tmp 44), type := 4, pos := "ref.go:74", after := #[{ on := 30, ground := Go.Ground.data }, { on := 17, ground := Go.Ground.chain }], guard := none }) (v := ?_) rfl ?_ ?_ ?_ ?_ (Or.inl ⟨?_, ?_⟩) hH3 ?_
          rotate_left
          · kernel_rfl
          · kernel_rfl
          · kernel_rfl
          · exact fun _ _ _ h => h
          · kernel_rfl
          · intro wS hSw
            try dsimp only at hSw
            go_simp
            try with_reducible rfl
          try simp only [Act.put, List.setIfInBounds_toArray, List.set_cons_zero, List.set_cons_succ]
          refine wpAnyH_take (i := 32) (oi := { dst := some 46, op := Go.Op.move (Go.Operand.tmp 0), type := 26, pos := "ref.go:74", after := #[{ on := 31, ground := Go.Ground.guard }], guard := some (31, true) }) (v := undef) rfl ?_ ?_ ?_ ?_ ?_ hH3 ?_
          · kernel_rfl
          · kernel_rfl
          · kernel_rfl
          · exact fun _ _ _ h => h
          · exact Or.inr ⟨by kernel_rfl, rfl⟩
          try simp only [Act.put, List.setIfInBounds_toArray, List.set_cons_zero, List.set_cons_succ]
          refine wpAnyH_take (i := 33) (oi := { dst := some 47, op := Go.Op.move (Go.Operand.tmp 4), type := 3, pos := "ref.go:74", after := #[{ on := 31, ground := Go.Ground.guard }], guard := some (31, true) }) (v := undef) rfl ?_ ?_ ?_ ?_ ?_ hH3 ?_
          · kernel_rfl
          · kernel_rfl
          · kernel_rfl
          · exact fun _ _ _ h => h
          · exact Or.inr ⟨by kernel_rfl, rfl⟩
          try simp only [Act.put, List.setIfInBounds_toArray, List.set_cons_zero, List.set_cons_succ]
          refine wpAnyH_take (i := 34) (oi := { dst := some 48, op := Go.Op.binOp Go.BinOp.sub 3 (Go.Operand.tmp 47) (Go.Operand.const (Go.Value.int Go.IntKind.i64 1)) 3, type := 3, pos := "ref.go:74", after := #[{ on := 33, ground := Go.Ground.data }, { on := 31, ground := Go.Ground.guard }], guard := some (31, true) }) (v := undef) rfl ?_ ?_ ?_ ?_ ?_ hH3 ?_
          · kernel_rfl
          · kernel_rfl
          · kernel_rfl
          · exact fun _ _ _ h => h
          · exact Or.inr ⟨by kernel_rfl, rfl⟩
          try simp only [Act.put, List.setIfInBounds_toArray, List.set_cons_zero, List.set_cons_succ]
          refine wpAnyH_take (i := 35) (oi := { dst := some 49, op := Go.Op.indexAddr 26 (Go.Operand.tmp 46) (Go.Operand.tmp 48), type := 0, pos := "ref.go:74", after := #[{ on := 32, ground := Go.Ground.data }, { on := 34, ground := Go.Ground.data }, { on := 31, ground := Go.Ground.guard }], guard := some (31, true) }) (v := undef) rfl ?_ ?_ ?_ ?_ ?_ hH3 ?_
          · kernel_rfl
          · kernel_rfl
          · kernel_rfl
          · exact fun _ _ _ h => h
          · exact Or.inr ⟨by kernel_rfl, rfl⟩
          try simp only [Act.put, List.setIfInBounds_toArray, List.set_cons_zero, List.set_cons_succ]
          refine wpAnyH_take (i := 36) (oi := { dst := some 50, op := Go.Op.fieldAddr 48 (Go.Operand.tmp 49) 2, type := 0, pos := "ref.go:74", after := #[{ on := 35, ground := Go.Ground.data }, { on := 31, ground := Go.Ground.guard }], guard := some (31, true) }) (v := undef) rfl ?_ ?_ ?_ ?_ ?_ hH3 ?_
          · kernel_rfl
          · kernel_rfl
          · kernel_rfl
          · exact fun _ _ _ h => h
          · exact Or.inr ⟨by kernel_rfl, rfl⟩
          try simp only [Act.put, List.setIfInBounds_toArray, List.set_cons_zero, List.set_cons_succ]
          refine wpAnyH_take (i := 37) (oi := { dst := some 51, op := Go.Op.load 3 (Go.Operand.tmp 50), type := 3, pos := "ref.go:74", after := #[{ on := 36, ground := Go.Ground.data }, { on := 31, ground := Go.Ground.guard }], guard := some (31, true) }) (v := undef) rfl ?_ ?_ ?_ ?_ ?_ hH3 ?_
          · kernel_rfl
          · kernel_rfl
          · kernel_rfl
          · exact fun _ _ _ h => h
          · exact Or.inr ⟨by kernel_rfl, rfl⟩
          try simp only [Act.put, List.setIfInBounds_toArray, List.set_cons_zero, List.set_cons_succ]
          refine wpAnyH_take (i := 38) (oi := { dst := some 52, op := Go.Op.move (Go.Operand.tmp 0), type := 26, pos := "ref.go:74", after := #[{ on := 31, ground := Go.Ground.guard }], guard := some (31, true) }) (v := undef) rfl ?_ ?_ ?_ ?_ ?_ hH3 ?_
          · kernel_rfl
          · kernel_rfl
          · kernel_rfl
          · exact fun _ _ _ h => h
          · exact Or.inr ⟨by kernel_rfl, rfl⟩
          try simp only [Act.put, List.setIfInBounds_toArray, List.set_cons_zero, List.set_cons_succ]
          refine wpAnyH_take (i := 39) (oi := { dst := some 53, op := Go.Op.move (Go.Operand.tmp 4), type := 3, pos := "ref.go:74", after := #[{ on := 31, ground := Go.Ground.guard }], guard := some (31, true) }) (v := undef) rfl ?_ ?_ ?_ ?_ ?_ hH3 ?_
          · kernel_rfl
          · kernel_rfl
          · kernel_rfl
          · exact fun _ _ _ h => h
          · exact Or.inr ⟨by kernel_rfl, rfl⟩
          try simp only [Act.put, List.setIfInBounds_toArray, List.set_cons_zero, List.set_cons_succ]
          refine wpAnyH_take (i := 40) (oi := { dst := some 54, op := Go.Op.indexAddr 26 (Go.Operand.tmp 52) (Go.Operand.tmp 53), type := 0, pos := "ref.go:74", after := #[{ on := 38, ground := Go.Ground.data }, { on := 39, ground := Go.Ground.data }, { on := 31, ground := Go.Ground.guard }], guard := some (31, true) }) (v := undef) rfl ?_ ?_ ?_ ?_ ?_ hH3 ?_
          · kernel_rfl
          · kernel_rfl
          · kernel_rfl
          · exact fun _ _ _ h => h
          · exact Or.inr ⟨by kernel_rfl, rfl⟩
          try simp only [Act.put, List.setIfInBounds_toArray, List.set_cons_zero, List.set_cons_succ]
          refine wpAnyH_take (i := 41) (oi := { dst := some 55, op := Go.Op.fieldAddr 48 (Go.Operand.tmp 54) 1, type := 0, pos := "ref.go:74", after := #[{ on := 40, ground := Go.Ground.data }, { on := 31, ground := Go.Ground.guard }], guard := some (31, true) }) (v := undef) rfl ?_ ?_ ?_ ?_ ?_ hH3 ?_
          · kernel_rfl
          · kernel_rfl
          · kernel_rfl
          · exact fun _ _ _ h => h
          · exact Or.inr ⟨by kernel_rfl, rfl⟩
          try simp only [Act.put, List.setIfInBounds_toArray, List.set_cons_zero, List.set_cons_succ]
          refine wpAnyH_take (i := 42) (oi := { dst := some 56, op := Go.Op.load 3 (Go.Operand.tmp 55), type := 3, pos := "ref.go:74", after := #[{ on := 41, ground := Go.Ground.data }, { on := 31, ground := Go.Ground.guard }], guard := some (31, true) }) (v := undef) rfl ?_ ?_ ?_ ?_ ?_ hH3 ?_
          · kernel_rfl
          · kernel_rfl
          · kernel_rfl
          · exact fun _ _ _ h => h
          · exact Or.inr ⟨by kernel_rfl, rfl⟩
          try simp only [Act.put, List.setIfInBounds_toArray, List.set_cons_zero, List.set_cons_succ]
          refine wpAnyH_take (i := 43) (oi := { dst := some 57, op := Go.Op.binOp Go.BinOp.eql 3 (Go.Operand.tmp 51) (Go.Operand.tmp 56) 3, type := 4, pos := "ref.go:74", after := #[{ on := 37, ground := Go.Ground.data }, { on := 42, ground := Go.Ground.data }, { on := 31, ground := Go.Ground.guard }], guard := some (31, true) }) (v := undef) rfl ?_ ?_ ?_ ?_ ?_ hH3 ?_
          · kernel_rfl
          · kernel_rfl
          · kernel_rfl
          · exact fun _ _ _ h => h
          · exact Or.inr ⟨by kernel_rfl, rfl⟩
          try simp only [Act.put, List.setIfInBounds_toArray, List.set_cons_zero, List.set_cons_succ]
          refine wpAnyH_take (i := 44) (oi := { dst := some 58, op := Go.Op.pick (Go.Operand.tmp 45) (Go.Operand.tmp 57) (Go.Operand.const (Go.Value.bool false)), type := 4, pos := "ref.go:74", after := #[{ on := 31, ground := Go.Ground.data }, { on := 43, ground := Go.Ground.data }], guard := none }) (v := ?_) rfl ?_ ?_ ?_ ?_ (Or.inl ⟨?_, ?_⟩) hH3 ?_
          rotate_left
          · kernel_rfl
          · kernel_rfl
          · kernel_rfl
          · exact fun _ _ _ h => h
          · kernel_rfl
          · intro wS hSw
            try dsimp only at hSw
            go_simp
            try with_reducible rfl
          try simp only [Act.put, List.setIfInBounds_toArray, List.set_cons_zero, List.set_cons_succ]
          refine wpAnyH_done (by kernel_rfl) ?_ _
          have hS9 := hH3
          clear hH3
          obtain ⟨d0, d1, d2, d3, d4, d5, d6, e0, e1, e2, e3, e4, e5, e6, B9, l1⟩ := hS9
          have HR9 := Lib.hid (HR.out.keep B9)
          have z2 := HR9.out.frozen (K * 7 + 2)
          have hbw := Lib.hid (hb.trans (B9.mono hb.size))
          have hle9 := hbw.out.size
          go_wp2_with (first
            | (at_builtin; go_must (refine wpList_append_ev2 rfl _ _ rfl rfl rfl rfl (by simp only [World.size_alloc]) HR9.out hle9 (by rw [hlen]; omega) ?_; intro v5 w5 R5 b5 n5)))
          go_roundw
          case rel => exact ⟨n + 1 + 1, by omega, val_int (by omega), Lib.hid (by rw [HM3.out]; exact R5), Lib.hid (hbw.out.trans b5)⟩
          case measure => simp [intOf]; omega
        by_cases hv : x3 = y3
        case neg =>
          subst hpy hpx
          have hv1 : (y3 == x3) = false := by simpa using fun e => hv e.symm
          have HM3 : Hid (mg (l.take (n + 1 + 1)) = q ++ [m] ++ [⟨x0, x1, x2, x3, x4, x5.data.toList, x6⟩]) := Lib.hid (by rw [HM2.out, if_neg (by simp [show ¬ y3 = x3 from fun e => hv e.symm])])
          clear HM2
          refine wp_region_held_drew (S := fun w' => w'.cell? ⟨g, o + (n + 1) * 7, none⟩ = some (.int .i64 x0) ∧ w'.cell? ⟨g, o + (n + 1) * 7 + 1, none⟩ = some (.int .i64 x1) ∧ w'.cell? ⟨g, o + (n + 1) * 7 + 2, none⟩ = some (.int .i64 x2) ∧ w'.cell? ⟨g, o + (n + 1) * 7 + 3, none⟩ = some (.int .i64 x3) ∧ w'.cell? ⟨g, o + (n + 1) * 7 + 4, none⟩ = some (.int .i64 x4) ∧ w'.cell? ⟨g, o + (n + 1) * 7 + 5, none⟩ = some (.string x5) ∧ w'.cell? ⟨g, o + (n + 1) * 7 + 6, none⟩ = some (.int .i64 x6) ∧ w'.cell? ⟨g, o + n * 7, none⟩ = some (.int .i64 y0) ∧ w'.cell? ⟨g, o + n * 7 + 1, none⟩ = some (.int .i64 y1) ∧ w'.cell? ⟨g, o + n * 7 + 2, none⟩ = some (.int .i64 y2) ∧ w'.cell? ⟨g, o + n * 7 + 3, none⟩ = some (.int .i64 y3) ∧ w'.cell? ⟨g, o + n * 7 + 4, none⟩ = some (.int .i64 y4) ∧ w'.cell? ⟨g, o + n * 7 + 5, none⟩ = some (.string y5) ∧ w'.cell? ⟨g, o + n * 7 + 6, none⟩ = some (.int .i64 y6) ∧ Below wr.heap.size wr w' ∧ g < w'.heap.size) (by kernel_rfl) ?_ (fun hH => ?_)
          · exact held_rmg hs.out (Below.refl _ _).drew
          refine wpAnyH_take (i := 0) (oi := { dst := some 14, op := Go.Op.move (Go.Operand.tmp 4), type := 3, pos := "ref.go:74", after := #[], guard := none }) (v := ?_) rfl ?_ ?_ ?_ ?_ (Or.inl ⟨?_, ?_⟩) hH ?_
          rotate_left
          · kernel_rfl
          · kernel_rfl
          · kernel_rfl
          · exact fun _ _ _ h => h
          · kernel_rfl
          · intro wS hSw
            try dsimp only at hSw
            go_simp
            try with_reducible rfl
          try simp only [Act.put, List.setIfInBounds_toArray, List.set_cons_zero, List.set_cons_succ]
          refine wpAnyH_take (i := 1) (oi := { dst := some 15, op := Go.Op.binOp Go.BinOp.gtr 3 (Go.Operand.tmp 14) (Go.Operand.const (Go.Value.int Go.IntKind.i64 0)) 3, type := 4, pos := "ref.go:74", after := #[{ on := 0, ground := Go.Ground.data }], guard := none }) (v := ?_) rfl ?_ ?_ ?_ ?_ (Or.inl ⟨?_, ?_⟩) hH ?_
          rotate_left
          · kernel_rfl
          · kernel_rfl
          · kernel_rfl
          · exact fun _ _ _ h => h
          · kernel_rfl
          · intro wS hSw
            try dsimp only at hSw
            go_simp
            try with_reducible rfl
          try simp only [Act.put, List.setIfInBounds_toArray, List.set_cons_zero, List.set_cons_succ]
          refine wpAnyH_take (i := 2) (oi := { dst := some 16, op := Go.Op.move (Go.Operand.tmp 15), type := 4, pos := "ref.go:74", after := #[{ on := 1, ground := Go.Ground.data }], guard := none }) (v := ?_) rfl ?_ ?_ ?_ ?_ (Or.inl ⟨?_, ?_⟩) hH ?_
          rotate_left
          · kernel_rfl
          · kernel_rfl
          · kernel_rfl
          · exact fun _ _ _ h => h
          · kernel_rfl
          · intro wS hSw
            try dsimp only at hSw
            go_simp
            try with_reducible rfl
          try simp only [Act.put, List.setIfInBounds_toArray, List.set_cons_zero, List.set_cons_succ]
          refine wpAnyH_take (i := 3) (oi := { dst := some 17, op := Go.Op.move (Go.Operand.tmp 0), type := 26, pos := "ref.go:74", after := #[{ on := 2, ground := Go.Ground.guard }], guard := some (2, true) }) (v := ?_) rfl ?_ ?_ ?_ ?_ (Or.inl ⟨?_, ?_⟩) hH ?_
          rotate_left
          · kernel_rfl
          · kernel_rfl
          · kernel_rfl
          · exact fun _ _ _ h => h
          · kernel_rfl
          · intro wS hSw
            try dsimp only at hSw
            go_simp
            try with_reducible rfl
          try simp only [Act.put, List.setIfInBounds_toArray, List.set_cons_zero, List.set_cons_succ]
          refine wpAnyH_take (i := 4) (oi := { dst := some 18, op := Go.Op.move (Go.Operand.tmp 4), type := 3, pos := "ref.go:74", after := #[{ on := 2, ground := Go.Ground.guard }], guard := some (2, true) }) (v := ?_) rfl ?_ ?_ ?_ ?_ (Or.inl ⟨?_, ?_⟩) hH ?_
          rotate_left
          · kernel_rfl
          · kernel_rfl
          · kernel_rfl
          · exact fun _ _ _ h => h
          · kernel_rfl
          · intro wS hSw
            try dsimp only at hSw
            go_simp
            try with_reducible rfl
          try simp only [Act.put, List.setIfInBounds_toArray, List.set_cons_zero, List.set_cons_succ]
          refine wpAnyH_take (i := 5) (oi := { dst := some 19, op := Go.Op.binOp Go.BinOp.sub 3 (Go.Operand.tmp 18) (Go.Operand.const (Go.Value.int Go.IntKind.i64 1)) 3, type := 3, pos := "ref.go:74", after := #[{ on := 4, ground := Go.Ground.data }, { on := 2, ground := Go.Ground.guard }], guard := some (2, true) }) (v := ?_) rfl ?_ ?_ ?_ ?_ (Or.inl ⟨?_, ?_⟩) hH ?_
          rotate_left
          · kernel_rfl
          · kernel_rfl
          · kernel_rfl
          · exact fun _ _ _ h => h
          · kernel_rfl
          · intro wS hSw
            try dsimp only at hSw
            go_simp
            try with_reducible rfl
          try simp only [Act.put, List.setIfInBounds_toArray, List.set_cons_zero, List.set_cons_succ]
          refine wpAnyH_take (i := 6) (oi := { dst := some 20, op := Go.Op.indexAddr 26 (Go.Operand.tmp 17) (Go.Operand.tmp 19), type := 0, pos := "ref.go:74", after := #[{ on := 3, ground := Go.Ground.data }, { on := 5, ground := Go.Ground.data }, { on := 2, ground := Go.Ground.guard }], guard := some (2, true) }) (v := ?_) rfl ?_ ?_ ?_ ?_ (Or.inl ⟨?_, ?_⟩) hH ?_
          rotate_left
          · kernel_rfl
          · kernel_rfl
          · kernel_rfl
          · exact fun _ _ _ h => h
          · kernel_rfl
          · intro wS hSw
            try dsimp only at hSw
            go_simp
            try with_reducible rfl
          try simp only [Act.put, List.setIfInBounds_toArray, List.set_cons_zero, List.set_cons_succ]
          refine wpAnyH_take (i := 7) (oi := { dst := some 21, op := Go.Op.load 48 (Go.Operand.tmp 20), type := 48, pos := "ref.go:74", after := #[{ on := 6, ground := Go.Ground.data }, { on := 2, ground := Go.Ground.guard }], guard := some (2, true) }) (v := ?_) rfl ?_ ?_ ?_ ?_ (Or.inl ⟨?_, ?_⟩) hH ?_
          rotate_left
          · kernel_rfl
          · kernel_rfl
          · kernel_rfl
          · exact fun _ _ _ h => h
          · kernel_rfl
          · intro wS hSw
            try dsimp only at hSw
            go_simp
            try with_reducible rfl
          try simp only [Act.put, List.setIfInBounds_toArray, List.set_cons_zero, List.set_cons_succ]
          refine wpAnyH_ready (rs := [8]) (by kernel_rfl) (by simp) ?_
          refine AllReadyH.cons (o := { dst := some 22, op := Go.Op.call { callee := Go.Callee.value (Go.Operand.func 32), args := #[Go.Operand.tmp 21], argTypes := #[48] }, type := 4, pos := "ref.go:74", after := #[{ on := 7, ground := Go.Ground.data }, { on := 2, ground := Go.Ground.chain }, { on := 2, ground := Go.Ground.guard }], guard := some (2, true) }) rfl (fun K hK => ?_) AllReadyH.nil
          go_simp
          refine (CY.out _).mono ?_
          rintro e8 w8 ⟨rfl, b8⟩
          try go_wp2_with fail
          refine hK.out _ _ ?_ (fun hH2 => ?_)
          · exact held_rmg hH b8
          clear hK K hH
          try simp only [Act.put, List.setIfInBounds_toArray, List.set_cons_zero, List.set_cons_succ]
          refine wpAnyH_take (i := 9) (oi := { dst := some 23, op := Go.Op.pick (Go.Operand.tmp 16) (Go.Operand.tmp 22) (Go.Operand.const (Go.Value.bool false)), type := 4, pos := "ref.go:74", after := #[{ on := 2, ground := Go.Ground.data }, { on := 8, ground := Go.Ground.data }], guard := none }) (v := ?_) rfl ?_ ?_ ?_ ?_ (Or.inl ⟨?_, ?_⟩) hH2 ?_
          rotate_left
          · kernel_rfl
          · kernel_rfl
          · kernel_rfl
          · exact fun _ _ _ h => h
          · kernel_rfl
          · intro wS hSw
            try dsimp only at hSw
            go_simp
            try with_reducible rfl
          try simp only [Act.put, List.setIfInBounds_toArray, List.set_cons_zero, List.set_cons_succ]
          refine wpAnyH_take (i := 10) (oi := { dst := some 24, op := Go.Op.move (Go.Operand.tmp 23), type := 4, pos := "ref.go:74", after := #[{ on := 9, ground := Go.Ground.data }, { on := 8, ground := Go.Ground.chain }], guard := none }) (v := ?_) rfl ?_ ?_ ?_ ?_ (Or.inl ⟨?_, ?_⟩) hH2 ?_
          rotate_left
          · kernel_rfl
          · kernel_rfl
          · kernel_rfl
          · exact fun _ _ _ h => h
          · kernel_rfl
          · intro wS hSw
            try dsimp only at hSw
            go_simp
            try with_reducible rfl
          try simp only [Act.put, List.setIfInBounds_toArray, List.set_cons_zero, List.set_cons_succ]
          refine wpAnyH_take (i := 11) (oi := { dst := some 25, op := Go.Op.move (Go.Operand.tmp 0), type := 26, pos := "ref.go:74", after := #[{ on := 10, ground := Go.Ground.guard }], guard := some (10, true) }) (v := ?_) rfl ?_ ?_ ?_ ?_ (Or.inl ⟨?_, ?_⟩) hH2 ?_
          rotate_left
          · kernel_rfl
          · kernel_rfl
          · kernel_rfl
          · exact fun _ _ _ h => h
          · kernel_rfl
          · intro wS hSw
            try dsimp only at hSw
            go_simp
            try with_reducible rfl
          try simp only [Act.put, List.setIfInBounds_toArray, List.set_cons_zero, List.set_cons_succ]
          refine wpAnyH_take (i := 12) (oi := { dst := some 26, op := Go.Op.move (Go.Operand.tmp 4), type := 3, pos := "ref.go:74", after := #[{ on := 10, ground := Go.Ground.guard }], guard := some (10, true) }) (v := ?_) rfl ?_ ?_ ?_ ?_ (Or.inl ⟨?_, ?_⟩) hH2 ?_
          rotate_left
          · kernel_rfl
          · kernel_rfl
          · kernel_rfl
          · exact fun _ _ _ h => h
          · kernel_rfl
          · intro wS hSw
            try dsimp only at hSw
            go_simp
            try with_reducible rfl
          try simp only [Act.put, List.setIfInBounds_toArray, List.set_cons_zero, List.set_cons_succ]
          refine wpAnyH_take (i := 13) (oi := { dst := some 27, op := Go.Op.indexAddr 26 (Go.Operand.tmp 25) (Go.Operand.tmp 26), type := 0, pos := "ref.go:74", after := #[{ on := 11, ground := Go.Ground.data }, { on := 12, ground := Go.Ground.data }, { on := 10, ground := Go.Ground.guard }], guard := some (10, true) }) (v := ?_) rfl ?_ ?_ ?_ ?_ (Or.inl ⟨?_, ?_⟩) hH2 ?_
          rotate_left
          · kernel_rfl
          · kernel_rfl
          · kernel_rfl
          · exact fun _ _ _ h => h
          · kernel_rfl
          · intro wS hSw
            try dsimp only at hSw
            go_simp
            try with_reducible rfl
          try simp only [Act.put, List.setIfInBounds_toArray, List.set_cons_zero, List.set_cons_succ]
          refine wpAnyH_take (i := 14) (oi := { dst := some 28, op := Go.Op.load 48 (Go.Operand.tmp 27), type := 48, pos := "ref.go:74", after := #[{ on := 13, ground := Go.Ground.data }, { on := 10, ground := Go.Ground.guard }], guard := some (10, true) }) (v := ?_) rfl ?_ ?_ ?_ ?_ (Or.inl ⟨?_, ?_⟩) hH2 ?_
          rotate_left
          · kernel_rfl
          · kernel_rfl
          · kernel_rfl
          · exact fun _ _ _ h => h
          · kernel_rfl
          · intro wS hSw
            try dsimp only at hSw
            go_simp
            try with_reducible rfl
          try simp only [Act.put, List.setIfInBounds_toArray, List.set_cons_zero, List.set_cons_succ]
          refine wpAnyH_ready (rs := [15]) (by kernel_rfl) (by simp) ?_
          refine AllReadyH.cons (o := { dst := some 29, op := Go.Op.call { callee := Go.Callee.value (Go.Operand.func 32), args := #[Go.Operand.tmp 28], argTypes := #[48] }, type := 4, pos := "ref.go:74", after := #[{ on := 14, ground := Go.Ground.data }, { on := 10, ground := Go.Ground.chain }, { on := 10, ground := Go.Ground.guard }], guard := some (10, true) }) rfl (fun K hK => ?_) AllReadyH.nil
          go_simp
          refine (CX.out _).mono ?_
          rintro e15 w15 ⟨rfl, b15⟩
          try go_wp2_with fail
          refine hK.out _ _ ?_ (fun hH3 => ?_)
          · exact held_rmg hH2 b15
          clear hK K hH2
          try simp only [Act.put, List.setIfInBounds_toArray, List.set_cons_zero, List.set_cons_succ]
          refine wpAnyH_take (i := 16) (oi := { dst := some 30, op := Go.Op.pick (Go.Operand.tmp 24) (Go.Operand.tmp 29) (Go.Operand.const (Go.Value.bool false)), type := 4, pos := "ref.go:74", after := #[{ on := 10, ground := Go.Ground.data }, { on := 15, ground := Go.Ground.data }], guard := none }) (v := ?_) rfl ?_ ?_ ?_ ?_ (Or.inl ⟨?_, ?_⟩) hH3 ?_
          rotate_left
          · kernel_rfl
          · kernel_rfl
          · kernel_rfl
          · exact fun _ _ _ h => h
          · kernel_rfl
          · intro wS hSw
            try dsimp only at hSw
            go_simp
            try with_reducible rfl
          try simp only [Act.put, List.setIfInBounds_toArray, List.set_cons_zero, List.set_cons_succ]
          refine wpAnyH_take (i := 17) (oi := { dst := some 31, op := Go.Op.move (Go.Operand.tmp 30), type := 4, pos := "ref.go:74", after := #[{ on := 16, ground := Go.Ground.data }, { on := 15, ground := Go.Ground.chain }], guard := none }) (v := ?_) rfl ?_ ?_ ?_ ?_ (Or.inl ⟨?_, ?_⟩) hH3 ?_
          rotate_left
          · kernel_rfl
          · kernel_rfl
          · kernel_rfl
          · exact fun _ _ _ h => h
          · kernel_rfl
          · intro wS hSw
            try dsimp only at hSw
            go_simp
            try with_reducible rfl
          try simp only [Act.put, List.setIfInBounds_toArray, List.set_cons_zero, List.set_cons_succ]
          refine wpAnyH_take (i := 18) (oi := { dst := some 32, op := Go.Op.move (Go.Operand.tmp 0), type := 26, pos := "ref.go:74", after := #[{ on := 17, ground := Go.Ground.guard }], guard := some (17, true) }) (v := ?_) rfl ?_ ?_ ?_ ?_ (Or.inl ⟨?_, ?_⟩) hH3 ?_
          rotate_left
          · kernel_rfl
          · kernel_rfl
          · kernel_rfl
          · exact fun _ _ _ h => h
          · kernel_rfl
          · intro wS hSw
            try dsimp only at hSw
            go_simp
            try with_reducible rfl
          try simp only [Act.put, List.setIfInBounds_toArray, List.set_cons_zero, List.set_cons_succ]
          refine wpAnyH_take (i := 19) (oi := { dst := some 33, op := Go.Op.move (Go.Operand.tmp 4), type := 3, pos := "ref.go:74", after := #[{ on := 17, ground := Go.Ground.guard }], guard := some (17, true) }) (v := ?_) rfl ?_ ?_ ?_ ?_ (Or.inl ⟨?_, ?_⟩) hH3 ?_
          rotate_left
          · kernel_rfl
          · kernel_rfl
          · kernel_rfl
          · exact fun _ _ _ h => h
          · kernel_rfl
          · intro wS hSw
            try dsimp only at hSw
            go_simp
            try with_reducible rfl
          try simp only [Act.put, List.setIfInBounds_toArray, List.set_cons_zero, List.set_cons_succ]
          refine wpAnyH_take (i := 20) (oi := { dst := some 34, op := Go.Op.binOp Go.BinOp.sub 3 (Go.Operand.tmp 33) (Go.Operand.const (Go.Value.int Go.IntKind.i64 1)) 3, type := 3, pos := "ref.go:74", after := #[{ on := 19, ground := Go.Ground.data }, { on := 17, ground := Go.Ground.guard }], guard := some (17, true) }) (v := ?_) rfl ?_ ?_ ?_ ?_ (Or.inl ⟨?_, ?_⟩) hH3 ?_
          rotate_left
          · kernel_rfl
          · kernel_rfl
          · kernel_rfl
          · exact fun _ _ _ h => h
          · kernel_rfl
          · intro wS hSw
            try dsimp only at hSw
            go_simp
            try with_reducible rfl
          try simp only [Act.put, List.setIfInBounds_toArray, List.set_cons_zero, List.set_cons_succ]
          refine wpAnyH_take (i := 21) (oi := { dst := some 35, op := Go.Op.indexAddr 26 (Go.Operand.tmp 32) (Go.Operand.tmp 34), type := 0, pos := "ref.go:74", after := #[{ on := 18, ground := Go.Ground.data }, { on := 20, ground := Go.Ground.data }, { on := 17, ground := Go.Ground.guard }], guard := some (17, true) }) (v := ?_) rfl ?_ ?_ ?_ ?_ (Or.inl ⟨?_, ?_⟩) hH3 ?_
          rotate_left
          · kernel_rfl
          · kernel_rfl
          · kernel_rfl
          · exact fun _ _ _ h => h
          · kernel_rfl
          · intro wS hSw
            try dsimp only at hSw
            go_simp
            try with_reducible rfl
          try simp only [Act.put, List.setIfInBounds_toArray, List.set_cons_zero, List.set_cons_succ]
          refine wpAnyH_take (i := 22) (oi := { dst := some 36, op := Go.Op.fieldAddr 48 (Go.Operand.tmp 35) 3, type := 0, pos := "ref.go:74", after := #[{ on := 21, ground := Go.Ground.data }, { on := 17, ground := Go.Ground.guard }], guard := some (17, true) }) (v := ?_) rfl ?_ ?_ ?_ ?_ (Or.inl ⟨?_, ?_⟩) hH3 ?_
          rotate_left
          · kernel_rfl
          · kernel_rfl
          · kernel_rfl
          · exact fun _ _ _ h => h
          · kernel_rfl
          · intro wS hSw
            try dsimp only at hSw
            go_simp
            try with_reducible rfl
          try simp only [Act.put, List.setIfInBounds_toArray, List.set_cons_zero, List.set_cons_succ]
          refine wpAnyH_take (i := 23) (oi := { dst := some 37, op := Go.Op.load 3 (Go.Operand.tmp 36), type := 3, pos := "ref.go:74", after := #[{ on := 22, ground := Go.Ground.data }, { on := 17, ground := Go.Ground.guard }], guard := some (17, true) }) (v := ?_) rfl ?_ ?_ ?_ ?_ (Or.inl ⟨?_, ?_⟩) hH3 ?_
          rotate_left
          · kernel_rfl
          · kernel_rfl
          · kernel_rfl
          · exact fun _ _ _ h => h
          · kernel_rfl
          · intro wS hSw
            try dsimp only at hSw
            go_simp
            try with_reducible rfl
          try simp only [Act.put, List.setIfInBounds_toArray, List.set_cons_zero, List.set_cons_succ]
          refine wpAnyH_take (i := 24) (oi := { dst := some 38, op := Go.Op.move (Go.Operand.tmp 0), type := 26, pos := "ref.go:74", after := #[{ on := 17, ground := Go.Ground.guard }], guard := some (17, true) }) (v := ?_) rfl ?_ ?_ ?_ ?_ (Or.inl ⟨?_, ?_⟩) hH3 ?_
          rotate_left
          · kernel_rfl
          · kernel_rfl
          · kernel_rfl
          · exact fun _ _ _ h => h
          · kernel_rfl
          · intro wS hSw
            try dsimp only at hSw
            go_simp
            try with_reducible rfl
          try simp only [Act.put, List.setIfInBounds_toArray, List.set_cons_zero, List.set_cons_succ]
          refine wpAnyH_take (i := 25) (oi := { dst := some 39, op := Go.Op.move (Go.Operand.tmp 4), type := 3, pos := "ref.go:74", after := #[{ on := 17, ground := Go.Ground.guard }], guard := some (17, true) }) (v := ?_) rfl ?_ ?_ ?_ ?_ (Or.inl ⟨?_, ?_⟩) hH3 ?_
          rotate_left
          · kernel_rfl
          · kernel_rfl
          · kernel_rfl
          · exact fun _ _ _ h => h
          · kernel_rfl
          · intro wS hSw
            try dsimp only at hSw
            go_simp
            try with_reducible rfl
          try simp only [Act.put, List.setIfInBounds_toArray, List.set_cons_zero, List.set_cons_succ]
          refine wpAnyH_take (i := 26) (oi := { dst := some 40, op := Go.Op.indexAddr 26 (Go.Operand.tmp 38) (Go.Operand.tmp 39), type := 0, pos := "ref.go:74", after := #[{ on := 24, ground := Go.Ground.data }, { on := 25, ground := Go.Ground.data }, { on := 17, ground := Go.Ground.guard }], guard := some (17, true) }) (v := ?_) rfl ?_ ?_ ?_ ?_ (Or.inl ⟨?_, ?_⟩) hH3 ?_
          rotate_left
          · kernel_rfl
          · kernel_rfl
          · kernel_rfl
          · exact fun _ _ _ h => h
          · kernel_rfl
          · intro wS hSw
            try dsimp only at hSw
            go_simp
            try with_reducible rfl
          try simp only [Act.put, List.setIfInBounds_toArray, List.set_cons_zero, List.set_cons_succ]
          refine wpAnyH_take (i := 27) (oi := { dst := some 41, op := Go.Op.fieldAddr 48 (Go.Operand.tmp 40) 3, type := 0, pos := "ref.go:74", after := #[{ on := 26, ground := Go.Ground.data }, { on := 17, ground := Go.Ground.guard }], guard := some (17, true) }) (v := ?_) rfl ?_ ?_ ?_ ?_ (Or.inl ⟨?_, ?_⟩) hH3 ?_
          rotate_left
          · kernel_rfl
          · kernel_rfl
          · kernel_rfl
          · exact fun _ _ _ h => h
          · kernel_rfl
          · intro wS hSw
            try dsimp only at hSw
            go_simp
            try with_reducible rfl
          try simp only [Act.put, List.setIfInBounds_toArray, List.set_cons_zero, List.set_cons_succ]
          refine wpAnyH_take (i := 28) (oi := { dst := some 42, op := Go.Op.load 3 (Go.Operand.tmp 41), type := 3, pos := "ref.go:74", after := #[{ on := 27, ground := Go.Ground.data }, { on := 17, ground := Go.Ground.guard }], guard := some (17, true) }) (v := ?_) rfl ?_ ?_ ?_ ?_ (Or.inl ⟨?_, ?_⟩) hH3 ?_
          rotate_left
          · kernel_rfl
          · kernel_rfl
          · kernel_rfl
          · exact fun _ _ _ h => h
          · kernel_rfl
          · intro wS hSw
            try dsimp only at hSw
            go_simp
            try with_reducible rfl
          try simp only [Act.put, List.setIfInBounds_toArray, List.set_cons_zero, List.set_cons_succ]
          refine wpAnyH_take (i := 29) (oi := { dst := some 43, op := Go.Op.binOp Go.BinOp.eql 3 (Go.Operand.tmp 37) (Go.Operand.tmp 42) 3, type := 4, pos := "ref.go:74", after := #[{ on := 23, ground := Go.Ground.data }, { on := 28, ground := Go.Ground.data }, { on := 17, ground := Go.Ground.guard }], guard := some (17, true) }) (v := ?_) rfl ?_ ?_ ?_ ?_ (Or.inl ⟨?_, ?_⟩) hH3 ?_
          rotate_left
          · kernel_rfl
          · kernel_rfl
          · kernel_rfl
          · exact fun _ _ _ h => h
          · kernel_rfl
          · intro wS hSw
            try dsimp only at hSw
            go_simp
            try with_reducible rfl
          try simp only [Act.put, List.setIfInBounds_toArray, List.set_cons_zero, List.set_cons_succ]
          refine wpAnyH_take (i := 30) (oi := { dst := some 44, op := Go.Op.pick (Go.Operand.tmp 31) (Go.Operand.tmp 43) (Go.Operand.const (Go.Value.bool false)), type := 4, pos := "ref.go:74", after := #[{ on := 17, ground := Go.Ground.data }, { on := 29, ground := Go.Ground.data }], guard := none }) (v := ?_) rfl ?_ ?_ ?_ ?_ (Or.inl ⟨?_, ?_⟩) hH3 ?_
          rotate_left
          · kernel_rfl
          · kernel_rfl
          · kernel_rfl
          · exact fun _ _ _ h => h
          · kernel_rfl
          · intro wS hSw
            try dsimp only at hSw
            go_simp
            try with_reducible rfl
          try simp only [Act.put, List.setIfInBounds_toArray, List.set_cons_zero, List.set_cons_succ]
          refine wpAnyH_take (i := 31) (oi := { dst := some 45, op := Go.Op.move (Go.Operand.tmp 44), type := 4, pos := "ref.go:74", after := #[{ on := 30, ground := Go.Ground.data }, { on := 17, ground := Go.Ground.chain }], guard := none }) (v := ?_) rfl ?_ ?_ ?_ ?_ (Or.inl ⟨?_, ?_⟩) hH3 ?_
          rotate_left
          · kernel_rfl
          · kernel_rfl
          · kernel_rfl
          · exact fun _ _ _ h => h
          · kernel_rfl
          · intro wS hSw
            try dsimp only at hSw
            go_simp
            try with_reducible rfl
          try simp only [Act.put, List.setIfInBounds_toArray, List.set_cons_zero, List.set_cons_succ]
          refine wpAnyH_take (i := 32) (oi := { dst := some 46, op := Go.Op.move (Go.Operand.tmp 0), type := 26, pos := "ref.go:74", after := #[{ on := 31, ground := Go.Ground.guard }], guard := some (31, true) }) (v := undef) rfl ?_ ?_ ?_ ?_ ?_ hH3 ?_
          · kernel_rfl
          · kernel_rfl
          · kernel_rfl
          · exact fun _ _ _ h => h
          · exact Or.inr ⟨by kernel_rfl, rfl⟩
          try simp only [Act.put, List.setIfInBounds_toArray, List.set_cons_zero, List.set_cons_succ]
          refine wpAnyH_take (i := 33) (oi := { dst := some 47, op := Go.Op.move (Go.Operand.tmp 4), type := 3, pos := "ref.go:74", after := #[{ on := 31, ground := Go.Ground.guard }], guard := some (31, true) }) (v := undef) rfl ?_ ?_ ?_ ?_ ?_ hH3 ?_
          · kernel_rfl
          · kernel_rfl
          · kernel_rfl
          · exact fun _ _ _ h => h
          · exact Or.inr ⟨by kernel_rfl, rfl⟩
          try simp only [Act.put, List.setIfInBounds_toArray, List.set_cons_zero, List.set_cons_succ]
          refine wpAnyH_take (i := 34) (oi := { dst := some 48, op := Go.Op.binOp Go.BinOp.sub 3 (Go.Operand.tmp 47) (Go.Operand.const (Go.Value.int Go.IntKind.i64 1)) 3, type := 3, pos := "ref.go:74", after := #[{ on := 33, ground := Go.Ground.data }, { on := 31, ground := Go.Ground.guard }], guard := some (31, true) }) (v := undef) rfl ?_ ?_ ?_ ?_ ?_ hH3 ?_
          · kernel_rfl
          · kernel_rfl
          · kernel_rfl
          · exact fun _ _ _ h => h
          · exact Or.inr ⟨by kernel_rfl, rfl⟩
          try simp only [Act.put, List.setIfInBounds_toArray, List.set_cons_zero, List.set_cons_succ]
          refine wpAnyH_take (i := 35) (oi := { dst := some 49, op := Go.Op.indexAddr 26 (Go.Operand.tmp 46) (Go.Operand.tmp 48), type := 0, pos := "ref.go:74", after := #[{ on := 32, ground := Go.Ground.data }, { on := 34, ground := Go.Ground.data }, { on := 31, ground := Go.Ground.guard }], guard := some (31, true) }) (v := undef) rfl ?_ ?_ ?_ ?_ ?_ hH3 ?_
          · kernel_rfl
          · kernel_rfl
          · kernel_rfl
          · exact fun _ _ _ h => h
          · exact Or.inr ⟨by kernel_rfl, rfl⟩
          try simp only [Act.put, List.setIfInBounds_toArray, List.set_cons_zero, List.set_cons_succ]
          refine wpAnyH_take (i := 36) (oi := { dst := some 50, op := Go.Op.fieldAddr 48 (Go.Operand.tmp 49) 2, type := 0, pos := "ref.go:74", after := #[{ on := 35, ground := Go.Ground.data }, { on := 31, ground := Go.Ground.guard }], guard := some (31, true) }) (v := undef) rfl ?_ ?_ ?_ ?_ ?_ hH3 ?_
          · kernel_rfl
          · kernel_rfl
          · kernel_rfl
          · exact fun _ _ _ h => h
          · exact Or.inr ⟨by kernel_rfl, rfl⟩
          try simp only [Act.put, List.setIfInBounds_toArray, List.set_cons_zero, List.set_cons_succ]
          refine wpAnyH_take (i := 37) (oi := { dst := some 51, op := Go.Op.load 3 (Go.Operand.tmp 50), type := 3, pos := "ref.go:74", after := #[{ on := 36, ground := Go.Ground.data }, { on := 31, ground := Go.Ground.guard }], guard := some (31, true) }) (v := undef) rfl ?_ ?_ ?_ ?_ ?_ hH3 ?_
          · kernel_rfl
          · kernel_rfl
          · kernel_rfl
          · exact fun _ _ _ h => h
          · exact Or.inr ⟨by kernel_rfl, rfl⟩
          try simp only [Act.put, List.setIfInBounds_toArray, List.set_cons_zero, List.set_cons_succ]
          refine wpAnyH_take (i := 38) (oi := { dst := some 52, op := Go.Op.move (Go.Operand.tmp 0), type := 26, pos := "ref.go:74", after := #[{ on := 31, ground := Go.Ground.guard }], guard := some (31, true) }) (v := undef) rfl ?_ ?_ ?_ ?_ ?_ hH3 ?_
          · kernel_rfl
          · kernel_rfl
          · kernel_rfl
          · exact fun _ _ _ h => h
          · exact Or.inr ⟨by kernel_rfl, rfl⟩
          try simp only [Act.put, List.setIfInBounds_toArray, List.set_cons_zero, List.set_cons_succ]
          refine wpAnyH_take (i := 39) (oi := { dst := some 53, op := Go.Op.move (Go.Operand.tmp 4), type := 3, pos := "ref.go:74", after := #[{ on := 31, ground := Go.Ground.guard }], guard := some (31, true) }) (v := undef) rfl ?_ ?_ ?_ ?_ ?_ hH3 ?_
          · kernel_rfl
          · kernel_rfl
          · kernel_rfl
          · exact fun _ _ _ h => h
          · exact Or.inr ⟨by kernel_rfl, rfl⟩
          try simp only [Act.put, List.setIfInBounds_toArray, List.set_cons_zero, List.set_cons_succ]
          refine wpAnyH_take (i := 40) (oi := { dst := some 54, op := Go.Op.indexAddr 26 (Go.Operand.tmp 52) (Go.Operand.tmp 53), type := 0, pos := "ref.go:74", after := #[{ on := 38, ground := Go.Ground.data }, { on := 39, ground := Go.Ground.data }, { on := 31, ground := Go.Ground.guard }], guard := some (31, true) }) (v := undef) rfl ?_ ?_ ?_ ?_ ?_ hH3 ?_
          · kernel_rfl
          · kernel_rfl
          · kernel_rfl
          · exact fun _ _ _ h => h
          · exact Or.inr ⟨by kernel_rfl, rfl⟩
          try simp only [Act.put, List.setIfInBounds_toArray, List.set_cons_zero, List.set_cons_succ]
          refine wpAnyH_take (i := 41) (oi := { dst := some 55, op := Go.Op.fieldAddr 48 (Go.Operand.tmp 54) 1, type := 0, pos := "ref.go:74", after := #[{ on := 40, ground := Go.Ground.data }, { on := 31, ground := Go.Ground.guard }], guard := some (31, true) }) (v := undef) rfl ?_ ?_ ?_ ?_ ?_ hH3 ?_
          · kernel_rfl
          · kernel_rfl
          · kernel_rfl
          · exact fun _ _ _ h => h
          · exact Or.inr ⟨by kernel_rfl, rfl⟩
          try simp only [Act.put, List.setIfInBounds_toArray, List.set_cons_zero, List.set_cons_succ]
          refine wpAnyH_take (i := 42) (oi := { dst := some 56, op := Go.Op.load 3 (Go.Operand.tmp 55), type := 3, pos := "ref.go:74", after := #[{ on := 41, ground := Go.Ground.data }, { on := 31, ground := Go.Ground.guard }], guard := some (31, true) }) (v := undef) rfl ?_ ?_ ?_ ?_ ?_ hH3 ?_
          · kernel_rfl
          · kernel_rfl
          · kernel_rfl
          · exact fun _ _ _ h => h
          · exact Or.inr ⟨by kernel_rfl, rfl⟩
          try simp only [Act.put, List.setIfInBounds_toArray, List.set_cons_zero, List.set_cons_succ]
          refine wpAnyH_take (i := 43) (oi := { dst := some 57, op := Go.Op.binOp Go.BinOp.eql 3 (Go.Operand.tmp 51) (Go.Operand.tmp 56) 3, type := 4, pos := "ref.go:74", after := #[{ on := 37, ground := Go.Ground.data }, { on := 42, ground := Go.Ground.data }, { on := 31, ground := Go.Ground.guard }], guard := some (31, true) }) (v := undef) rfl ?_ ?_ ?_ ?_ ?_ hH3 ?_
          · kernel_rfl
          · kernel_rfl
          · kernel_rfl
          · exact fun _ _ _ h => h
          · exact Or.inr ⟨by kernel_rfl, rfl⟩
          try simp only [Act.put, List.setIfInBounds_toArray, List.set_cons_zero, List.set_cons_succ]
          refine wpAnyH_take (i := 44) (oi := { dst := some 58, op := Go.Op.pick (Go.Operand.tmp 45) (Go.Operand.tmp 57) (Go.Operand.const (Go.Value.bool false)), type := 4, pos := "ref.go:74", after := #[{ on := 31, ground := Go.Ground.data }, { on := 43, ground := Go.Ground.data }], guard := none }) (v := ?_) rfl ?_ ?_ ?_ ?_ (Or.inl ⟨?_, ?_⟩) hH3 ?_
          rotate_left
          · kernel_rfl
          · kernel_rfl
          · kernel_rfl
          · exact fun _ _ _ h => h
          · kernel_rfl
          · intro wS hSw
            try dsimp only at hSw
            go_simp
            try with_reducible rfl
          try simp only [Act.put, List.setIfInBounds_toArray, List.set_cons_zero, List.set_cons_succ]
          refine wpAnyH_done (by kernel_rfl) ?_ _
          have hS9 := hH3
          clear hH3
          obtain ⟨d0, d1, d2, d3, d4, d5, d6, e0, e1, e2, e3, e4, e5, e6, B9, l1⟩ := hS9
          have HR9 := Lib.hid (HR.out.keep B9)
          have z2 := HR9.out.frozen (K * 7 + 2)
          have hbw := Lib.hid (hb.trans (B9.mono hb.size))
          have hle9 := hbw.out.size
          go_wp2_with (first
            | (at_builtin; go_must (refine wpList_append_ev2 rfl _ _ rfl rfl rfl rfl (by simp only [World.size_alloc]) HR9.out hle9 (by rw [hlen]; omega) ?_; intro v5 w5 R5 b5 n5)))
          go_roundw
          case rel => exact ⟨n + 1 + 1, by omega, val_int (by omega), Lib.hid (by rw [HM3.out]; exact R5), Lib.hid (hbw.out.trans b5)⟩
          case measure => simp [intOf]; omega
        by_cases ht : x1 = y2
        case neg =>
          subst hpy hpx hv
          have ht1 : (y2 == x1) = false := by simpa using fun e => ht e.symm
          have HM3 : Hid (mg (l.take (n + 1 + 1)) = q ++ [m] ++ [⟨x0, x1, x2, x3, x4, x5.data.toList, x6⟩]) := Lib.hid (by rw [HM2.out, if_neg (by simp [show ¬ y2 = x1 from fun e => ht e.symm])])
          clear HM2
          go_region_held3 (fun w' => w'.cell? ⟨g, o + (n + 1) * 7, none⟩ = some (.int .i64 x0) ∧ w'.cell? ⟨g, o + (n + 1) * 7 + 1, none⟩ = some (.int .i64 x1) ∧ w'.cell? ⟨g, o + (n + 1) * 7 + 2, none⟩ = some (.int .i64 x2) ∧ w'.cell? ⟨g, o + (n + 1) * 7 + 3, none⟩ = some (.int .i64 x3) ∧ w'.cell? ⟨g, o + (n + 1) * 7 + 4, none⟩ = some (.int .i64 x4) ∧ w'.cell? ⟨g, o + (n + 1) * 7 + 5, none⟩ = some (.string x5) ∧ w'.cell? ⟨g, o + (n + 1) * 7 + 6, none⟩ = some (.int .i64 x6) ∧ w'.cell? ⟨g, o + n * 7, none⟩ = some (.int .i64 y0) ∧ w'.cell? ⟨g, o + n * 7 + 1, none⟩ = some (.int .i64 y1) ∧ w'.cell? ⟨g, o + n * 7 + 2, none⟩ = some (.int .i64 y2) ∧ w'.cell? ⟨g, o + n * 7 + 3, none⟩ = some (.int .i64 x3) ∧ w'.cell? ⟨g, o + n * 7 + 4, none⟩ = some (.int .i64 y4) ∧ w'.cell? ⟨g, o + n * 7 + 5, none⟩ = some (.string y5) ∧ w'.cell? ⟨g, o + n * 7 + 6, none⟩ = some (.int .i64 y6) ∧ Below wr.heap.size wr w' ∧ g < w'.heap.size) (first | assumption | exact held_rmg hs.out (Below.refl _ _).drew | exact held_rmg (by assumption) (Below.refl _ _).drew | fail)
            (first
            | (go_at_call_of 32 (Value.agg #[Value.int IntKind.i64 y0, Value.int IntKind.i64 y1, Value.int IntKind.i64 y2, Value.int IntKind.i64 x3, Value.int IntKind.i64 y4, Value.string y5, Value.int IntKind.i64 y6]); refine (CY.out _).mono ?_; rintro e5 w5 ⟨rfl, b5⟩; have h5 := held_rmg (by assumption) b5)
            | (go_at_call_of 32 (Value.agg #[Value.int IntKind.i64 x0, Value.int IntKind.i64 x1, Value.int IntKind.i64 x2, Value.int IntKind.i64 x3, Value.int IntKind.i64 x4, Value.string x5, Value.int IntKind.i64 x6]); refine (CX.out _).mono ?_; rintro e6 w6 ⟨rfl, b6⟩; have h6 := held_rmg (by assumption) b6))
          rename_i hS9
          obtain ⟨d0, d1, d2, d3, d4, d5, d6, e0, e1, e2, e3, e4, e5, e6, B9, l1⟩ := hS9
          have HR9 := Lib.hid (HR.out.keep B9)
          have z2 := HR9.out.frozen (K * 7 + 2)
          have hbw := Lib.hid (hb.trans (B9.mono hb.size))
          have hle9 := hbw.out.size
          go_wp2_with (first
            | (at_builtin; go_must (refine wpList_append_ev2 rfl _ _ rfl rfl rfl rfl (by simp only [World.size_alloc]) HR9.out hle9 (by rw [hlen]; omega) ?_; intro v5 w5 R5 b5 n5)))
          go_roundw
          case rel => exact ⟨n + 1 + 1, by omega, val_int (by omega), Lib.hid (by rw [HM3.out]; exact R5), Lib.hid (hbw.out.trans b5)⟩
          case measure => simp [intOf]; omega
        · subst hpy hpx hv ht
          have HM3 : Hid (mg (l.take (n + 1 + 1)) = q ++ [{ m with t := x2 }]) := Lib.hid (by rw [HM2.out, if_pos (by simp)])
          clear HM2
          go_region_held3 (fun w' => w'.cell? ⟨g, o + (n + 1) * 7, none⟩ = some (.int .i64 x0) ∧ w'.cell? ⟨g, o + (n + 1) * 7 + 1, none⟩ = some (.int .i64 x1) ∧ w'.cell? ⟨g, o + (n + 1) * 7 + 2, none⟩ = some (.int .i64 x2) ∧ w'.cell? ⟨g, o + (n + 1) * 7 + 3, none⟩ = some (.int .i64 x3) ∧ w'.cell? ⟨g, o + (n + 1) * 7 + 4, none⟩ = some (.int .i64 x4) ∧ w'.cell? ⟨g, o + (n + 1) * 7 + 5, none⟩ = some (.string x5) ∧ w'.cell? ⟨g, o + (n + 1) * 7 + 6, none⟩ = some (.int .i64 x6) ∧ w'.cell? ⟨g, o + n * 7, none⟩ = some (.int .i64 y0) ∧ w'.cell? ⟨g, o + n * 7 + 1, none⟩ = some (.int .i64 y1) ∧ w'.cell? ⟨g, o + n * 7 + 2, none⟩ = some (.int .i64 x1) ∧ w'.cell? ⟨g, o + n * 7 + 3, none⟩ = some (.int .i64 x3) ∧ w'.cell? ⟨g, o + n * 7 + 4, none⟩ = some (.int .i64 y4) ∧ w'.cell? ⟨g, o + n * 7 + 5, none⟩ = some (.string y5) ∧ w'.cell? ⟨g, o + n * 7 + 6, none⟩ = some (.int .i64 y6) ∧ Below wr.heap.size wr w' ∧ g < w'.heap.size) (first | assumption | exact held_rmg hs.out (Below.refl _ _).drew | exact held_rmg (by assumption) (Below.refl _ _).drew | fail)
            (first
            | (go_at_call_of 32 (Value.agg #[Value.int IntKind.i64 y0, Value.int IntKind.i64 y1, Value.int IntKind.i64 x1, Value.int IntKind.i64 x3, Value.int IntKind.i64 y4, Value.string y5, Value.int IntKind.i64 y6]); refine (CY.out _).mono ?_; rintro e5 w5 ⟨rfl, b5⟩; have h5 := held_rmg (by assumption) b5)
            | (go_at_call_of 32 (Value.agg #[Value.int IntKind.i64 x0, Value.int IntKind.i64 x1, Value.int IntKind.i64 x2, Value.int IntKind.i64 x3, Value.int IntKind.i64 x4, Value.string x5, Value.int IntKind.i64 x6]); refine (CX.out _).mono ?_; rintro e6 w6 ⟨rfl, b6⟩; have h6 := held_rmg (by assumption) b6))
          rename_i hS9
          obtain ⟨d0, d1, d2, d3, d4, d5, d6, e0, e1, e2, e3, e4, e5, e6, B9, l1⟩ := hS9
          have HR9 := Lib.hid (HR.out.keep B9)
          have z2 := HR9.out.frozen (K * 7 + 2)
          have hbw := Lib.hid (hb.trans (B9.mono hb.size))
          have hle9 := hbw.out.size
          have r2 := (B9.cell (p := ⟨h2, K * 7 + 2, none⟩) hgw).trans HR27.out
          go_wp2
          go_roundw
          case rel => exact ⟨n + 1 + 1, by omega, val_int (by omega), Lib.hid (by rw [HM3.out]; exact HT.out _ HR9.out x2), Lib.hid (hbw.out.setCell hBg _)⟩
          case measure => simp [intOf]; omega
    · have he : l.take j = l := List.take_of_length_le (by omega)
      rw [he] at HR
      clear he
      go_wp2
      go_returns
      exact ⟨_, rfl, HR.out, hb⟩

end Go.Proofs.Ytcodoakfomddfaa
