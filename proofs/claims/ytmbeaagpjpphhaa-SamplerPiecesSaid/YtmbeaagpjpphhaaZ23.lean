/-
  The walk of the program's Step.
  The statements' short: it ends, and says at most 400.
  The statements' short for an invalid clock; the specification's Check as short wants it.
  The examples that the statements ask for (lives).
-/
import Derived.Test.YtmbeaagpjpphhaaZ22
namespace Go.Proofs.Ytmbeaagpjpphhaa
open Go Go.RowKit Go.Joins
set_option linter.unusedVariables false
set_option linter.unusedSimpArgs false

theorem boxes4 (w : World) (A S E Z : Array Value) : ∃ W b3 b4 b5 b6, W = (((w.alloc (.cells A 25)).alloc (.cells S 39)).alloc (.cells E 44)).alloc (.cells Z 39) ∧ b6 = w.heap.size + 1 + 1 + 1 ∧ b5 = w.heap.size + 1 + 1 ∧ b4 = w.heap.size + 1 ∧ b3 = w.heap.size ∧ (b3 < b4 ∧ b4 < b5 ∧ b5 < b6 ∧ b6 < W.heap.size ∧ w.heap.size ≤ b3) ∧
    RowAt W b3 25 A ∧ RowAt W b4 39 S ∧ RowAt W b5 44 E ∧ RowAt W b6 39 Z ∧ Below w.heap.size w W := by
  refine ⟨_, _, _, _, _, rfl, rfl, rfl, rfl, rfl, by simp only [World.size_alloc]; omega, ?_, ?_, ?_, ?_, by (repeat' (first | with_reducible exact Below.refl _ _ | with_reducible exact Nat.le_refl _ | with_reducible assumption | with_reducible refine below_drewN ?_ _ | with_reducible refine Below.drew ?_ | with_reducible refine Below.trans ?_ (Below.mono (by assumption) ?_) | with_reducible refine Below.alloc ?_ ?_ _ | with_reducible refine Below.setCell ?_ ?_ _ | with_reducible refine le_setCell ?_ _ _ | with_reducible refine le_alloc ?_ _ | with_reducible refine le_drewN ?_ _ | with_reducible refine le_drew ?_ | with_reducible refine Nat.le_trans ?_ (Below.size (by assumption)) | (simp only [World.size_alloc, World.size_setCell]; omega) | omega))⟩
  · exact (((RowAt.new w _ _).alloc _).alloc _).alloc _
  · exact ((RowAt.at (by simp only [World.size_alloc])).alloc _).alloc _
  · exact (RowAt.at (by simp only [World.size_alloc])).alloc _
  · exact RowAt.at (by simp only [World.size_alloc])
theorem row2 {w : World} {b : Nat} {T : TypeId} {x0 x1 : Value} (h : RowAt w b T #[x0, x1]) : w.cell? ⟨b, 0, none⟩ = some x0 ∧ w.cell? ⟨b, 1, none⟩ = some x1 := ⟨h.cell 0, h.cell 1⟩

set_option maxRecDepth 20000 in
set_option maxHeartbeats 8000000 in
theorem mStep_yes (N D : Int) (m : MS) (e : Ev) (w : World) (hc : ckE N D = 0) (hr : RcM m) (hd : e.d.length ≤ 140737488351232) :
    Calls Try.prog 23 #[rat N D, .agg (sSt m.ph m.e m.fr m.pv), .agg (evA e.k e.f e.t e.v e.a ⟨e.d.toArray⟩ e.u)] w fun r w' => ∃ V, r = .returned (.tuple #[.agg (sSt (smS N D ⟨m.ph, m.e, m.fr, m.pv, []⟩ e).ph (smS N D ⟨m.ph, m.e, m.fr, m.pv, []⟩ e).e (smS N D ⟨m.ph, m.e, m.fr, m.pv, []⟩ e).fr (smS N D ⟨m.ph, m.e, m.fr, m.pv, []⟩ e).pv), V]) ∧ EvRow w' w.heap.size V (smS N D ⟨m.ph, m.e, m.fr, m.pv, []⟩ e).o ∧ Below w.heap.size w w' := by
  have h := ck_bt hc
  have CC : Hid (∀ W, Calls Try.prog 18 #[rat N D] W fun e w' => e = .returned (.int .i64 0) ∧ Below W.heap.size W w') := Lib.hid fun W => by have hh := check_any N D W (by have := h.n1; have := h.d1; omega) (by have := h.n2; omega) (by have := h.d1; omega) (by have := h.d2; omega); rwa [hc] at hh
  have CM := Lib.hid (fun b W (hW : MacAt W b N D m.ph m.e m.fr m.pv) => mstep_any b N D m e W h hr hW hd)
  obtain ⟨p, f, r, v, o⟩ := m
  simp only at CM ⊢
  clear hr h hc hd
  generalize (smS N D ⟨p, f, r, v, []⟩ e).ph = y1 at *
  generalize (smS N D ⟨p, f, r, v, []⟩ e).e = y2 at *
  generalize (smS N D ⟨p, f, r, v, []⟩ e).fr = y3 at *
  generalize (smS N D ⟨p, f, r, v, []⟩ e).pv = y4 at *
  generalize (smS N D ⟨p, f, r, v, []⟩ e).o = x' at *
  generalize (⟨e.d.toArray⟩ : ByteArray) = x5 at *
  generalize e.k = x0 at *
  generalize e.f = x1 at *
  generalize e.t = x2 at *
  generalize e.v = x3 at *
  generalize e.a = x4 at *
  generalize e.u = x6 at *
  obtain ⟨W, b3, b4, b5, b6, eW, e6, e5, e4, e3, ⟨l3, l4, l5, l6, l0⟩, r0, r1, r2, r3, B0⟩ := boxes4 w #[.int .i64 N, .int .i64 D] (sSt p f r v) (evA x0 x1 x2 x3 x4 x5 x6) (sSt 0 0 0 0)
  have HB0 := Lib.hid B0
  have s0 := B0.size
  go_enter Try.func23, Try.ntmps23
  go_upto_region 1 with (fail)
  rw [← eW, ← e6, ← e5, ← e4, ← e3]
  clear eW e6 e5 e4 e3
  obtain ⟨c0, c1⟩ := row2 r0
  go_wp2_with (first
    | (go_at_call 18; go_must (refine (CC.out _).mono ?_; rintro e1 w1 ⟨rfl, b1⟩; have s1 := b1.size; have n3 : b3 < w1.heap.size := (by omega); have n4 : b4 < w1.heap.size := (by omega); have n5 : b5 < w1.heap.size := (by omega); have n6 : b6 < w1.heap.size := (by omega); obtain ⟨d0, d1⟩ := row2 (r0.keep b1); obtain ⟨⟨f0, f1, f2, f3, f4, f5, f6, f7⟩, f8⟩ := row8 (r1.keep b1); obtain ⟨⟨g0, g1, g2, g3, g4, g5, g6⟩, g7⟩ := row7 (r2.keep b1); have R3 := Lib.hid (r3.keep b1); have B1 := Lib.hid (HB0.out.trans (b1.mono HB0.out.size)); clear r0 r1 r2 r3 B0 c0 c1))
    | (go_at_call 62; go_must (refine (CM.out _ _ (RowAt.new _ _ _)).mono ?_; rintro e2 w2 ⟨V2, rfl, q2, m2, k2⟩; obtain ⟨VA, VN, VC, rfl, hVN⟩ := q2.form; clear hVN; obtain ⟨⟨z0, z1, z2, z3, z4, z5, z6, z7, z8, z9⟩, zz, zl⟩ := row10 m2; have K2 := Lib.hid ((Kp.of_below (ba w1 _)).trans k2); have hk2 := K2.out; have Q2 := Lib.hid (q2.mono (show w1.heap.size ≤ _ from by rw [World.size_alloc]; omega)); have R4 := Lib.hid (hk2.row R3.out (by simp only [List.mem_singleton]; omega)); have B2 := Lib.hid (B1.out.trans (hk2.below (B := w.heap.size) (by simp only [List.mem_singleton]; intro k hk; omega) (by omega))); have s2 := hk2.size; clear hk2 q2 m2 k2))
    | (refine wpList_store_kp R4.out (sSt y1 y2 y3 y4) (.tmp 6) (.tmp 21) 39 rfl rfl rfl rfl (by kernel_rfl) rfl rfl ?_; intro w9 r9 k9; obtain ⟨⟨p0, p1, p2, p3, p4, p5, p6, p7⟩, p8⟩ := row8 r9))
  (try simp only [Exit.inBlock, Exit.then]); refine bodyPost_ret (by simp [results, Try.results23, go_sem, p0, p1, p2, p3, p4, p5, p6, p7]; try rfl) rfl ?_
  exact ⟨_, rfl, (Q2.out.kp k9 (fun g hg hx => by have := Q2.out.lt g hg; simp only [List.mem_singleton] at hx; omega)).mono (by omega), B2.out.trans (k9.below (by simp only [List.mem_singleton]; intro k hk; omega) (by omega))⟩

set_option maxRecDepth 20000 in
set_option maxHeartbeats 8000000 in
theorem mStep_no (N D p f r v : Int) (x0 x1 x2 x3 x4 : Int) (x5 : ByteArray) (x6 : Int) (w : World) (hN0 : -9223372036854775808 ≤ N) (hN1 : N ≤ 9223372036854775807) (hD0 : -9223372036854775808 ≤ D) (hD1 : D ≤ 9223372036854775807) (hc : ckE N D ≠ 0) :
    Calls Try.prog 23 #[rat N D, .agg (sSt p f r v), .agg (evA x0 x1 x2 x3 x4 x5 x6)] w fun r' w' => r' = .returned (.tuple #[.agg (sSt p f r v), .slice none 0 0]) ∧ Below w.heap.size w w' := by
  have CC := Lib.hid (fun W => check_any N D W hN0 hN1 hD0 hD1)
  have hc' : (ckE N D != 0) = true := by simpa using hc
  clear hc hN0 hN1 hD0 hD1
  generalize ckE N D = E at *
  obtain ⟨W, b3, b4, b5, b6, eW, e6, e5, e4, e3, ⟨l3, l4, l5, l6, l0⟩, r0, r1, r2, r3, B0⟩ := boxes4 w #[.int .i64 N, .int .i64 D] (sSt p f r v) (evA x0 x1 x2 x3 x4 x5 x6) (sSt 0 0 0 0)
  have HB0 := Lib.hid B0
  have s0 := B0.size
  go_enter Try.func23, Try.ntmps23
  go_upto_region 1 with (fail)
  rw [← eW, ← e6, ← e5, ← e4, ← e3]
  clear eW e6 e5 e4 e3
  obtain ⟨c0, c1⟩ := row2 r0
  go_wp2_with (first
    | (go_at_call 18; go_must (refine (CC.out _).mono ?_; rintro e1 w1 ⟨rfl, b1⟩; have s1 := b1.size; have n4 : b4 < w1.heap.size := (by omega); have n6 : b6 < w1.heap.size := (by omega); obtain ⟨⟨f0, f1, f2, f3, f4, f5, f6, f7⟩, f8⟩ := row8 (r1.keep b1); have R3 := Lib.hid (r3.keep b1); have B1 := Lib.hid (HB0.out.trans (b1.mono HB0.out.size)); clear r0 r1 r2 r3 B0 c0 c1))
    | (refine wpList_store_kp R3.out (sSt p f r v) (.tmp 6) (.tmp 13) 39 rfl rfl rfl rfl (by kernel_rfl) rfl rfl ?_; intro w9 r9 k9; obtain ⟨⟨p0, p1, p2, p3, p4, p5, p6, p7⟩, p8⟩ := row8 r9))
  (try simp only [Exit.inBlock, Exit.then]); refine bodyPost_ret (by simp [results, Try.results23, go_sem, p0, p1, p2, p3, p4, p5, p6, p7]; try rfl) rfl ?_
  exact ⟨rfl, B1.out.trans (k9.below (by simp only [List.mem_singleton]; intro k hk; omega) (by omega))⟩

end Go.Proofs.Ytmbeaagpjpphhaa

namespace Go.Proofs.Ytmbeaagpjpphhaa
open Go Go.RowKit Go.Joins
set_option linter.unusedVariables false
set_option linter.unusedSimpArgs false

set_option maxRecDepth 20000 in
set_option maxHeartbeats 8000000 in
theorem short_yes (N D : Int) (l : List Ev) (V : Value) (w : World) (hc : ckE N D = 0) (CK : Hid (∀ W, Calls Try.prog 19 #[rat N D] W fun e w' => e = .returned (.int .i64 0) ∧ Below W.heap.size W w')) (hT : EvArg w V l) (hl : l.length ≤ 1099511627776) :
    Calls Try.prog 20 #[rat N D, V] w fun e w' => ∃ B, e = .returned (.bool B) ∧ (B = true → l.length ≤ 400) ∧ Below w.heap.size w w' := by
  have h := ck_bt hc
  obtain ⟨A, c, rfl, hA⟩ := hT
  have HA := Lib.hid hA
  have hl' : (l.length : Int) ≤ 1099511627776 := by omega
  obtain ⟨W, b, eW, eb, c0, c1, B0, lb⟩ := pair_at w (.int .i64 N) (.int .i64 D) 25
  have HB0 := Lib.hid B0
  have BOX : Hid (∀ X, Below W.heap.size W X → X.cell? ⟨b, 0, none⟩ = some (.int .i64 N) ∧ X.cell? ⟨b, 1, none⟩ = some (.int .i64 D) ∧ b < X.heap.size) := Lib.hid fun X hX => ⟨(hX.cell lb).trans c0, (hX.cell lb).trans c1, Nat.lt_of_lt_of_le lb hX.size⟩
  have HQ : Hid (4 ≤ N / D ∧ N / D ≤ 2147483648 ∧ 1 ≤ D ∧ D ≤ 2147483648 ∧ 4 ≤ N ∧ N ≤ 2147483648) := Lib.hid (by
    obtain ⟨d1, d2, n1, n2, n3⟩ := h
    refine ⟨Int.le_ediv_of_mul_le (by omega) (by omega), Int.le_trans (Int.ediv_le_self _ (by omega)) (by omega), d1, by omega, by omega, by omega⟩)
  clear hA h hc
  by_cases h4 : l.length ≤ 400
  · have h4' : (l.length : Int) ≤ 400 := by omega
    go_enter Try.func20, Try.ntmps20
    go_upto_region 1 with (fail)
    rw [← eW, ← eb]
    clear eW eb
    go_wp2_with (go_at_call 19; go_must (refine (CK.out _).mono ?_; rintro e1 w1 ⟨rfl, b1⟩; have B1 := Lib.hid b1; clear b1 c0 c1))
    go_loopw [6, 5] (fun i n wr => ∃ (j : Nat) (x : Int), j ≤ l.length ∧ i = .int .i64 j ∧ n = .int .i64 x ∧ Hid (Below W.heap.size W wr)) (fun i _ _ => l.length - (intOf i).toNat)
    case atStart => exact ⟨0, 0, by omega, rfl, rfl, B1⟩
    case round =>
      obtain ⟨j, n, hj, rfl, rfl, HB⟩ := hrel
      have hb := HB0.out.trans (HB.out.mono HB0.out.size)
      by_cases hlt : j < l.length
      · obtain ⟨g, o, rfl, hg, hcc⟩ := HA.out (by omega)
        obtain ⟨a0, a1, a2, a3, a4, a5, a6⟩ := arg_seven hcc j hlt
        have f1 := (hb.cell (p := ⟨g, o + j * 7 + 1, none⟩) hg).trans a1
        have f2 := (hb.cell (p := ⟨g, o + j * 7 + 2, none⟩) hg).trans a2
        obtain ⟨k0, k1, k2⟩ := BOX.out _ HB.out
        clear a0 a1 a2 a3 a4 a5 a6 hcc hb
        generalize l[j].f = x1 at *
        generalize l[j].t = x2 at *
        by_cases e1' : 0 ≤ x1
        · have e1 : decide (0 ≤ x1) = true := decide_eq_true e1'
          by_cases e2' : x1 < x2
          · have e2 : decide (x1 < x2) = true := decide_eq_true e2'
            by_cases e3' : x2 ≤ 1099511627776
            · have e3 : decide (x2 ≤ 1099511627776) = true := decide_eq_true e3'
              obtain ⟨q0, q1, q2, q3, q4, q5⟩ := HQ.out
              have q6 : 0 ≤ (x2 - x1) / (N / D) := Int.ediv_nonneg (by omega) (by omega)
              have q7 : (x2 - x1) / (N / D) ≤ x2 - x1 := Int.ediv_le_self _ (by omega)
              have q8 : IntKind.i64.wrap (x2 - x1) = x2 - x1 := IntWalk.i64_in _ (by omega)
              go_wp2
              go_region
              go_wp2
              clear e1 e2 e3
              go_region
              go_wp2
              all_goals first
                | (go_returns; exact ⟨_, rfl, fun hh => by (first | exact h4 | (cases hh; done)), (HB0.out.trans (HB.out.mono HB0.out.size)).drew.drew⟩)
                | (go_roundw; (case rel => exact ⟨j + 1, _, by omega, val_int (by omega), rfl, Lib.hid HB.out.drew.drew⟩); (case measure => simp [intOf]; omega))
            · have e3 : decide (x2 ≤ 1099511627776) = false := decide_eq_false e3'
              clear e1' e2' e3'
              go_wp2
              go_region
              go_wp2
              all_goals first
                | (go_returns; exact ⟨_, rfl, fun hh => by (first | exact h4 | (cases hh; done)), (HB0.out.trans (HB.out.mono HB0.out.size)).drew⟩)
                | (go_roundw; (case rel => exact ⟨j + 1, _, by omega, val_int (by omega), rfl, Lib.hid HB.out.drew⟩); (case measure => simp [intOf]; omega))
          · have e2 : decide (x1 < x2) = false := decide_eq_false e2'
            clear e1' e2'
            go_wp2
            go_region
            go_wp2
            all_goals first
              | (go_returns; exact ⟨_, rfl, fun hh => by (first | exact h4 | (cases hh; done)), (HB0.out.trans (HB.out.mono HB0.out.size)).drew⟩)
              | (go_roundw; (case rel => exact ⟨j + 1, _, by omega, val_int (by omega), rfl, Lib.hid HB.out.drew⟩); (case measure => simp [intOf]; omega))
        · have e1 : decide (0 ≤ x1) = false := decide_eq_false e1'
          clear e1'
          go_wp2
          go_region
          go_wp2
          all_goals first
            | (go_returns; exact ⟨_, rfl, fun hh => by (first | exact h4 | (cases hh; done)), (HB0.out.trans (HB.out.mono HB0.out.size)).drew⟩)
            | (go_roundw; (case rel => exact ⟨j + 1, _, by omega, val_int (by omega), rfl, Lib.hid HB.out.drew⟩); (case measure => simp [intOf]; omega))
      · go_wp2
        go_returns
        exact ⟨_, rfl, fun _ => h4, HB0.out.trans (HB.out.mono HB0.out.size)⟩
  · have h4' : (400 : Int) < (l.length : Int) := by omega
    go_enter Try.func20, Try.ntmps20
    go_wp2
    all_goals first
      | (exfalso; omega)
      | (go_returns; exact ⟨_, rfl, fun hh => by (first | (cases hh; done) | simp at hh), by (repeat' (first | with_reducible exact Below.refl _ _ | with_reducible exact Nat.le_refl _ | with_reducible assumption | with_reducible refine below_drewN ?_ _ | with_reducible refine Below.drew ?_ | with_reducible refine Below.trans ?_ (Below.mono (by assumption) ?_) | with_reducible refine Below.alloc ?_ ?_ _ | with_reducible refine Below.setCell ?_ ?_ _ | with_reducible refine le_setCell ?_ _ _ | with_reducible refine le_alloc ?_ _ | with_reducible refine le_drewN ?_ _ | with_reducible refine le_drew ?_ | with_reducible refine Nat.le_trans ?_ (Below.size (by assumption)) | (simp only [World.size_alloc, World.size_setCell]; omega) | omega))⟩)

end Go.Proofs.Ytmbeaagpjpphhaa

namespace Go.Proofs.Ytmbeaagpjpphhaa
open Go Go.RowKit Go.Joins
set_option linter.unusedVariables false
set_option linter.unusedSimpArgs false

set_option maxRecDepth 20000 in
set_option maxHeartbeats 8000000 in
theorem short_no (N D : Int) (l : List Ev) (V : Value) (w : World) (hN0 : -9223372036854775808 ≤ N) (hN1 : N ≤ 9223372036854775807) (hD0 : -9223372036854775808 ≤ D) (hD1 : D ≤ 9223372036854775807) (hc : ckE N D ≠ 0) (hT : EvArg w V l) (hl : l.length ≤ 1099511627776) :
    Calls Try.prog 20 #[rat N D, V] w fun e w' => ∃ B, e = .returned (.bool B) ∧ (B = true → l.length ≤ 400) ∧ Below w.heap.size w w' := by
  have CK := Lib.hid (fun W => refCheck_any N D W hN0 hN1 hD0 hD1)
  have hc' : (ckE N D != 0) = true := by simpa using hc
  obtain ⟨A, c, rfl, hA⟩ := hT
  have hl' : (l.length : Int) ≤ 1099511627776 := by omega
  clear hA hc hN0 hN1 hD0 hD1
  generalize ckE N D = E at *
  by_cases h4 : l.length ≤ 400
  · have h4' : (l.length : Int) ≤ 400 := by omega
    go_enter Try.func20, Try.ntmps20
    go_wp2_with (go_at_call 19; go_must (refine (CK.out _).mono ?_; rintro e1 w1 ⟨rfl, b1⟩))
    all_goals first
      | (exfalso; omega)
      | (go_returns; exact ⟨_, rfl, fun _ => h4, by (repeat' (first | with_reducible exact Below.refl _ _ | with_reducible exact Nat.le_refl _ | with_reducible assumption | with_reducible refine below_drewN ?_ _ | with_reducible refine Below.drew ?_ | with_reducible refine Below.trans ?_ (Below.mono (by assumption) ?_) | with_reducible refine Below.alloc ?_ ?_ _ | with_reducible refine Below.setCell ?_ ?_ _ | with_reducible refine le_setCell ?_ _ _ | with_reducible refine le_alloc ?_ _ | with_reducible refine le_drewN ?_ _ | with_reducible refine le_drew ?_ | with_reducible refine Nat.le_trans ?_ (Below.size (by assumption)) | (simp only [World.size_alloc, World.size_setCell]; omega) | omega))⟩)
  · have h4' : (400 : Int) < (l.length : Int) := by omega
    go_enter Try.func20, Try.ntmps20
    go_wp2
    all_goals first
      | (exfalso; omega)
      | (go_returns; exact ⟨_, rfl, fun hh => by (first | (cases hh; done) | simp at hh), by (repeat' (first | with_reducible exact Below.refl _ _ | with_reducible exact Nat.le_refl _ | with_reducible assumption | with_reducible refine below_drewN ?_ _ | with_reducible refine Below.drew ?_ | with_reducible refine Below.trans ?_ (Below.mono (by assumption) ?_) | with_reducible refine Below.alloc ?_ ?_ _ | with_reducible refine Below.setCell ?_ ?_ _ | with_reducible refine le_setCell ?_ _ _ | with_reducible refine le_alloc ?_ _ | with_reducible refine le_drewN ?_ _ | with_reducible refine le_drew ?_ | with_reducible refine Nat.le_trans ?_ (Below.size (by assumption)) | (simp only [World.size_alloc, World.size_setCell]; omega) | omega))⟩)

end Go.Proofs.Ytmbeaagpjpphhaa

namespace Go.Proofs.Ytmbeaagpjpphhaa
open Go Go.RowKit Go.Joins
set_option linter.unusedVariables false
set_option linter.unusedSimpArgs false

theorem clock_any (w : World) : Calls Try.prog 54 #[] w fun e w' => e = .returned (rat 4 1) ∧ Below w.heap.size w w' := by
  go_enter Try.func54, Try.ntmps54
  go_wp2
  go_returns
  exact ⟨rfl, by (repeat' (first | with_reducible exact Below.refl _ _ | with_reducible exact Nat.le_refl _ | with_reducible assumption | with_reducible refine below_drewN ?_ _ | with_reducible refine Below.drew ?_ | with_reducible refine Below.trans ?_ (Below.mono (by assumption) ?_) | with_reducible refine Below.alloc ?_ ?_ _ | with_reducible refine Below.setCell ?_ ?_ _ | with_reducible refine le_setCell ?_ _ _ | with_reducible refine le_alloc ?_ _ | with_reducible refine le_drewN ?_ _ | with_reducible refine le_drew ?_ | with_reducible refine Nat.le_trans ?_ (Below.size (by assumption)) | (simp only [World.size_alloc, World.size_setCell]; omega) | omega))⟩
def lvX : List Ev := [⟨1, 0, 8, 1, 0, [], 0⟩, ⟨1, 8, 12, 0, 0, [], 0⟩]
def lvY : List Ev := [⟨2, 0, 4, 1, 0, [], 0⟩, ⟨2, 4, 8, 1, 0, [], 0⟩, ⟨2, 8, 12, 0, 0, [], 0⟩]
theorem lv_o : (smR 4 1 lvX).o = lvY := by decide +kernel

set_option maxRecDepth 20000 in
set_option maxHeartbeats 4000000 in
theorem lives15_any (w : World) : Calls Try.prog 16 #[] w fun e w' => e = .returned (.bool true) ∧ Below w.heap.size w w' := by
  have CC := Lib.hid (fun W => clock_any W)
  have CK : Hid (∀ W, Calls Try.prog 18 #[rat 4 1] W fun e w' => e = .returned (.int .i64 0) ∧ Below W.heap.size W w') := Lib.hid fun W => by
    have := check_any 4 1 W (by decide) (by decide) (by decide) (by decide)
    rwa [show ckE 4 1 = 0 by decide +kernel] at this
  have CD := Lib.hid (fun V W h => mdecode_yes 4 1 lvX V W (by decide +kernel) h (by decide) (by decide))
  rw [lv_o] at CD
  have LX := Lib.hid (fun W => (KRow.lit (T := 44) evC_size W W.heap.size (Nat.le_refl _) lvX #[.int .i64 1, .int .i64 0, .int .i64 8, .int .i64 1, .int .i64 0, .string ⟨#[]⟩, .int .i64 0, .int .i64 1, .int .i64 8, .int .i64 12, .int .i64 0, .int .i64 0, .string ⟨#[]⟩, .int .i64 0] rfl 2 rfl (by decide)).arg evC_size)
  have Q1 := fun W => eql_ev 2 0 4 1 0 ⟨#[]⟩ 0 2 0 4 1 0 ⟨#[]⟩ 0 W
  have Q2 := fun W => eql_ev 2 8 12 0 0 ⟨#[]⟩ 0 2 8 12 0 0 ⟨#[]⟩ 0 W
  have e1 : eqF 2 0 4 1 0 ⟨#[]⟩ 0 2 0 4 1 0 ⟨#[]⟩ 0 = true := by decide
  have e2 : eqF 2 8 12 0 0 ⟨#[]⟩ 0 2 8 12 0 0 ⟨#[]⟩ 0 = true := by decide
  rw [e1] at Q1; rw [e2] at Q2
  clear e1 e2
  go_enter Try.func16, Try.ntmps16
  go_wp2_with (first
    | (go_at_call 27; go_must (refine (CD.out _ _ (LX.out w1)).mono ?_; rintro e2 w2 ⟨V2, rfl, r2, b2⟩; have BB := Lib.hid (BB.out.trans (((ba w1 _).trans (b2.mono (ba w1 _).size)).mono BB.out.size)); obtain ⟨g2, c2, rfl⟩ := r2.full (by decide); have A2 := r2.arg evC_size; obtain ⟨_, _, e3, hA⟩ := A2; obtain ⟨g, o, e4, hg, hc⟩ := hA (by decide); obtain ⟨a0, a1, a2, a3, a4, a5, a6⟩ := arg_seven hc 0 (by decide); obtain ⟨d0, d1, d2, d3, d4, d5, d6⟩ := arg_seven hc 2 (by decide); simp only [Value.slice.injEq] at e3; obtain ⟨rfl, _, _⟩ := e3; simp only [Option.some.injEq, Addr.mk.injEq, and_true] at e4; obtain ⟨rfl, rfl⟩ := e4; simp only [lvY, List.getElem_cons_zero, List.getElem_cons_succ, Nat.zero_mul, Nat.zero_add, Nat.add_zero] at a0 a1 a2 a3 a4 a5 a6 d0 d1 d2 d3 d4 d5 d6; clear hA hc))
    | (go_at_call 54; first | (have tok := hg; refine (CC.out _).mono ?_; rintro e4 w4 ⟨rfl, b4⟩; have BB := Lib.hid (BB.out.trans (b4.mono BB.out.size))) | (refine (CC.out _).mono ?_; rintro e1 w1 ⟨rfl, b1⟩; have BB := Lib.hid b1))
    | (go_at_call 18; go_must (refine (CK.out _).mono ?_; rintro e5 w5 ⟨rfl, b5⟩; have BB := Lib.hid (BB.out.trans (b5.mono BB.out.size))))
    | fail)
  go_returns
  exact ⟨rfl, BB.out⟩

end Go.Proofs.Ytmbeaagpjpphhaa
