/-
  Layer 15: the law of levels that are divided; its loop.
-/
import Derived.Test.YtmbeaagpjpphhaaT26
namespace Go.Proofs.Ytmbeaagpjpphhaa
open Go Go.RowKit Go.Joins
set_option linter.unusedVariables false
set_option linter.unusedSimpArgs false

theorem pc_one {cs : List Int} {l : List Ev} {j : Nat} (hj : j < l.length) (h : ¬ (j < cs.length ∧ l[j].f < cs.getD j 0 ∧ cs.getD j 0 < l[j].t)) : pcL cs l (j + 1) = pcL cs l j ++ [⟨l[j].k, l[j].f, l[j].t, l[j].v, l[j].a, l[j].d, l[j].u⟩] := by
  have e : l.getD j ⟨0, 0, 0, 0, 0, [], 0⟩ = l[j] := by simp [List.getD, List.getElem?_eq_getElem hj]
  rw [pcL, e, pcE, if_neg h]
theorem pc_two {cs : List Int} {l : List Ev} {j : Nat} (hj : j < l.length) (h : j < cs.length ∧ l[j].f < cs.getD j 0 ∧ cs.getD j 0 < l[j].t) : pcL cs l (j + 1) = pcL cs l j ++ [⟨l[j].k, l[j].f, cs.getD j 0, l[j].v, l[j].a, l[j].d, l[j].u⟩] ++ [⟨l[j].k, cs.getD j 0, l[j].t, l[j].v, l[j].a, l[j].d, l[j].u⟩] := by
  have e : l.getD j ⟨0, 0, 0, 0, 0, [], 0⟩ = l[j] := by simp [List.getD, List.getElem?_eq_getElem hj]
  rw [pcL, e, pcE, if_pos h, List.append_assoc]
  rfl
theorem z64a {n : Nat} (h : n ≤ 800) : (n + 1) * 64 ≤ 140737488355328 := by omega
theorem z64b {n : Nat} (h : n ≤ 800) : (n + 1 + 1) * 64 ≤ 140737488355328 := by omega
theorem heldC {W0 W w : World} {b : Nat} {N D : Int} (h : W.cell? ⟨b, 0, none⟩ = some (.int .i64 N) ∧ W.cell? ⟨b, 1, none⟩ = some (.int .i64 D) ∧ b < W.heap.size ∧ Below W0.heap.size W0 W) (hb : Below W.heap.size W w) : w.cell? ⟨b, 0, none⟩ = some (.int .i64 N) ∧ w.cell? ⟨b, 1, none⟩ = some (.int .i64 D) ∧ b < w.heap.size ∧ Below W0.heap.size W0 w := by
  obtain ⟨a0, a1, l0, B⟩ := h
  exact ⟨(hb.cell l0).trans a0, (hb.cell l0).trans a1, Nat.lt_of_lt_of_le l0 hb.size, B.trans (hb.mono B.size)⟩

set_option maxRecDepth 20000 in
set_option maxHeartbeats 8000000 in
theorem pieces15_main (N D : Int) (l : List Ev) (cs : List Int) (V VC : Value) (w : World) (hT : EvArg w V l) (hTC : Sw.InArg w VC cs) (hcs : cs.length ≤ 400) (LO : List Ev) (hLO : LO.length ≤ 1099511627776)
    (SH0 : ∀ W, Below w.heap.size w W → Calls Try.prog 20 #[rat N D, V] W fun e w' => ∃ B, e = .returned (.bool B) ∧ (B = true → l.length ≤ 400) ∧ Below W.heap.size W w')
    (CC0 : ∀ W, Below w.heap.size w W → Calls Try.prog 33 #[V] W fun e w' => e = .returned (.bool true) ∧ Below W.heap.size W w')
    (CD1 : l.length ≤ 400 → ∀ W, Below w.heap.size w W → Calls Try.prog 27 #[rat N D, V] W fun r w' => ∃ V', r = .returned V' ∧ EvRow w' W.heap.size V' LO ∧ Below W.heap.size W w')
    (CD2 : l.length ≤ 400 → ∀ V' W, EvArg W V' (pcL cs l l.length) → Calls Try.prog 27 #[rat N D, V'] W fun r w' => ∃ V', r = .returned V' ∧ EvRow w' W.heap.size V' LO ∧ Below W.heap.size W w') :
    Calls Try.prog 7 #[rat N D, V, VC] w fun e w' => e = .returned (.bool true) ∧ Below w.heap.size w w' := by
  have CL := Lib.hid lives15_any
  have SH := Lib.hid SH0; have CC := Lib.hid CC0
  have D1 := Lib.hid CD1; have D2 := Lib.hid CD2
  have CM := Lib.hid (fun V V' W h1 h2 => msame_any LO V V' W h1 h2 hLO)
  obtain ⟨A, c, rfl, hA⟩ := hT
  have HA := Lib.hid hA
  obtain ⟨AC, cC, rfl, hAC⟩ := hTC
  have HAC := Lib.hid hAC
  obtain ⟨W, b, eW, eb, lb, r0, B0⟩ := one_clock w N D
  have HB0 := Lib.hid B0; have H0 := Lib.hid r0
  have d1 : decide ((400 : Int) < cs.length) = false := decide_eq_false (by omega)
  have d1' : decide (400 < cs.length) = false := decide_eq_false (by omega)
  have hcs' : (cs.length : Int) ≤ 400 := by omega
  clear r0 B0 SH0 CC0 CD1 CD2 hA hAC hLO
  go_enter Try.func7, Try.ntmps7
  go_wp2_with (first
    | (rw [← eW, ← eb]; clear eW eb; go_at_call 16; go_must (refine (CL.out _).mono ?_; rintro e1 w1 ⟨rfl, b1⟩; have B1 := Lib.hid (HB0.out.trans (b1.mono HB0.out.size)); have R1 := Lib.hid (H0.out.keep b1); obtain ⟨c0, c1⟩ := row2 R1.out; have lb1 := R1.out.lt))
    | (go_at_call 20; go_must (refine (SH.out _ B1.out).mono ?_; rintro e2 w2 ⟨B, rfl, hB, b2⟩; have HLB := Lib.hid hB; clear hB; have B2 := Lib.hid (B1.out.trans (b2.mono B1.out.size)); have R2 := Lib.hid (R1.out.keep b2); have BB := B2))
    | (go_at_call 33; go_must (refine (CC.out _ B2.out).mono ?_; rintro e3 w3 ⟨rfl, b3⟩; have BB := Lib.hid (B2.out.trans (b3.mono B2.out.size)); have R3 := Lib.hid (R2.out.keep b3)))
    | fail)
  all_goals first
    | (go_returns; exact ⟨rfl, BB.out⟩)
    | skip
  have hl : l.length ≤ 400 := HLB.out (by first | rfl | assumption)
  have hl' : (l.length : Int) ≤ 400 := by omega
  have HD2 := Lib.hid (D2.out hl)
  have HD1 := Lib.hid (D1.out hl)
  have HLP := Lib.hid (pcL_len cs l)
  have HL0 := Lib.hid (KRow.lit (T := 44) evC_size w3 w3.heap.size (Nat.le_refl _) [] #[] rfl 0 rfl (by decide))
  have HBL := Lib.hid (ba w3 (.cells #[] 44))
  have BW := BB
  clear D1 D2 c0 c1 lb1 HLB B1 B2 R1 R2 BB
  go_loopw [8, 7] (fun i r wr => ∃ (j : Nat), j ≤ l.length ∧ i = .int .i64 j ∧ Hid (EvRow wr w3.heap.size r (pcL cs l j)) ∧ Hid (Below w3.heap.size w3 wr)) (fun i _ _ => l.length - (intOf i).toNat)
  case atStart => exact ⟨0, Nat.zero_le _, rfl, HL0, HBL⟩
  case round =>
    obtain ⟨j, hj, rfl, HR, HB⟩ := hrel
    have hb := HB.out
    have hw := BW.out.trans (hb.mono BW.out.size)
    have HW := Lib.hid hw
    obtain ⟨UA, UN, UC, rfl, hUN⟩ := HR.out.form
    by_cases hjl : j < l.length
    · obtain ⟨g, o, rfl, hg, hc⟩ := HA.out (by omega)
      obtain ⟨a0, a1, a2, a3, a4, a5, a6⟩ := arg_seven hc j hjl
      have f0 := (hw.cell (p := ⟨g, o + j * 7, none⟩) hg).trans a0
      have f1 := (hw.cell (p := ⟨g, o + j * 7 + 1, none⟩) hg).trans a1
      have f2 := (hw.cell (p := ⟨g, o + j * 7 + 2, none⟩) hg).trans a2
      have f3 := (hw.cell (p := ⟨g, o + j * 7 + 3, none⟩) hg).trans a3
      have f4 := (hw.cell (p := ⟨g, o + j * 7 + 4, none⟩) hg).trans a4
      have f5 := (hw.cell (p := ⟨g, o + j * 7 + 5, none⟩) hg).trans a5
      have f6 := (hw.cell (p := ⟨g, o + j * 7 + 6, none⟩) hg).trans a6
      have mg : g < wr.heap.size := Nat.lt_of_lt_of_le hg hw.size
      have P1 := Lib.hid (fun h => pc_one (cs := cs) hjl h)
      have P2 := Lib.hid (fun h => pc_two (cs := cs) hjl h)
      have HPL : (pcL cs l j).length ≤ 800 := by have := HLP.out j; omega
      have hi0 : (0 : Int) ≤ (j : Int) := by omega
      have hi1 : (j : Int) < l.length := by omega
      clear hc a0 a1 a2 a3 a4 a5 a6 hUN
      generalize l[j].k = x0 at *
      generalize l[j].f = x1 at *
      generalize l[j].t = x2 at *
      generalize l[j].v = x3 at *
      generalize l[j].a = x4 at *
      generalize l[j].u = x6 at *
      generalize hdd : l[j].d = xd at *
      clear hdd
      generalize pcL cs l j = P at *
      have HRx := Lib.hid (HR.out.alloc (.cells #[.int .i64 x0, .int .i64 x1, .int .i64 x2, .int .i64 x3, .int .i64 x4, .string ⟨xd.toArray⟩, .int .i64 x6] 44))
      have HBx := Lib.hid (hb.alloc hb.size (.cells #[.int .i64 x0, .int .i64 x1, .int .i64 x2, .int .i64 x3, .int .i64 x4, .string ⟨xd.toArray⟩, .int .i64 x6] 44))
      have HXx := Lib.hid (RowAt.new wr 44 #[.int .i64 x0, .int .i64 x1, .int .i64 x2, .int .i64 x3, .int .i64 x4, .string ⟨xd.toArray⟩, .int .i64 x6])
      have hsx : (wr.alloc (.cells #[.int .i64 x0, .int .i64 x1, .int .i64 x2, .int .i64 x3, .int .i64 x4, .string ⟨xd.toArray⟩, .int .i64 x6] 44)).heap.size = wr.heap.size + 1 := by rw [World.size_alloc]
      have HSX := Lib.hid hsx
      clear hsx
      by_cases k1 : j < cs.length
      rotate_left
      · have q1 : decide ((j : Int) < cs.length) = false := decide_eq_false (by omega)
        have q1' : decide (j < cs.length) = false := decide_eq_false k1
        have HN := Lib.hid (P1.out (fun h => k1 h.1))
        clear P1 P2 k1
        go_wp2
        go_quiet (fail)
        have HRq := Lib.hid (KRow.drewN HRx.out nq)
        have HBq := Lib.hid (Go.below_drewN HBx.out nq)
        have hz1 : (P.length + 1) * 64 ≤ 140737488355328 := by omega
        go_wp2_with (first
          | (at_builtin; go_must (refine wpList_append_k (P := Try.prog) Try.underlying36 ev_info rfl (by omega) evC_size rfl _ _ rfl (⟨x0, x1, x2, x3, x4, xd, x6⟩ : Ev) rfl rfl rfl (by first | rfl | exact (World.size_alloc _ _).symm | simp) HRq.out HBq.out.size rfl (by omega) hz1 ?_; intro v4 w4 r4 b4; obtain ⟨A4, N4, C4, rfl, hN4⟩ := r4.form; have R4 := Lib.hid r4; clear hN4; have B4 := Lib.hid (HBq.out.trans b4); clear r4 b4))
          | fail)
        go_roundw
        case rel => exact ⟨j + 1, by omega, val_int (by omega), Lib.hid (by rw [HN.out]; exact R4.out), B4⟩
        case measure => simp [intOf]; omega
      obtain ⟨gc, oc, rfl, hgc, hcc⟩ := HAC.out (by omega)
      have y0 := (hw.cell (p := ⟨gc, oc + j, none⟩) hgc).trans (Sw.arg_int hcc j k1)
      have mgc : gc < wr.heap.size := Nat.lt_of_lt_of_le hgc hw.size
      have q1 : decide ((j : Int) < cs.length) = true := decide_eq_true (by omega)
      have q1' : decide (j < cs.length) = true := decide_eq_true k1
      have hi2 : (j : Int) < cs.length := by omega
      have eC : cs.getD j 0 = cs[j] := by simp [List.getD, List.getElem?_eq_getElem k1]
      rw [eC] at P1 P2
      clear eC hcc
      generalize cs[j] = C at *
      by_cases k2 : x1 < C
      rotate_left
      · have q2 : decide (x1 < C) = false := decide_eq_false k2
        have HN := Lib.hid (P1.out (fun h => k2 h.2.1))
        clear P1 P2 k2
        go_wp2
        go_quiet (fail)
        have HRq := Lib.hid (KRow.drewN HRx.out nq)
        have HBq := Lib.hid (Go.below_drewN HBx.out nq)
        have hz1 : (P.length + 1) * 64 ≤ 140737488355328 := by omega
        go_wp2_with (first
          | (at_builtin; go_must (refine wpList_append_k (P := Try.prog) Try.underlying36 ev_info rfl (by omega) evC_size rfl _ _ rfl (⟨x0, x1, x2, x3, x4, xd, x6⟩ : Ev) rfl rfl rfl (by first | rfl | exact (World.size_alloc _ _).symm | simp) HRq.out HBq.out.size rfl (by omega) hz1 ?_; intro v4 w4 r4 b4; obtain ⟨A4, N4, C4, rfl, hN4⟩ := r4.form; have R4 := Lib.hid r4; clear hN4; have B4 := Lib.hid (HBq.out.trans b4); clear r4 b4))
          | fail)
        go_roundw
        case rel => exact ⟨j + 1, by omega, val_int (by omega), Lib.hid (by rw [HN.out]; exact R4.out), B4⟩
        case measure => simp [intOf]; omega
      have q2 : decide (x1 < C) = true := decide_eq_true k2
      by_cases k3 : C < x2
      rotate_left
      · have q3 : decide (C < x2) = false := decide_eq_false k3
        have HN := Lib.hid (P1.out (fun h => k3 h.2.2))
        clear P1 P2 k2 k3
        go_wp2
        go_quiet (fail)
        have HRq := Lib.hid (KRow.drewN HRx.out nq)
        have HBq := Lib.hid (Go.below_drewN HBx.out nq)
        have hz1 : (P.length + 1) * 64 ≤ 140737488355328 := by omega
        go_wp2_with (first
          | (at_builtin; go_must (refine wpList_append_k (P := Try.prog) Try.underlying36 ev_info rfl (by omega) evC_size rfl _ _ rfl (⟨x0, x1, x2, x3, x4, xd, x6⟩ : Ev) rfl rfl rfl (by first | rfl | exact (World.size_alloc _ _).symm | simp) HRq.out HBq.out.size rfl (by omega) hz1 ?_; intro v4 w4 r4 b4; obtain ⟨A4, N4, C4, rfl, hN4⟩ := r4.form; have R4 := Lib.hid r4; clear hN4; have B4 := Lib.hid (HBq.out.trans b4); clear r4 b4))
          | fail)
        go_roundw
        case rel => exact ⟨j + 1, by omega, val_int (by omega), Lib.hid (by rw [HN.out]; exact R4.out), B4⟩
        case measure => simp [intOf]; omega
      have q3 : decide (C < x2) = true := decide_eq_true k3
      have HN := Lib.hid (P2.out ⟨k1, k2, k3⟩)
      clear P1 P2 k2 k3
      go_wp2
      go_quiet (fail)
      have HRq := Lib.hid (KRow.drewN HRx.out nq)
      have HBq := Lib.hid (Go.below_drewN HBx.out nq)
      have HXq : Hid (RowAt ((wr.alloc (.cells #[.int .i64 x0, .int .i64 x1, .int .i64 x2, .int .i64 x3, .int .i64 x4, .string ⟨xd.toArray⟩, .int .i64 x6] 44)).drewN nq) wr.heap.size 44 #[.int .i64 x0, .int .i64 x1, .int .i64 x2, .int .i64 x3, .int .i64 x4, .string ⟨xd.toArray⟩, .int .i64 x6]) := Lib.hid (HXx.out.keep (Go.below_drewN (Below.refl _ _) nq))
      have y1 := ((Go.below_drewN (ba wr (.cells #[.int .i64 x0, .int .i64 x1, .int .i64 x2, .int .i64 x3, .int .i64 x4, .string ⟨xd.toArray⟩, .int .i64 x6] 44)) nq).cell (p := ⟨gc, oc + j, none⟩) mgc).trans y0
      have hz1 := z64a HPL
      have hz2 := z64b HPL
      have HLT := Lib.hid (fun g h => HR.out.lt g h)
      have hs0 := hb.size
      clear HRx HBx HXx HSX y0 f0 f1 f2 f3 f4 f5 f6 HR
      generalize (wr.alloc (.cells #[.int .i64 x0, .int .i64 x1, .int .i64 x2, .int .i64 x3, .int .i64 x4, .string ⟨xd.toArray⟩, .int .i64 x6] 44)).drewN nq = wa at *
      obtain ⟨⟨e0, e1, e2, e3, e4, e5, e6⟩, e7⟩ := row7 HXq.out
      have lx := HXq.out.lt
      have nx : wr.heap.size ≠ wa.heap.size := by omega
      have nx' : wa.heap.size ≠ wr.heap.size := by omega
      have ng : gc ≠ wr.heap.size := by omega
      have ng' : gc ≠ wa.heap.size := by omega
      have lgc : gc < wa.heap.size := by omega
      have KQ := Lib.hid ((Kp.refl [wr.heap.size] wa).set1 1 (.int .i64 C))
      have HR1 := Lib.hid ((HRq.out.kp KQ.out (fun g hg hx => by have := HLT.out g hg; simp only [List.mem_singleton] at hx; omega)).alloc (.cells #[.int .i64 x0, .int .i64 x1, .int .i64 C, .int .i64 x3, .int .i64 x4, .string ⟨xd.toArray⟩, .int .i64 x6] 44))
      have HX1 : Hid (RowAt ((wa.setCell ⟨wr.heap.size, 1, none⟩ (.int .i64 C)).alloc (.cells #[.int .i64 x0, .int .i64 x1, .int .i64 C, .int .i64 x3, .int .i64 x4, .string ⟨xd.toArray⟩, .int .i64 x6] 44)) wr.heap.size 44 #[.int .i64 x0, .int .i64 C, .int .i64 x2, .int .i64 x3, .int .i64 x4, .string ⟨xd.toArray⟩, .int .i64 x6]) := Lib.hid (RowAt.alloc (by simpa using HXq.out.set 1 (.int .i64 C)) _)
      have hz := Below.setCell HBq.out (p := ⟨wr.heap.size, 1, none⟩) hs0 (.int .i64 C)
      have HZ := Lib.hid (hz.alloc hz.size (.cells #[.int .i64 x0, .int .i64 x1, .int .i64 C, .int .i64 x3, .int .i64 x4, .string ⟨xd.toArray⟩, .int .i64 x6] 44))
      clear hz
      have HLX : Hid (wr.heap.size < ((wa.setCell ⟨wr.heap.size, 1, none⟩ (.int .i64 C)).alloc (.cells #[.int .i64 x0, .int .i64 x1, .int .i64 C, .int .i64 x3, .int .i64 x4, .string ⟨xd.toArray⟩, .int .i64 x6] 44)).heap.size) := Lib.hid HX1.out.lt
      go_wp2_with (first
        | (at_builtin; first
            | (have tok := R4; go_must (refine wpList_append_k (P := Try.prog) Try.underlying36 ev_info rfl (by omega) evC_size rfl _ _ rfl (⟨x0, C, x2, x3, x4, xd, x6⟩ : Ev) rfl rfl rfl (by first | rfl | exact (World.size_alloc _ _).symm | simp) R4.out B4.out.size rfl (by rw [List.length_append]; simp only [List.length_cons, List.length_nil]; omega) (by rw [List.length_append]; exact hz2) ?_; intro v5 w5 r5 b5; obtain ⟨A5, N5, C5, rfl, hN5⟩ := r5.form; have R5 := Lib.hid r5; clear hN5; have B5 := Lib.hid (B4.out.trans b5); clear r5 b5))
            | (go_must (refine wpList_append_k2 (P := Try.prog) Try.underlying36 ev_info rfl (by omega) evC_size rfl _ _ rfl (⟨x0, x1, C, x3, x4, xd, x6⟩ : Ev) rfl rfl rfl (by first | rfl | exact (World.size_alloc _ _).symm | simp only [World.size_setCell, World.size_alloc] | simp) HR1.out HZ.out.size rfl (by omega) hz1 ?_; intro v4 w4 r4 b4 k4; obtain ⟨A4, N4, C4, rfl, hN4⟩ := r4.form; have R4 := Lib.hid r4; clear hN4; have B4 := Lib.hid (HZ.out.trans b4); have X4 : RowAt w4 wr.heap.size 44 #[.int .i64 x0, .int .i64 C, .int .i64 x2, .int .i64 x3, .int .i64 x4, .string ⟨xd.toArray⟩, .int .i64 x6] := (by have hh := HX1.out; unfold RowAt at hh ⊢; rw [k4 wr.heap.size HLX.out (fun e => by have := HLT.out _ e.symm; omega)]; exact hh); obtain ⟨⟨g0, g1, g2, g3, g4, g5, g6⟩, g7⟩ := row7 X4; clear r4 b4 k4)))
        | fail)
      go_roundw
      case rel => exact ⟨j + 1, by omega, val_int (by omega), Lib.hid (by rw [HN.out]; exact R5.out), B5⟩
      case measure => simp [intOf]; omega
    · have e : j = l.length := by omega
      subst e
      have hN := (pcL_len cs l l.length)
      have HE := Lib.hid (HR.out.arg evC_size)
      have R0 := Lib.hid (R3.out.keep hb)
      obtain ⟨c0, c1⟩ := row2 R0.out
      have lb := R0.out.lt
      have HC : Hid (wr.cell? ⟨b, 0, none⟩ = some (.int .i64 N) ∧ wr.cell? ⟨b, 1, none⟩ = some (.int .i64 D) ∧ b < wr.heap.size ∧ Below wr.heap.size wr wr) := Lib.hid ⟨c0, c1, lb, Below.refl _ _⟩
      have HEK := Lib.hid (fun W (h : Below wr.heap.size wr W) => HE.out.keep h)
      have HWK := Lib.hid (fun W (h : Below wr.heap.size wr W) => hw.trans (h.mono hw.size))
      clear hN hUN HR HE R3 HLP
      go_wp2
      go_region_held3 (fun w' => w'.cell? ⟨b, 0, none⟩ = some (.int .i64 N) ∧ w'.cell? ⟨b, 1, none⟩ = some (.int .i64 D) ∧ b < w'.heap.size ∧ Below wr.heap.size wr w') (first | with_reducible assumption | with_reducible exact heldC HC.out (Below.refl _ _).drew | fail)
        (first
          | (go_at_call 27; first
              | (have tok := v6; clear tok; refine (HD2.out _ _ (HEK.out _ (And.right (And.right (And.right h6))))).mono ?_; rintro e7 w7 ⟨V7, rfl, v7, k7⟩; have h7 := heldC h6 k7; have A6' := KArg.keep (KRow.arg evC_size v6) k7)
              | (refine (HD1.out _ (HWK.out _ (And.right (And.right (And.right (by with_reducible assumption)))))).mono ?_; rintro e6 w6 ⟨V6, rfl, v6, k6⟩; have h6 := heldC (by with_reducible assumption) k6))
          | (go_at_call 25; refine (CM.out _ _ _ A6' (KRow.arg evC_size v7)).mono ?_; rintro e8' w8' ⟨rfl, k8'⟩; have h8 := heldC h7 k8')
          | fail)
      all_goals
        rename_i hS9
        have B9 := Lib.hid (hw.trans (hS9.2.2.2.mono hw.size))
        clear hS9
        go_wp2
        go_returns
        exact ⟨rfl, B9.out⟩

end Go.Proofs.Ytmbeaagpjpphhaa
