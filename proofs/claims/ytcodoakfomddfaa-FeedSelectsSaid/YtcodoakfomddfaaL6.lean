/-
  The walk of the statement FeedSelects.
-/
import Derived.Test.YtcodoakfomddfaaT24
import Derived.Test.YtcodoakfomddfaaR4
import Derived.Deep.RegionHeld3
namespace Go.Proofs.Ytcodoakfomddfaa
open Go Go.RowKit Go.Joins
set_option linter.unusedVariables false
set_option linter.unusedSimpArgs false

theorem leN_at {R : List Rn} {cs : List Nat} {j : Nat} (hj : j < R.length) : (leN R cs R.length)[j]? = some ⟨1, lg (R.take j), lg (R.take j) + R[j].2, sb cs R[j].1, 0, [], 0⟩ := by
  unfold leN
  rw [List.getElem?_map, List.getElem?_range hj]
  simp [List.getD_eq_getElem?_getD, List.getElem?_eq_getElem hj]
theorem one_all {N : List ByteArray} {R : List Rn} (h : ckC N R = 0) {i : Nat} (hi : i < N.length) : leE N R [N[i]] = 0 ∧ leL N R [N[i]] = leN R [i] R.length := by
  have := chA_one (ckC_names h) hi
  unfold leE leL
  rw [this, if_pos h, if_pos ⟨h, rfl⟩]
  exact ⟨rfl, rfl⟩
theorem leL_all2 {N : List ByteArray} {R : List Rn} (h : ckC N R = 0) : leE N R N = 0 ∧ leL N R N = leN R (List.range N.length) R.length := by
  obtain ⟨h1, h2, h3, h4, h5, h6⟩ := ckC_ok h
  have ha := chA_all h3 (ckC_names h)
  unfold leE leL
  rw [ha, if_pos h, if_pos ⟨h, rfl⟩]
  exact ⟨rfl, rfl⟩
theorem lit_name (s : ByteArray) (w : World) : NmArg (w.alloc (.cells #[.string s] 9)) (.slice (some ⟨w.heap.size, 0, none⟩) 1 1) [s] := by
  have r := KRow.lit (T := 9) nmC_size w w.heap.size (Nat.le_refl _) [s] #[.string s] rfl 1 rfl (by simp)
  exact ⟨r.arg nmC_size, r.cap⟩
theorem held_sel {w W0 W W' : World} {vN vR : Value} {g o : Nat} {s : ByteArray} (h : W.cell? ⟨w.heap.size, 0, none⟩ = some vN ∧ W.cell? ⟨w.heap.size, 1, none⟩ = some vR ∧ W.cell? ⟨g, o, none⟩ = some (.string s) ∧ Below W0.heap.size W0 W ∧ w.heap.size < W.heap.size ∧ g < W.heap.size) (hb : Below W.heap.size W W') :
    W'.cell? ⟨w.heap.size, 0, none⟩ = some vN ∧ W'.cell? ⟨w.heap.size, 1, none⟩ = some vR ∧ W'.cell? ⟨g, o, none⟩ = some (.string s) ∧ Below W0.heap.size W0 W' ∧ w.heap.size < W'.heap.size ∧ g < W'.heap.size := by
  obtain ⟨a0, a, b, B, l1, l2⟩ := h
  have hs := hb.size
  exact ⟨(hb.cell (p := ⟨w.heap.size, 0, none⟩) l1).trans a0, (hb.cell (p := ⟨w.heap.size, 1, none⟩) l1).trans a, (hb.cell (p := ⟨g, o, none⟩) l2).trans b, B.trans (hb.mono B.size), by omega, by omega⟩
theorem row_at {w : World} {B g n c j : Nat} {l : List Ev} {e : Ev} (h : EvRow w B (.slice (some ⟨g, 0, none⟩) n c) l) (he : l[j]? = some e) (i : Nat) (hi : i < 7) : w.cell? ⟨g, j * 7 + i, none⟩ = (evC e)[i]? := by
  obtain ⟨hj, e2⟩ := List.getElem?_eq_some_iff.1 he
  rw [h.cell evC_size j hj i hi, e2]
theorem held_fin {w W0 W W' : World} {GA GB gR oR j : Nat} {vR : Value} {a1 a2 a3 a4 a5 a6 a7 : Value} (h : W.cell? ⟨GA, j * 7 + 1, none⟩ = some a1 ∧ W.cell? ⟨GA, j * 7 + 2, none⟩ = some a2 ∧ W.cell? ⟨GA, j * 7 + 3, none⟩ = some a3 ∧ W.cell? ⟨GB, j * 7 + 1, none⟩ = some a4 ∧ W.cell? ⟨GB, j * 7 + 3, none⟩ = some a5 ∧ W.cell? ⟨w.heap.size, 1, none⟩ = some vR ∧ W.cell? ⟨gR, oR + j * 2, none⟩ = some a6 ∧ W.cell? ⟨gR, oR + j * 2 + 1, none⟩ = some a7 ∧ Below W0.heap.size W0 W ∧ w.heap.size < W.heap.size ∧ GA < W.heap.size ∧ GB < W.heap.size ∧ gR < W.heap.size) (hb : Below W.heap.size W W') :
    W'.cell? ⟨GA, j * 7 + 1, none⟩ = some a1 ∧ W'.cell? ⟨GA, j * 7 + 2, none⟩ = some a2 ∧ W'.cell? ⟨GA, j * 7 + 3, none⟩ = some a3 ∧ W'.cell? ⟨GB, j * 7 + 1, none⟩ = some a4 ∧ W'.cell? ⟨GB, j * 7 + 3, none⟩ = some a5 ∧ W'.cell? ⟨w.heap.size, 1, none⟩ = some vR ∧ W'.cell? ⟨gR, oR + j * 2, none⟩ = some a6 ∧ W'.cell? ⟨gR, oR + j * 2 + 1, none⟩ = some a7 ∧ Below W0.heap.size W0 W' ∧ w.heap.size < W'.heap.size ∧ GA < W'.heap.size ∧ GB < W'.heap.size ∧ gR < W'.heap.size := by
  obtain ⟨h1, h2, h3, h4, h5, h6, h7, h8, B, l1, l2, l3, l4⟩ := h
  have hs := hb.size
  exact ⟨(hb.cell (p := ⟨GA, j * 7 + 1, none⟩) l2).trans h1, (hb.cell (p := ⟨GA, j * 7 + 2, none⟩) l2).trans h2, (hb.cell (p := ⟨GA, j * 7 + 3, none⟩) l2).trans h3, (hb.cell (p := ⟨GB, j * 7 + 1, none⟩) l3).trans h4, (hb.cell (p := ⟨GB, j * 7 + 3, none⟩) l3).trans h5, (hb.cell (p := ⟨w.heap.size, 1, none⟩) l1).trans h6, (hb.cell (p := ⟨gR, oR + j * 2, none⟩) l4).trans h7, (hb.cell (p := ⟨gR, oR + j * 2 + 1, none⟩) l4).trans h8, B.trans (hb.mono B.size), by omega, by omega, by omega, by omega⟩
theorem held_selB {w W0 W : World} {vN vR : Value} {g o : Nat} {s : ByteArray} (h : W.cell? ⟨w.heap.size, 0, none⟩ = some vN ∧ W.cell? ⟨w.heap.size, 1, none⟩ = some vR ∧ W.cell? ⟨g, o, none⟩ = some (.string s) ∧ Below W0.heap.size W0 W ∧ w.heap.size < W.heap.size ∧ g < W.heap.size) : Below W0.heap.size W0 W := h.2.2.2.1

set_option maxRecDepth 100000 in
set_option maxHeartbeats 16000000 in
theorem law_feedsel (N : List ByteArray) (R : List Rn) (x y : Int) (vN vR : Value) (w : World) (hN : NmArg w vN N) (hs : szs N) (hR : RnArg w vR R) (hn : R.length ≤ 8796093022208) (hm : N.length ≤ 8796093022208) :
    Calls Try.prog 8 #[.agg #[vN, vR], .int .i64 x, .int .i64 y] w fun e w' => e = .returned (.bool true) ∧ Below w.heap.size w w' := by
  have HG := Lib.hid (fun w' (hb : Below w.heap.size w w') => good_any N R vN vR w' (hN.keep hb) hs (hR.keep hb) hn)
  by_cases h1 : R.length ≤ 2000
  case neg =>
    obtain ⟨A1, c1, rfl, _⟩ := hN.form
    obtain ⟨A2, c2, rfl⟩ := KArg.form hR
    have B0 := Lib.hid (ba w (.cells #[.slice A1 N.length c1, .slice A2 R.length c2] 25))
    have P0 := Lib.hid (RowAt.new w 25 #[.slice A1 N.length c1, .slice A2 R.length c2])
    have g0 := P0.out.cell 0
    have g1 := P0.out.cell 1
    have d1 : decide ((2000 : Int) < (R.length : Int)) = true := decide_eq_true (by omega)
    clear hN hR hn hm h1
    go_enter Try.func8, Try.ntmps8
    go_wp2_with (first
      | (go_at_call 12; go_must (refine (awake_any _).mono ?_; rintro ez wz ⟨rfl, bz⟩; have BZ := Lib.hid (B0.out.trans (bz.mono B0.out.size)); clear bz)))
    go_returns
    exact ⟨rfl, BZ.out⟩
  by_cases h2 : ckC N R = 0
  case neg =>
    rw [show decide (ckC N R = 0) = false from decide_eq_false h2] at HG
    obtain ⟨A1, c1, rfl, _⟩ := hN.form
    obtain ⟨A2, c2, rfl⟩ := KArg.form hR
    have B0 := Lib.hid (ba w (.cells #[.slice A1 N.length c1, .slice A2 R.length c2] 25))
    have P0 := Lib.hid (RowAt.new w 25 #[.slice A1 N.length c1, .slice A2 R.length c2])
    have g0 := P0.out.cell 0
    have g1 := P0.out.cell 1
    have d1 : decide ((2000 : Int) < (R.length : Int)) = false := decide_eq_false (by omega)
    clear hN hR hn hm h1 h2
    go_enter Try.func8, Try.ntmps8
    go_wp2_with (first
      | (go_at_call 20; go_must (refine (HG.out _ B0.out).mono ?_; rintro e1 w1 ⟨rfl, b1⟩; have P1 := Lib.hid (P0.out.keep b1); clear g0 g1; have g0 := P1.out.cell 0; have g1 := P1.out.cell 1; have B1 := Lib.hid (B0.out.trans (b1.mono B0.out.size)); clear b1))
      | (go_at_call 12; go_must (refine (awake_any _).mono ?_; rintro ez wz ⟨rfl, bz⟩; have BZ := Lib.hid (B1.out.trans (bz.mono B1.out.size)); clear bz)))
    go_returns
    exact ⟨rfl, BZ.out⟩
  by_cases h3 : 0 ≤ x
  case neg =>
    rw [show decide (ckC N R = 0) = true from decide_eq_true h2] at HG
    obtain ⟨A1, c1, rfl, _⟩ := hN.form
    obtain ⟨A2, c2, rfl⟩ := KArg.form hR
    have B0 := Lib.hid (ba w (.cells #[.slice A1 N.length c1, .slice A2 R.length c2] 25))
    have P0 := Lib.hid (RowAt.new w 25 #[.slice A1 N.length c1, .slice A2 R.length c2])
    have g0 := P0.out.cell 0
    have g1 := P0.out.cell 1
    have d1 : decide ((2000 : Int) < (R.length : Int)) = false := decide_eq_false (by omega)
    have d3 : decide (x < (0 : Int)) = true := decide_eq_true (by omega)
    clear hN hR hn hm h1 h2 h3
    go_enter Try.func8, Try.ntmps8
    go_wp2_with (first
      | (go_at_call 20; go_must (refine (HG.out _ B0.out).mono ?_; rintro e1 w1 ⟨rfl, b1⟩; have P1 := Lib.hid (P0.out.keep b1); clear g0 g1; have g0 := P1.out.cell 0; have g1 := P1.out.cell 1; have B1 := Lib.hid (B0.out.trans (b1.mono B0.out.size)); clear b1))
      | (go_at_call 12; go_must (refine (awake_any _).mono ?_; rintro ez wz ⟨rfl, bz⟩; have BZ := Lib.hid (B1.out.trans (bz.mono B1.out.size)); clear bz)))
    go_returns
    exact ⟨rfl, BZ.out⟩
  by_cases h4 : x < N.length
  case neg =>
    rw [show decide (ckC N R = 0) = true from decide_eq_true h2] at HG
    obtain ⟨A1, c1, rfl, _⟩ := hN.form
    obtain ⟨A2, c2, rfl⟩ := KArg.form hR
    have B0 := Lib.hid (ba w (.cells #[.slice A1 N.length c1, .slice A2 R.length c2] 25))
    have P0 := Lib.hid (RowAt.new w 25 #[.slice A1 N.length c1, .slice A2 R.length c2])
    have g0 := P0.out.cell 0
    have g1 := P0.out.cell 1
    have d1 : decide ((2000 : Int) < (R.length : Int)) = false := decide_eq_false (by omega)
    have d3 : decide (x < (0 : Int)) = false := decide_eq_false (by omega)
    have d4 : decide ((N.length : Int) ≤ x) = true := decide_eq_true (by omega)
    clear hN hR hn hm h1 h2 h3 h4
    go_enter Try.func8, Try.ntmps8
    go_wp2_with (first
      | (go_at_call 20; go_must (refine (HG.out _ B0.out).mono ?_; rintro e1 w1 ⟨rfl, b1⟩; have P1 := Lib.hid (P0.out.keep b1); clear g0 g1; have g0 := P1.out.cell 0; have g1 := P1.out.cell 1; have B1 := Lib.hid (B0.out.trans (b1.mono B0.out.size)); clear b1))
      | (go_at_call 12; go_must (refine (awake_any _).mono ?_; rintro ez wz ⟨rfl, bz⟩; have BZ := Lib.hid (B1.out.trans (bz.mono B1.out.size)); clear bz)))
    go_returns
    exact ⟨rfl, BZ.out⟩
  by_cases h5 : 0 ≤ y
  case neg =>
    rw [show decide (ckC N R = 0) = true from decide_eq_true h2] at HG
    obtain ⟨A1, c1, rfl, _⟩ := hN.form
    obtain ⟨A2, c2, rfl⟩ := KArg.form hR
    have B0 := Lib.hid (ba w (.cells #[.slice A1 N.length c1, .slice A2 R.length c2] 25))
    have P0 := Lib.hid (RowAt.new w 25 #[.slice A1 N.length c1, .slice A2 R.length c2])
    have g0 := P0.out.cell 0
    have g1 := P0.out.cell 1
    have d1 : decide ((2000 : Int) < (R.length : Int)) = false := decide_eq_false (by omega)
    have d3 : decide (x < (0 : Int)) = false := decide_eq_false (by omega)
    have d4 : decide ((N.length : Int) ≤ x) = false := decide_eq_false (by omega)
    have d5 : decide (y < (0 : Int)) = true := decide_eq_true (by omega)
    clear hN hR hn hm h1 h2 h3 h4 h5
    go_enter Try.func8, Try.ntmps8
    go_wp2_with (first
      | (go_at_call 20; go_must (refine (HG.out _ B0.out).mono ?_; rintro e1 w1 ⟨rfl, b1⟩; have P1 := Lib.hid (P0.out.keep b1); clear g0 g1; have g0 := P1.out.cell 0; have g1 := P1.out.cell 1; have B1 := Lib.hid (B0.out.trans (b1.mono B0.out.size)); clear b1))
      | (go_at_call 12; go_must (refine (awake_any _).mono ?_; rintro ez wz ⟨rfl, bz⟩; have BZ := Lib.hid (B1.out.trans (bz.mono B1.out.size)); clear bz)))
    go_returns
    exact ⟨rfl, BZ.out⟩
  by_cases h6 : y < R.length
  case neg =>
    rw [show decide (ckC N R = 0) = true from decide_eq_true h2] at HG
    obtain ⟨A1, c1, rfl, _⟩ := hN.form
    obtain ⟨A2, c2, rfl⟩ := KArg.form hR
    have B0 := Lib.hid (ba w (.cells #[.slice A1 N.length c1, .slice A2 R.length c2] 25))
    have P0 := Lib.hid (RowAt.new w 25 #[.slice A1 N.length c1, .slice A2 R.length c2])
    have g0 := P0.out.cell 0
    have g1 := P0.out.cell 1
    have d1 : decide ((2000 : Int) < (R.length : Int)) = false := decide_eq_false (by omega)
    have d3 : decide (x < (0 : Int)) = false := decide_eq_false (by omega)
    have d4 : decide ((N.length : Int) ≤ x) = false := decide_eq_false (by omega)
    have d5 : decide (y < (0 : Int)) = false := decide_eq_false (by omega)
    have d6 : decide ((R.length : Int) ≤ y) = true := decide_eq_true (by omega)
    clear hN hR hn hm h1 h2 h3 h4 h5 h6
    go_enter Try.func8, Try.ntmps8
    go_wp2_with (first
      | (go_at_call 20; go_must (refine (HG.out _ B0.out).mono ?_; rintro e1 w1 ⟨rfl, b1⟩; have P1 := Lib.hid (P0.out.keep b1); clear g0 g1; have g0 := P1.out.cell 0; have g1 := P1.out.cell 1; have B1 := Lib.hid (B0.out.trans (b1.mono B0.out.size)); clear b1))
      | (go_at_call 12; go_must (refine (awake_any _).mono ?_; rintro ez wz ⟨rfl, bz⟩; have BZ := Lib.hid (B1.out.trans (bz.mono B1.out.size)); clear bz)))
    go_returns
    exact ⟨rfl, BZ.out⟩
  rw [show decide (ckC N R = 0) = true from decide_eq_true h2] at HG
  obtain ⟨i, rfl⟩ : ∃ i : Nat, x = i := ⟨x.toNat, by omega⟩
  obtain ⟨j, rfl⟩ : ∃ j : Nat, y = j := ⟨y.toNat, by omega⟩
  have hi : i < N.length := by omega
  have hj : j < R.length := by omega
  obtain ⟨z1, z2, z3, z4, z5, z6⟩ := ckC_ok h2
  obtain ⟨q1, q2⟩ := one_all h2 hi
  obtain ⟨q3, q4⟩ := leL_all2 h2
  obtain ⟨t1, t2, t3, t4, t5⟩ := lev_at h2 j hj
  have p1 := leN_at (cs := [i]) hj
  have p2 := leN_at (cs := List.range N.length) hj
  have mkr := mk_range z4
  have lvr := ((vr_iff _ _ _ (by omega)).1 z6).1 _ (List.getElem_mem hj)
  rw [sb_id lvr.1 lvr.2] at p2
  rw [show sb [i] R[j].1 = bt R[j].1 i from by simp [sb]] at p1
  have le1 := leN_len R [i] R.length
  have le2 := leN_len R (List.range N.length) R.length
  have CL1 := Lib.hid (fun V W (hb : Below w.heap.size w W) (h : NmArg W V [N[i]]) => by have := levels_any N R [N[i]] vN vR V W (hN.keep hb) hs (hR.keep hb) h hn (by simp); rw [q1, q2] at this; exact this)
  have CL2 := Lib.hid (fun W (hb : Below w.heap.size w W) => by have := levels_any N R N vN vR vN W (hN.keep hb) hs (hR.keep hb) (hN.keep hb) hn hm; rw [q3, q4] at this; exact this)
  obtain ⟨A1, c1, rfl, _, hAN⟩ := hN.form
  obtain ⟨A2, c2, rfl, hAR⟩ := id hR
  obtain ⟨gN, oN, rfl, lN, cN⟩ := hAN (by omega)
  obtain ⟨gR, oR, rfl, lR, cR⟩ := hAR (by omega)
  have n0 := cN i hi
  obtain ⟨r0, r1⟩ := arg_two cR j hj
  have B0 := Lib.hid (ba w (.cells #[.slice (some ⟨gN, oN, none⟩) N.length c1, .slice (some ⟨gR, oR, none⟩) R.length c2] 25))
  have P0 := Lib.hid (RowAt.new w 25 #[.slice (some ⟨gN, oN, none⟩) N.length c1, .slice (some ⟨gR, oR, none⟩) R.length c2])
  have g0 := P0.out.cell 0
  have g1 := P0.out.cell 1
  have d1 : decide ((2000 : Int) < (R.length : Int)) = false := decide_eq_false (by omega)
  have d3 : decide ((i : Int) < (0 : Int)) = false := decide_eq_false (by omega)
  have d4 : decide ((N.length : Int) ≤ (i : Int)) = false := decide_eq_false (by omega)
  have d4n : decide (N.length ≤ i) = false := decide_eq_false (by omega)
  have d5 : decide ((j : Int) < (0 : Int)) = false := decide_eq_false (by omega)
  have d6 : decide ((R.length : Int) ≤ (j : Int)) = false := decide_eq_false (by omega)
  have d6n : decide (R.length ≤ j) = false := decide_eq_false (by omega)
  have hi1 : (0 : Int) ≤ (i : Int) := by omega
  have hi2 : (i : Int) < (N.length : Int) := by omega
  have hj1 : (0 : Int) ≤ (j : Int) := by omega
  have hj2 : (j : Int) < (R.length : Int) := by omega
  obtain ⟨LV, hLV⟩ : ∃ LV : Nat, R[j].1 = LV := ⟨R[j].1.toNat, by omega⟩
  obtain ⟨PW, hPW⟩ : ∃ PW : Nat, 2 ^ i = PW := ⟨_, rfl⟩
  obtain ⟨QV, hQV⟩ : ∃ QV : Nat, LV / PW = QV := ⟨_, rfl⟩
  rw [hLV, bt_nat, hPW, hQV] at p1
  rw [hLV] at p2 r0
  obtain ⟨TK, hTK⟩ : ∃ TK : Int, R[j].2 = TK := ⟨_, rfl⟩
  rw [hTK] at p1 p2 r1 t3 t5
  obtain ⟨FR, hFR⟩ : ∃ FR : Int, lg (R.take j) = FR := ⟨_, rfl⟩
  rw [hFR] at p1 p2 t4 t5
  obtain ⟨TO, hTO⟩ : ∃ TO : Int, FR + TK = TO := ⟨_, rfl⟩
  rw [hTO] at p1 p2 t5
  have hsub : IntKind.i64.wrap (TO - FR) = TK := (IntWalk.i64_in _ (by omega)).trans (by omega)
  have hpw : PW ≤ 32768 := by rw [← hPW]; exact Nat.le_trans (Nat.pow_le_pow_right (show 0 < 2 by omega) (show i ≤ 15 by omega)) (by decide)
  have hpp : 0 < PW := by rw [← hPW]; exact Nat.pow_pos (by omega)
  have hlv : LV ≤ 65535 := by omega
  have HPW := Lib.hid hPW
  have HQV := Lib.hid hQV
  have HI := Lib.hid (show i < 16 by omega)
  have HP1 := Lib.hid p1
  have HP2 := Lib.hid p2
  have HL1 := Lib.hid le1
  have HL2 := Lib.hid le2
  have HJ := Lib.hid hj
  have HNL := Lib.hid (Nat.lt_of_lt_of_le lN B0.out.size)
  have n1 := (B0.out.cell (p := ⟨gN, oN + i, none⟩) lN).trans n0
  generalize N[i] = nm0 at *
  generalize leN R [i] R.length = E1 at *
  generalize leN R (List.range N.length) R.length = E2 at *
  clear hN hR hAN hAR h1 h2 h3 h4 h5 h6 hm hs z1 z2 z3 z4 z5 z6 q1 q2 q3 q4 t1 t2 p1 p2 le1 le2 mkr lvr hLV hPW hQV hTK hFR hTO cN cR hi hj n0 t3 t4 t5
  go_enter Try.func8, Try.ntmps8
  go_wp2_with (first
    | (go_at_call 20; go_must (refine (HG.out _ B0.out).mono ?_; rintro e1 w1 ⟨rfl, b1⟩; have P1 := Lib.hid (P0.out.keep b1); clear g0 g1; have g0 := P1.out.cell 0; have g1 := P1.out.cell 1; have n2 := (b1.cell (p := ⟨gN, oN + i, none⟩) HNL.out).trans n1; clear n1; have HNL1 := Lib.hid (Nat.lt_of_lt_of_le HNL.out b1.size); have B1 := Lib.hid (B0.out.trans (b1.mono B0.out.size)); clear b1)))
  have hs1 := Lib.hid (And.intro g0 (And.intro g1 (And.intro n2 (And.intro B1.out (And.intro (show w.heap.size < w1.heap.size from P1.out.lt) HNL1.out)))))
  have hs2 := Lib.hid (held_sel hs1.out (ba w1 (.cells #[.string nm0] 9)).drew)
  have LN : Hid (NmArg (w1.alloc (.cells #[.string nm0] 9)).drew (.slice (some ⟨w1.heap.size, 0, none⟩) 1 1) [nm0]) := Lib.hid (lit_name nm0 w1)
  clear g0 g1 n2
  go_region_held3 (fun w' => w'.cell? ⟨w.heap.size, 0, none⟩ = some (.slice (some ⟨gN, oN, none⟩) N.length c1) ∧ w'.cell? ⟨w.heap.size, 1, none⟩ = some (.slice (some ⟨gR, oR, none⟩) R.length c2) ∧ w'.cell? ⟨gN, oN + i, none⟩ = some (.string nm0) ∧ Below w.heap.size w w' ∧ w.heap.size < w'.heap.size ∧ gN < w'.heap.size) (first | assumption | exact held_sel hs1.out (Below.refl _ _).drew | exact held_sel (by assumption) (Below.refl _ _).drew | exact held_sel (by assumption) (ba _ _) | fail)
    (first | (go_at_call 9; refine (CL1.out _ _ (held_selB hs2.out) LN.out).mono ?_; rintro e2 w2 ⟨v2, rfl, r2, b2⟩; have h5 := held_sel hs2.out b2; have R2 := Lib.hid r2; clear r2) | fail)
  rename_i hS9
  obtain ⟨k0, k1, _, B2', k4, _⟩ := hS9
  have B2 := Lib.hid B2'
  have lt0 := Lib.hid k4
  have hj' := HJ.out
  obtain ⟨GA, GC, rfl⟩ := KRow.full R2.out (by rw [HL1.out]; omega)
  have x1 : w2.cell? ⟨GA, j * 7 + 1, none⟩ = some (.int .i64 FR) := row_at R2.out HP1.out 1 (by omega)
  have x2 : w2.cell? ⟨GA, j * 7 + 2, none⟩ = some (.int .i64 TO) := row_at R2.out HP1.out 2 (by omega)
  have x3 : w2.cell? ⟨GA, j * 7 + 3, none⟩ = some (.int .i64 ((QV % 2 : Nat) : Int)) := row_at R2.out HP1.out 3 (by omega)
  have ltA := (R2.out.lt GA rfl).2
  have X := Lib.hid (And.intro x1 (And.intro x2 (And.intro x3 ltA)))
  rw [HL1.out]
  clear b2 h5 B2' k4 x1 x2 x3 ltA R2 hj'
  go_wp2_with (go_at_call 9; go_must (refine (CL2.out _ B2.out).mono ?_; rintro e3 w3 ⟨v3, rfl, r3, b3⟩; have hj' := HJ.out; obtain ⟨GB, GD, rfl⟩ := KRow.full r3 (by rw [HL2.out]; omega); have y1 : w3.cell? ⟨GB, j * 7 + 1, none⟩ = some (.int .i64 FR) := row_at r3 HP2.out 1 (by omega); have y3 : w3.cell? ⟨GB, j * 7 + 3, none⟩ = some (.int .i64 (LV : Int)) := row_at r3 HP2.out 3 (by omega); obtain ⟨x1', x2', x3', ltA⟩ := X.out; have x1 := (b3.cell (p := ⟨GA, j * 7 + 1, none⟩) ltA).trans x1'; have x2 := (b3.cell (p := ⟨GA, j * 7 + 2, none⟩) ltA).trans x2'; have x3 := (b3.cell (p := ⟨GA, j * 7 + 3, none⟩) ltA).trans x3'; have g0 := (b3.cell (p := ⟨w.heap.size, 0, none⟩) lt0.out).trans k0; have g1 := (b3.cell (p := ⟨w.heap.size, 1, none⟩) lt0.out).trans k1; have B3 := Lib.hid (B2.out.trans (b3.mono B2.out.size)); have s0 := (B3.out.cell (p := ⟨gR, oR + j * 2, none⟩) lR).trans r0; have s1 := (B3.out.cell (p := ⟨gR, oR + j * 2 + 1, none⟩) lR).trans r1; have ltA3 := Lib.hid (Nat.lt_of_lt_of_le ltA b3.size); have ltB3 := Lib.hid (r3.lt GB rfl).2; have lt03 := Lib.hid (Nat.lt_of_lt_of_le lt0.out b3.size); have ltR3 := Lib.hid (Nat.lt_of_lt_of_le lR B3.out.size); rw [HL2.out]; clear b3 x1' x2' x3' ltA hj' k0 k1 r0 r1 r3))
  have hi' : (i : Int) ≤ 16 := by have := HI.out; omega
  go_loop [11, 12] (fun wt it => ∃ q P : Nat, q ≤ i ∧ it = .int .i64 q ∧ wt = .int .i64 P ∧ Hid (2 ^ q = P)) (fun _ it => i - (intOf it).toNat)
  case atStart => exact ⟨0, 1, Nat.zero_le _, rfl, rfl, Lib.hid (by decide)⟩
  case round =>
    obtain ⟨q, P, hq, rfl, rfl, HP⟩ := hrel
    by_cases hqi : q < i
    · have hP : P ≤ 32768 := by
        rw [← HP.out]
        exact Nat.le_trans (Nat.pow_le_pow_right (show 0 < 2 by omega) (show q ≤ 15 by have := HI.out; omega)) (by decide)
      have HP2 : Hid (2 ^ (q + 1) = P * 2) := Lib.hid (by rw [Nat.pow_succ, HP.out])
      have dq : decide ((q : Int) < (i : Int)) = true := decide_eq_true (by omega)
      clear x1 x2 x3 y1 y3 g0 g1 s0 s1
      go_wp2
      go_round
      case rel => exact ⟨q + 1, P * 2, by omega, val_int (by omega), val_int (by omega), HP2⟩
      case measure => simp [intOf]; omega
    · obtain rfl : q = i := by omega
      obtain rfl : P = PW := by rw [← HP.out, HPW.out]
      have dq : decide ((q : Int) < (q : Int)) = false := decide_eq_false (by omega)
      have ht1 : (LV : Int).tdiv (P : Int) = (QV : Int) := by rw [← HQV.out]; rfl
      have hqb : QV ≤ 65535 := by rw [← HQV.out]; exact Nat.le_trans (Nat.div_le_self _ _) hlv
      have ht2 : (QV : Int).tmod 2 = ((QV % 2 : Nat) : Int) := rfl
      have hp0 : ¬ (P : Int) = 0 := by omega
      clear hqi hq
      go_wp2
      have hs4 := Lib.hid (And.intro x1 (And.intro x2 (And.intro x3 (And.intro y1 (And.intro y3 (And.intro g1 (And.intro s0 (And.intro s1 (And.intro B3.out (And.intro lt03.out (And.intro ltA3.out (And.intro ltB3.out ltR3.out))))))))))))
      clear x1 x2 x3 y1 y3 g0 g1 s0 s1
      go_region_held3 (fun w' => w'.cell? ⟨GA, j * 7 + 1, none⟩ = some (.int .i64 FR) ∧ w'.cell? ⟨GA, j * 7 + 2, none⟩ = some (.int .i64 TO) ∧ w'.cell? ⟨GA, j * 7 + 3, none⟩ = some (.int .i64 ((QV % 2 : Nat) : Int)) ∧ w'.cell? ⟨GB, j * 7 + 1, none⟩ = some (.int .i64 FR) ∧ w'.cell? ⟨GB, j * 7 + 3, none⟩ = some (.int .i64 (LV : Int)) ∧ w'.cell? ⟨w.heap.size, 1, none⟩ = some (.slice (some ⟨gR, oR, none⟩) R.length c2) ∧ w'.cell? ⟨gR, oR + j * 2, none⟩ = some (.int .i64 (LV : Int)) ∧ w'.cell? ⟨gR, oR + j * 2 + 1, none⟩ = some (.int .i64 TK) ∧ Below w.heap.size w w' ∧ w.heap.size < w'.heap.size ∧ GA < w'.heap.size ∧ GB < w'.heap.size ∧ gR < w'.heap.size) (first | assumption | exact held_fin hs4.out (Below.refl _ _).drew | exact held_fin (by assumption) (Below.refl _ _).drew | fail)
        (first | (go_at_call 12; refine (awake_any _).mono ?_; rintro ez wz ⟨rfl, bz⟩; have h9 := held_fin (by assumption) bz) | fail)
      rename_i hS9
      have BZ := Lib.hid hS9.2.2.2.2.2.2.2.2.1
      clear hS9
      go_wp2
      go_returns
      exact ⟨rfl, BZ.out⟩

end Go.Proofs.Ytcodoakfomddfaa
