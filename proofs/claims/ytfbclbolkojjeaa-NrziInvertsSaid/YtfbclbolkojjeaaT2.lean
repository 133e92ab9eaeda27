/-
  The walks of samples, irregular (the program's and the specification's).
-/
import Derived.Test.YtfbclbolkojjeaaT1
import Derived.Test.YtfbclbolkojjeaaSrW6
import Derived.Deep.RegionHeld3
namespace Go.Proofs.Ytfbclbolkojjeaa
open Go Go.RowKit Go.Joins
set_option linter.unusedVariables false
set_option linter.unusedSimpArgs false

set_option maxRecDepth 20000 in
set_option maxHeartbeats 2000000 in
theorem samples_any (N D d : Int) (w : World) (h : Bt N D) (h0 : 0 ≤ d) (h1 : d ≤ 1099511627776) :
    Calls Try.prog 98 #[rat N D, .int .i64 d] w fun e w' => e = .returned (.int .i64 (cnt N D d)) ∧ Below w.heap.size w w' := by
  have k0 := whole_nn h h0
  have k1 := whole_le h h0
  have HC : Hid (cnt N D d = if smI N D (sc d D N) < d then sc d D N + 1 else sc d D N) := Lib.hid rfl
  have HW : Hid (∀ W, Calls Try.prog 102 #[rat N D, .int .i64 d] W fun e w' => e = .returned (.int .i64 (sc d D N)) ∧ Below W.heap.size W w') := Lib.hid fun W => whole_any N D d W h h0 h1
  have HS : Hid (∀ W, Calls Try.prog 99 #[rat N D, .int .i64 (sc d D N)] W fun e w' => e = .returned (.int .i64 (smI N D (sc d D N))) ∧ Below W.heap.size W w') := Lib.hid fun W => sample_any N D _ W h k0 (by omega)
  generalize sc d D N = K at *
  generalize smI N D K = S at *
  by_cases hs : S < d
  · have HC' : Hid (cnt N D d = K + 1) := Lib.hid (by rw [HC.out, if_pos hs])
    go_enter Try.func98, Try.ntmps98
    go_wp2_with (first | (go_at_call 102; refine (HW.out _).mono ?_; rintro e wa ⟨rfl, ba⟩; obtain ⟨a0, a1, asz⟩ := Sr.one2 ba) | (go_at_call 99; refine (HS.out _).mono ?_; rintro e wb ⟨rfl, bb⟩; have bb' := ba.trans (bb.mono ba.size)))
    go_returns
    exact ⟨ret_i HC'.out.symm, ((Below.refl _ _).alloc (Nat.le_refl _) _).trans (bb'.mono (by simp [World.size_alloc]))⟩
  · have HC' : Hid (cnt N D d = K) := Lib.hid (by rw [HC.out, if_neg hs])
    go_enter Try.func98, Try.ntmps98
    go_wp2_with (first | (go_at_call 102; refine (HW.out _).mono ?_; rintro e wa ⟨rfl, ba⟩; obtain ⟨a0, a1, asz⟩ := Sr.one2 ba) | (go_at_call 99; refine (HS.out _).mono ?_; rintro e wb ⟨rfl, bb⟩; have bb' := ba.trans (bb.mono ba.size)))
    go_returns
    exact ⟨ret_i HC'.out.symm, ((Below.refl _ _).alloc (Nat.le_refl _) _).trans (bb'.mono (by simp [World.size_alloc]))⟩

theorem near_bd {N D d : Int} (h : Bt N D) (h0 : 0 ≤ d) (h1 : d ≤ 1099511627776) : 0 ≤ d - bdI N D (sc d D N) ∧ d - bdI N D (sc d D N) ≤ 1048577 ∧ 0 ≤ bdI N D (sc d D N + 1) - d ∧ bdI N D (sc d D N + 1) - d ≤ 1048577 ∧ 0 ≤ bdI N D (sc d D N) := by
  have a := whole_bd h d
  have b := (bd_next h (sc d D N)).2
  have c : 0 ≤ bdI N D (sc d D N) := sc_nn h.d1 (whole_nn h h0) (by have := h.d1; have := h.n1; omega)
  omega
set_option maxRecDepth 20000 in
set_option maxHeartbeats 2000000 in
theorem refIrr_any (N D d : Int) (w : World) (h : Bt N D) (h0 : 0 ≤ d) (h1 : d ≤ 1099511627776) :
    Calls Try.prog 60 #[rat N D, .int .i64 d] w fun e w' => e = .returned (.bool (irrB N D d)) ∧ Below w.heap.size w w' := by
  have k0 := whole_nn h h0
  have k1 := whole_le h h0
  have e1 := h.d1; have e2 := h.d2; have e3 := h.n1; have e4 := h.n2
  obtain ⟨n1, n2, n3, n4, n5⟩ := near_bd h h0 h1
  have HI : Hid (irrB N D d = decide (N < 4 * (min (d - bdI N D (sc d D N)) (bdI N D (sc d D N + 1) - d)) * D)) := Lib.hid rfl
  have HW : Hid (∀ W, Calls Try.prog 87 #[.int .i64 d, .int .i64 D, .int .i64 N] W fun e w' => e = .returned (.int .i64 (sc d D N)) ∧ Below W.heap.size W w') := Lib.hid fun W => mul_any d D N W h0 (by omega) (by omega) (by omega) (by omega) (by omega) (by omega)
  have HS : Hid (∀ q W, 0 ≤ q → q ≤ 1099511627776 → Calls Try.prog 62 #[rat N D, .int .i64 q] W fun e w' => e = .returned (.int .i64 (bdI N D q)) ∧ Below W.heap.size W w') := Lib.hid fun q W q0 q1 => refBoundary_any N D q W h q0 q1
  generalize sc d D N = K at *
  have hm : ∀ m : Int, 0 ≤ m → m ≤ 1048577 → 0 ≤ 4 * m * D ∧ 4 * m * D ≤ 4611686018427387904 := by
    intro m m0 m1
    have a : 0 ≤ 4 * m * D := Int.mul_nonneg (by omega) (by omega)
    have b : 4 * m * D ≤ 4194308 * D := Int.mul_le_mul_of_nonneg_right (by omega) (by omega)
    omega
  obtain ⟨x1, x2⟩ := hm (d - bdI N D K) n1 n2
  obtain ⟨y1, y2⟩ := hm (bdI N D (K + 1) - d) n3 n4
  clear hm
  by_cases hs : bdI N D (K + 1) - d < d - bdI N D K
  · have HI' : Hid (irrB N D d = decide (N < 4 * (bdI N D (K + 1) - d) * D)) := Lib.hid (by rw [HI.out, show min (d - bdI N D K) (bdI N D (K + 1) - d) = bdI N D (K + 1) - d by omega])
    clear HI
    go_enter Try.func60, Try.ntmps60
    go_wp2_with (first | (go_at_call 87; refine (HW.out _).mono ?_; rintro e wa ⟨rfl, ba⟩; obtain ⟨a0, a1, asz⟩ := Sr.one2 ba) | (go_at_call 62; refine (HS.out _ _ (by omega) (by omega)).mono ?_; rintro e wc ⟨rfl, bc⟩; have bc' := bb'.trans (bc.mono bb'.size); obtain ⟨c0, c1, csz⟩ := Sr.one2 bc') | (go_at_call 62; refine (HS.out _ _ (by omega) (by omega)).mono ?_; rintro e wb ⟨rfl, bb⟩; have bb' := ba.trans (bb.mono ba.size); obtain ⟨b0, b1, bsz⟩ := Sr.one2 bb'))
    go_returns
    exact ⟨by rw [HI'.out]; rfl, ((Below.refl _ _).alloc (Nat.le_refl _) _).trans (bc'.mono (by simp [World.size_alloc]))⟩
  · have HI' : Hid (irrB N D d = decide (N < 4 * (d - bdI N D K) * D)) := Lib.hid (by rw [HI.out, show min (d - bdI N D K) (bdI N D (K + 1) - d) = d - bdI N D K by omega])
    clear HI
    go_enter Try.func60, Try.ntmps60
    go_wp2_with (first | (go_at_call 87; refine (HW.out _).mono ?_; rintro e wa ⟨rfl, ba⟩; obtain ⟨a0, a1, asz⟩ := Sr.one2 ba) | (go_at_call 62; refine (HS.out _ _ (by omega) (by omega)).mono ?_; rintro e wc ⟨rfl, bc⟩; have bc' := bb'.trans (bc.mono bb'.size); obtain ⟨c0, c1, csz⟩ := Sr.one2 bc') | (go_at_call 62; refine (HS.out _ _ (by omega) (by omega)).mono ?_; rintro e wb ⟨rfl, bb⟩; have bb' := ba.trans (bb.mono ba.size); obtain ⟨b0, b1, bsz⟩ := Sr.one2 bb'))
    go_returns
    exact ⟨by rw [HI'.out]; rfl, ((Below.refl _ _).alloc (Nat.le_refl _) _).trans (bc'.mono (by simp [World.size_alloc]))⟩

theorem held_pair {w W W' : World} {b : Nat} {x y : Value} (h : W.cell? ⟨b, 0, none⟩ = some x ∧ W.cell? ⟨b, 1, none⟩ = some y ∧ Below w.heap.size w W ∧ b < W.heap.size) (hb : Below W.heap.size W W') : W'.cell? ⟨b, 0, none⟩ = some x ∧ W'.cell? ⟨b, 1, none⟩ = some y ∧ Below w.heap.size w W' ∧ b < W'.heap.size := by
  obtain ⟨a0, a1, hB, l1⟩ := h
  have hs := hb.size
  exact ⟨(hb.cell l1).trans a0, (hb.cell l1).trans a1, hB.trans (hb.mono hB.size), by omega⟩
set_option maxRecDepth 20000 in
set_option maxHeartbeats 2000000 in
theorem irr_any (N D d : Int) (w : World) (h : Bt N D) (h0 : 0 ≤ d) (h1 : d ≤ 1099511627776) :
    Calls Try.prog 97 #[rat N D, .int .i64 d] w fun e w' => e = .returned (.bool (irrB N D d)) ∧ Below w.heap.size w w' := by
  have k0 := whole_nn h h0
  have k1 := whole_le h h0
  have e1 := h.d1; have e2 := h.d2; have e3 := h.n1; have e4 := h.n2
  obtain ⟨n1, n2, n3, n4, n5⟩ := near_bd h h0 h1
  have HI : Hid (irrB N D d = decide (N < 4 * (min (d - bdI N D (sc d D N)) (bdI N D (sc d D N + 1) - d)) * D)) := Lib.hid rfl
  have HW : Hid (∀ W, Calls Try.prog 102 #[rat N D, .int .i64 d] W fun e w' => e = .returned (.int .i64 (sc d D N)) ∧ Below W.heap.size W w') := Lib.hid fun W => whole_any N D d W h h0 h1
  have HS : Hid (∀ q W, 0 ≤ q → q ≤ 1099511627776 → Calls Try.prog 76 #[rat N D, .int .i64 q] W fun e w' => e = .returned (.int .i64 (bdI N D q)) ∧ Below W.heap.size W w') := Lib.hid fun q W q0 q1 => boundary_any N D q W h q0 q1
  generalize sc d D N = K at *
  have hm : ∀ m : Int, 0 ≤ m → m ≤ 1048577 → 0 ≤ 4 * m * D ∧ 4 * m * D ≤ 4611686018427387904 := by
    intro m m0 m1
    have a : 0 ≤ 4 * m * D := Int.mul_nonneg (by omega) (by omega)
    have b : 4 * m * D ≤ 4194308 * D := Int.mul_le_mul_of_nonneg_right (by omega) (by omega)
    omega
  obtain ⟨x1, x2⟩ := hm (min (d - bdI N D K) (bdI N D (K + 1) - d)) (by omega) (by omega)
  clear hm
  obtain ⟨W, b, eW, eb, HP⟩ := pair_at w (.int .i64 N) (.int .i64 D) 23
  have hs := Lib.hid HP
  clear HP
  go_enter Try.func97, Try.ntmps97
  go_wp2_with (first | (rw [← eW, ← eb]; clear eW eb; go_at_call 102; go_must (refine (HW.out _).mono ?_; rintro e wa ⟨rfl, ba⟩; have hp := Lib.hid (held_pair hs.out ba); clear hs)))
  have q1 : IntKind.i64.wrap (K + 1) = K + 1 := IntWalk.i64_in _ (by omega)
  have q2 : IntKind.i64.wrap (d - bdI N D K) = d - bdI N D K := IntWalk.i64_in _ (by omega)
  have q3 : IntKind.i64.wrap (bdI N D (K + 1) - d) = bdI N D (K + 1) - d := IntWalk.i64_in _ (by omega)
  go_region_held3 (fun w' => w'.cell? ⟨b, 0, none⟩ = some (.int .i64 N) ∧ w'.cell? ⟨b, 1, none⟩ = some (.int .i64 D) ∧ Below w.heap.size w w' ∧ b < w'.heap.size) (first | exact hp.out | assumption | exact held_pair hp.out (Below.refl _ _).drew | exact held_pair (by assumption) (Below.refl _ _).drew | fail)
    (first | (go_at_call 76; refine (HS.out _ _ (by omega) (by omega)).mono ?_; rintro e5 w5 ⟨rfl, b5⟩; have h5 := held_pair (by assumption) b5))
  rename_i hS9
  have hB9 := Lib.hid hS9
  clear hS9
  have qm : 0 ≤ min (d - bdI N D K) (bdI N D (K + 1) - d) ∧ min (d - bdI N D K) (bdI N D (K + 1) - d) ≤ 1048577 := by omega
  clear q1 q2 q3 HS n1 n2 n3 n4
  generalize min (d - bdI N D K) (bdI N D (K + 1) - d) = M at *
  obtain ⟨qm0, qm1⟩ := qm
  obtain ⟨c0, c1, cB, cl⟩ := hB9.out
  go_wp2
  go_returns
  exact ⟨by rw [HI.out]; rfl, cB⟩

end Go.Proofs.Ytfbclbolkojjeaa
