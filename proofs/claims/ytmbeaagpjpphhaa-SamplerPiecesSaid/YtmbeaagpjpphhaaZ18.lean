/-
  The walks of samples, irregular (the program's and the specification's).
  The walks of Check (the program's and the specification's), Start and End.
  The machine in memory; what a walk of bit needs.
  Layer 17: the walks of Check, signal, twoBits, Start, End (the program's), Check, times, Start, accepts (the specification's).
  Layer 17: what came in: a configuration, a state.
-/
import Derived.Test.YtmbeaagpjpphhaaZ11
import Derived.Test.YtmbeaagpjpphhaaZ05
import Derived.Deep.RegionHeld3
import Derived.Test.YtmbeaagpjpphhaaZ09
import Derived.Test.YtmbeaagpjpphhaaZ12
import Derived.ChangeSame
namespace Go.Proofs.Ytmbeaagpjpphhaa
open Go Go.RowKit Go.Joins
set_option linter.unusedVariables false
set_option linter.unusedSimpArgs false

set_option maxRecDepth 20000 in
set_option maxHeartbeats 2000000 in
theorem samples_any (N D d : Int) (w : World) (h : Bt N D) (h0 : 0 ≤ d) (h1 : d ≤ 1099511627776) :
    Calls Try.prog 114 #[rat N D, .int .i64 d] w fun e w' => e = .returned (.int .i64 (cnt N D d)) ∧ Below w.heap.size w w' := by
  have k0 := whole_nn h h0
  have k1 := whole_le h h0
  have HC : Hid (cnt N D d = if smI N D (sc d D N) < d then sc d D N + 1 else sc d D N) := Lib.hid rfl
  have HW : Hid (∀ W, Calls Try.prog 122 #[rat N D, .int .i64 d] W fun e w' => e = .returned (.int .i64 (sc d D N)) ∧ Below W.heap.size W w') := Lib.hid fun W => whole_any N D d W h h0 h1
  have HS : Hid (∀ W, Calls Try.prog 106 #[rat N D, .int .i64 (sc d D N)] W fun e w' => e = .returned (.int .i64 (smI N D (sc d D N))) ∧ Below W.heap.size W w') := Lib.hid fun W => sample_any N D _ W h k0 (by omega)
  generalize sc d D N = K at *
  generalize smI N D K = S at *
  by_cases hs : S < d
  · have HC' : Hid (cnt N D d = K + 1) := Lib.hid (by rw [HC.out, if_pos hs])
    go_enter Try.func114, Try.ntmps114
    go_wp2_with (first | (go_at_call 122; refine (HW.out _).mono ?_; rintro e wa ⟨rfl, ba⟩; obtain ⟨a0, a1, asz⟩ := Sr.one2 ba) | (go_at_call 106; refine (HS.out _).mono ?_; rintro e wb ⟨rfl, bb⟩; have bb' := ba.trans (bb.mono ba.size)))
    go_returns
    exact ⟨ret_i HC'.out.symm, ((Below.refl _ _).alloc (Nat.le_refl _) _).trans (bb'.mono (by simp [World.size_alloc]))⟩
  · have HC' : Hid (cnt N D d = K) := Lib.hid (by rw [HC.out, if_neg hs])
    go_enter Try.func114, Try.ntmps114
    go_wp2_with (first | (go_at_call 122; refine (HW.out _).mono ?_; rintro e wa ⟨rfl, ba⟩; obtain ⟨a0, a1, asz⟩ := Sr.one2 ba) | (go_at_call 106; refine (HS.out _).mono ?_; rintro e wb ⟨rfl, bb⟩; have bb' := ba.trans (bb.mono ba.size)))
    go_returns
    exact ⟨ret_i HC'.out.symm, ((Below.refl _ _).alloc (Nat.le_refl _) _).trans (bb'.mono (by simp [World.size_alloc]))⟩

theorem near_bd {N D d : Int} (h : Bt N D) (h0 : 0 ≤ d) (h1 : d ≤ 1099511627776) : 0 ≤ d - bdI N D (sc d D N) ∧ d - bdI N D (sc d D N) ≤ 1048577 ∧ 0 ≤ bdI N D (sc d D N + 1) - d ∧ bdI N D (sc d D N + 1) - d ≤ 1048577 ∧ 0 ≤ bdI N D (sc d D N) := by
  have a := whole_bd h d
  have b := (bd_next h (sc d D N)).2
  have c : 0 ≤ bdI N D (sc d D N) := sc_nn h.d1 (whole_nn h h0) (by have := h.d1; have := h.n1; omega)
  omega
set_option maxRecDepth 20000 in
set_option maxHeartbeats 2000000 in
theorem refIrr_any (N D d : Int) (w : World) (h : Bt N D) (h0 : 0 ≤ d) (h1 : d ≤ 1099511627776) :
    Calls Try.prog 64 #[rat N D, .int .i64 d] w fun e w' => e = .returned (.bool (irrB N D d)) ∧ Below w.heap.size w w' := by
  have k0 := whole_nn h h0
  have k1 := whole_le h h0
  have e1 := h.d1; have e2 := h.d2; have e3 := h.n1; have e4 := h.n2
  obtain ⟨n1, n2, n3, n4, n5⟩ := near_bd h h0 h1
  have HI : Hid (irrB N D d = decide (N < 4 * (min (d - bdI N D (sc d D N)) (bdI N D (sc d D N + 1) - d)) * D)) := Lib.hid rfl
  have HW : Hid (∀ W, Calls Try.prog 101 #[.int .i64 d, .int .i64 D, .int .i64 N] W fun e w' => e = .returned (.int .i64 (sc d D N)) ∧ Below W.heap.size W w') := Lib.hid fun W => mul_any d D N W h0 (by omega) (by omega) (by omega) (by omega) (by omega) (by omega)
  have HS : Hid (∀ q W, 0 ≤ q → q ≤ 1099511627776 → Calls Try.prog 66 #[rat N D, .int .i64 q] W fun e w' => e = .returned (.int .i64 (bdI N D q)) ∧ Below W.heap.size W w') := Lib.hid fun q W q0 q1 => refBoundary_any N D q W h q0 q1
  generalize sc d D N = K at *
  have hm : ∀ m : Int, 0 ≤ m → m ≤ 1048577 → 0 ≤ 4 * m * D ∧ 4 * m * D ≤ 4611686018427387904 := by
    intro m m0 m1
    have a : 0 ≤ 4 * m * D := Int.mul_nonneg (by omega) (by omega)
    have b : 4 * m * D ≤ 4194308 * D := Int.mul_le_mul_of_nonneg_right (by omega) (by omega)
    omega
  obtain ⟨x1, x2⟩ := hm (d - bdI N D K) n1 n2
  obtain ⟨y1, y2⟩ := hm (bdI N D (K + 1) - d) n3 n4
  clear hm
  by_cases hs : bdI N D (K + 1) - d < d - bdI N D K
  · have HI' : Hid (irrB N D d = decide (N < 4 * (bdI N D (K + 1) - d) * D)) := Lib.hid (by rw [HI.out, show min (d - bdI N D K) (bdI N D (K + 1) - d) = bdI N D (K + 1) - d by omega])
    clear HI
    go_enter Try.func64, Try.ntmps64
    go_wp2_with (first | (go_at_call 101; refine (HW.out _).mono ?_; rintro e wa ⟨rfl, ba⟩; obtain ⟨a0, a1, asz⟩ := Sr.one2 ba) | (go_at_call 66; refine (HS.out _ _ (by omega) (by omega)).mono ?_; rintro e wc ⟨rfl, bc⟩; have bc' := bb'.trans (bc.mono bb'.size); obtain ⟨c0, c1, csz⟩ := Sr.one2 bc') | (go_at_call 66; refine (HS.out _ _ (by omega) (by omega)).mono ?_; rintro e wb ⟨rfl, bb⟩; have bb' := ba.trans (bb.mono ba.size); obtain ⟨b0, b1, bsz⟩ := Sr.one2 bb'))
    go_returns
    exact ⟨by rw [HI'.out]; rfl, ((Below.refl _ _).alloc (Nat.le_refl _) _).trans (bc'.mono (by simp [World.size_alloc]))⟩
  · have HI' : Hid (irrB N D d = decide (N < 4 * (d - bdI N D K) * D)) := Lib.hid (by rw [HI.out, show min (d - bdI N D K) (bdI N D (K + 1) - d) = d - bdI N D K by omega])
    clear HI
    go_enter Try.func64, Try.ntmps64
    go_wp2_with (first | (go_at_call 101; refine (HW.out _).mono ?_; rintro e wa ⟨rfl, ba⟩; obtain ⟨a0, a1, asz⟩ := Sr.one2 ba) | (go_at_call 66; refine (HS.out _ _ (by omega) (by omega)).mono ?_; rintro e wc ⟨rfl, bc⟩; have bc' := bb'.trans (bc.mono bb'.size); obtain ⟨c0, c1, csz⟩ := Sr.one2 bc') | (go_at_call 66; refine (HS.out _ _ (by omega) (by omega)).mono ?_; rintro e wb ⟨rfl, bb⟩; have bb' := ba.trans (bb.mono ba.size); obtain ⟨b0, b1, bsz⟩ := Sr.one2 bb'))
    go_returns
    exact ⟨by rw [HI'.out]; rfl, ((Below.refl _ _).alloc (Nat.le_refl _) _).trans (bc'.mono (by simp [World.size_alloc]))⟩

theorem held_pair {w W W' : World} {b : Nat} {x y : Value} (h : W.cell? ⟨b, 0, none⟩ = some x ∧ W.cell? ⟨b, 1, none⟩ = some y ∧ Below w.heap.size w W ∧ b < W.heap.size) (hb : Below W.heap.size W W') : W'.cell? ⟨b, 0, none⟩ = some x ∧ W'.cell? ⟨b, 1, none⟩ = some y ∧ Below w.heap.size w W' ∧ b < W'.heap.size := by
  obtain ⟨a0, a1, hB, l1⟩ := h
  have hs := hb.size
  exact ⟨(hb.cell l1).trans a0, (hb.cell l1).trans a1, hB.trans (hb.mono hB.size), by omega⟩
set_option maxRecDepth 20000 in
set_option maxHeartbeats 2000000 in
theorem irr_any (N D d : Int) (w : World) (h : Bt N D) (h0 : 0 ≤ d) (h1 : d ≤ 1099511627776) :
    Calls Try.prog 113 #[rat N D, .int .i64 d] w fun e w' => e = .returned (.bool (irrB N D d)) ∧ Below w.heap.size w w' := by
  have k0 := whole_nn h h0
  have k1 := whole_le h h0
  have e1 := h.d1; have e2 := h.d2; have e3 := h.n1; have e4 := h.n2
  obtain ⟨n1, n2, n3, n4, n5⟩ := near_bd h h0 h1
  have HI : Hid (irrB N D d = decide (N < 4 * (min (d - bdI N D (sc d D N)) (bdI N D (sc d D N + 1) - d)) * D)) := Lib.hid rfl
  have HW : Hid (∀ W, Calls Try.prog 122 #[rat N D, .int .i64 d] W fun e w' => e = .returned (.int .i64 (sc d D N)) ∧ Below W.heap.size W w') := Lib.hid fun W => whole_any N D d W h h0 h1
  have HS : Hid (∀ q W, 0 ≤ q → q ≤ 1099511627776 → Calls Try.prog 58 #[rat N D, .int .i64 q] W fun e w' => e = .returned (.int .i64 (bdI N D q)) ∧ Below W.heap.size W w') := Lib.hid fun q W q0 q1 => boundary_any N D q W h q0 q1
  generalize sc d D N = K at *
  have hm : ∀ m : Int, 0 ≤ m → m ≤ 1048577 → 0 ≤ 4 * m * D ∧ 4 * m * D ≤ 4611686018427387904 := by
    intro m m0 m1
    have a : 0 ≤ 4 * m * D := Int.mul_nonneg (by omega) (by omega)
    have b : 4 * m * D ≤ 4194308 * D := Int.mul_le_mul_of_nonneg_right (by omega) (by omega)
    omega
  obtain ⟨x1, x2⟩ := hm (min (d - bdI N D K) (bdI N D (K + 1) - d)) (by omega) (by omega)
  clear hm
  obtain ⟨W, b, eW, eb, HP⟩ := pair_at w (.int .i64 N) (.int .i64 D) 23
  have hs := Lib.hid HP
  clear HP
  go_enter Try.func113, Try.ntmps113
  go_wp2_with (first | (rw [← eW, ← eb]; clear eW eb; go_at_call 122; go_must (refine (HW.out _).mono ?_; rintro e wa ⟨rfl, ba⟩; have hp := Lib.hid (held_pair hs.out ba); clear hs)))
  have q1 : IntKind.i64.wrap (K + 1) = K + 1 := IntWalk.i64_in _ (by omega)
  have q2 : IntKind.i64.wrap (d - bdI N D K) = d - bdI N D K := IntWalk.i64_in _ (by omega)
  have q3 : IntKind.i64.wrap (bdI N D (K + 1) - d) = bdI N D (K + 1) - d := IntWalk.i64_in _ (by omega)
  go_region_held3 (fun w' => w'.cell? ⟨b, 0, none⟩ = some (.int .i64 N) ∧ w'.cell? ⟨b, 1, none⟩ = some (.int .i64 D) ∧ Below w.heap.size w w' ∧ b < w'.heap.size) (first | exact hp.out | assumption | exact held_pair hp.out (Below.refl _ _).drew | exact held_pair (by assumption) (Below.refl _ _).drew | fail)
    (first | (go_at_call 58; refine (HS.out _ _ (by omega) (by omega)).mono ?_; rintro e5 w5 ⟨rfl, b5⟩; have h5 := held_pair (by assumption) b5))
  rename_i hS9
  have hB9 := Lib.hid hS9
  clear hS9
  have qm : 0 ≤ min (d - bdI N D K) (bdI N D (K + 1) - d) ∧ min (d - bdI N D K) (bdI N D (K + 1) - d) ≤ 1048577 := by omega
  clear q1 q2 q3 HS n1 n2 n3 n4
  generalize min (d - bdI N D K) (bdI N D (K + 1) - d) = M at *
  obtain ⟨qm0, qm1⟩ := qm
  obtain ⟨c0, c1, cB, cl⟩ := hB9.out
  go_wp2
  go_returns
  exact ⟨by rw [HI.out]; rfl, cB⟩

end Go.Proofs.Ytmbeaagpjpphhaa

namespace Go.Proofs.Ytmbeaagpjpphhaa
open Go Go.RowKit Go.Joins
set_option linter.unusedVariables false
set_option linter.unusedSimpArgs false

/-- The error of a bit time. -/
def ckE (N D : Int) : Int := if Sr.validB N D = true then (if N < 4 * D ∨ 1048576 * D < N then 2 else 0) else 1
theorem ck_bt {N D : Int} (h : ckE N D = 0) : Bt N D := by
  unfold ckE at h
  split at h
  · rename_i hv
    obtain ⟨a, b, c, d⟩ := Sr.valid_bd hv
    split at h
    · omega
    · exact ⟨by omega, by omega, by omega, by omega, by omega⟩
  · omega
theorem i64_range {x : Int} (h : -9223372036854775808 ≤ x ∧ x ≤ 9223372036854775807) : -9223372036854775808 ≤ x ∧ x ≤ 9223372036854775807 := h
set_option maxRecDepth 20000 in
set_option maxHeartbeats 2000000 in
theorem bt_any (N D : Int) (w : World) (hN0 : -9223372036854775808 ≤ N) (hN1 : N ≤ 9223372036854775807) (hD0 : -9223372036854775808 ≤ D) (hD1 : D ≤ 9223372036854775807) :
    Calls Try.prog 60 #[rat N D] w fun e w' => e = .returned (.int .i64 (ckE N D)) ∧ Below w.heap.size w w' := by
  have HC : Hid (ckE N D = if Sr.validB N D = true then (if N < 4 * D ∨ 1048576 * D < N then 2 else 0) else 1) := Lib.hid rfl
  have HV : Hid (∀ W, Calls Try.prog 94 #[rat N D] W fun e w' => e = .returned (.bool (Sr.validB N D)) ∧ Below W.heap.size W w') := Lib.hid fun W => Sr.valid_any N D W hN0 hN1 hD0 hD1
  cases v : Sr.validB N D
  · rw [v] at HV HC
    have HC' : Hid (ckE N D = 1) := Lib.hid (by rw [HC.out]; simp)
    clear HC v
    go_enter Try.func60, Try.ntmps60
    go_wp2_with (go_at_call 94; refine (HV.out _).mono ?_; rintro e wa ⟨rfl, ba⟩)
    go_returns
    exact ⟨ret_i HC'.out.symm, ((Below.refl _ _).alloc (Nat.le_refl _) _).trans (ba.mono (by simp [World.size_alloc]))⟩
  · obtain ⟨p1, p2, p3, p4⟩ := Sr.valid_bd v
    have HM : Hid (∀ q W, 1 ≤ q → q ≤ 1073741824 → Calls Try.prog 95 #[rat N D, rat q 1] W fun e w' => e = .returned (.int .i64 (Sr.cmpI N (q * D))) ∧ Below W.heap.size W w') := Lib.hid fun q W q0 q1 => (Sr.cmp_any N D q 1 W hN0 hN1 hD0 hD1 (by omega) (by omega) (by omega) (by omega)).mono fun e w' ⟨h, b⟩ => ⟨by
      rw [h, v, show Sr.validB q 1 = true from decide_eq_true ⟨by omega, by omega, by omega, by omega, by simp⟩, Int.mul_one]; rfl, b⟩
    rw [v] at HV HC
    clear v
    by_cases h4 : N < 4 * D
    · have HC' : Hid (ckE N D = 2) := Lib.hid (by rw [HC.out, if_pos rfl, if_pos (Or.inl h4)])
      have x1 : Sr.cmpI N (4 * D) = -1 := by unfold Sr.cmpI; rw [if_pos h4]
      clear HC
      go_enter Try.func60, Try.ntmps60
      go_wp2_with (first | (go_at_call 94; refine (HV.out _).mono ?_; rintro e wa ⟨rfl, ba⟩; obtain ⟨a0, a1, asz⟩ := Sr.one2 ba) | (go_at_call 95; refine (HM.out _ _ (by omega) (by omega)).mono ?_; rintro e wb ⟨rfl, bb⟩; have bb' := ba.trans (bb.mono ba.size); obtain ⟨b0, b1, bsz⟩ := Sr.one2 bb'; rw [x1]))
      go_returns
      exact ⟨ret_i HC'.out.symm, ((Below.refl _ _).alloc (Nat.le_refl _) _).trans (bb'.mono (by simp [World.size_alloc]))⟩
    · have x1 : Sr.cmpI N (4 * D) = if N > 4 * D then 1 else 0 := by unfold Sr.cmpI; rw [if_neg h4]
      have x2 : ∃ c : Int, Sr.cmpI N (4 * D) = c ∧ 0 ≤ c := ⟨_, x1, by split <;> omega⟩
      obtain ⟨c, x3, x4⟩ := x2
      clear x1
      by_cases h5 : 1048576 * D < N
      · have HC' : Hid (ckE N D = 2) := Lib.hid (by rw [HC.out, if_pos rfl, if_pos (Or.inr h5)])
        have x5 : Sr.cmpI N (1048576 * D) = 1 := by unfold Sr.cmpI; rw [if_neg (by omega), if_pos h5]
        clear HC
        go_enter Try.func60, Try.ntmps60
        go_wp2_with (first | (go_at_call 94; refine (HV.out _).mono ?_; rintro e wa ⟨rfl, ba⟩; obtain ⟨a0, a1, asz⟩ := Sr.one2 ba) | (go_at_call 95; refine (HM.out _ _ (by omega) (by omega)).mono ?_; rintro e wc ⟨rfl, bc⟩; have bc' := bb'.trans (bc.mono bb'.size); rw [x5]) | (go_at_call 95; refine (HM.out _ _ (by omega) (by omega)).mono ?_; rintro e wb ⟨rfl, bb⟩; have bb' := ba.trans (bb.mono ba.size); obtain ⟨b0, b1, bsz⟩ := Sr.one2 bb'; rw [x3]))
        go_returns
        exact ⟨ret_i HC'.out.symm, ((Below.refl _ _).alloc (Nat.le_refl _) _).trans (bc'.mono (by simp [World.size_alloc]))⟩
      · have HC' : Hid (ckE N D = 0) := Lib.hid (by rw [HC.out, if_pos rfl, if_neg (by omega)])
        have x5 : Sr.cmpI N (1048576 * D) = if N < 1048576 * D then -1 else 0 := by unfold Sr.cmpI; rw [if_neg (show ¬ N > 1048576 * D by omega)]
        have x6 : ∃ c : Int, Sr.cmpI N (1048576 * D) = c ∧ c ≤ 0 := ⟨_, x5, by split <;> omega⟩
        obtain ⟨c2, x7, x8⟩ := x6
        clear HC x5
        go_enter Try.func60, Try.ntmps60
        go_wp2_with (first | (go_at_call 94; refine (HV.out _).mono ?_; rintro e wa ⟨rfl, ba⟩; obtain ⟨a0, a1, asz⟩ := Sr.one2 ba) | (go_at_call 95; refine (HM.out _ _ (by omega) (by omega)).mono ?_; rintro e wc ⟨rfl, bc⟩; have bc' := bb'.trans (bc.mono bb'.size); rw [x7]) | (go_at_call 95; refine (HM.out _ _ (by omega) (by omega)).mono ?_; rintro e wb ⟨rfl, bb⟩; have bb' := ba.trans (bb.mono ba.size); obtain ⟨b0, b1, bsz⟩ := Sr.one2 bb'; rw [x3]))
        go_returns
        exact ⟨ret_i HC'.out.symm, ((Below.refl _ _).alloc (Nat.le_refl _) _).trans (bc'.mono (by simp [World.size_alloc]))⟩

set_option maxRecDepth 20000 in
set_option maxHeartbeats 2000000 in
theorem refCheck_any (N D : Int) (w : World) (hN0 : -9223372036854775808 ≤ N) (hN1 : N ≤ 9223372036854775807) (hD0 : -9223372036854775808 ≤ D) (hD1 : D ≤ 9223372036854775807) :
    Calls Try.prog 19 #[rat N D] w fun e w' => e = .returned (.int .i64 (ckE N D)) ∧ Below w.heap.size w w' := by
  have HC : Hid (ckE N D = if Sr.validB N D = true then (if N < 4 * D ∨ 1048576 * D < N then 2 else 0) else 1) := Lib.hid rfl
  have HV : Hid (∀ W, Calls Try.prog 61 #[rat N D] W fun e w' => e = .returned (.bool (Sr.validB N D)) ∧ Below W.heap.size W w') := Lib.hid fun W => Sr.rvalid_any N D W hN0 hN1 hD0 hD1
  cases v : Sr.validB N D
  · rw [v] at HV HC
    have HC' : Hid (ckE N D = 1) := Lib.hid (by rw [HC.out]; simp)
    clear HC v
    go_enter Try.func19, Try.ntmps19
    go_wp2_with (go_at_call 61; refine (HV.out _).mono ?_; rintro e wa ⟨rfl, ba⟩)
    go_returns
    exact ⟨ret_i HC'.out.symm, ((Below.refl _ _).alloc (Nat.le_refl _) _).trans (ba.mono (by simp [World.size_alloc]))⟩
  · obtain ⟨p1, p2, p3, p4⟩ := Sr.valid_bd v
    rw [v] at HV HC
    clear v
    by_cases h4 : N < 4 * D
    · have HC' : Hid (ckE N D = 2) := Lib.hid (by rw [HC.out, if_pos rfl, if_pos (Or.inl h4)])
      clear HC
      go_enter Try.func19, Try.ntmps19
      go_wp2_with (go_at_call 61; refine (HV.out _).mono ?_; rintro e wa ⟨rfl, ba⟩; obtain ⟨a0, a1, asz⟩ := Sr.one2 ba)
      go_returns
      exact ⟨ret_i HC'.out.symm, ((Below.refl _ _).alloc (Nat.le_refl _) _).trans (ba.mono (by simp [World.size_alloc]))⟩
    · by_cases h5 : 1048576 * D < N
      · have HC' : Hid (ckE N D = 2) := Lib.hid (by rw [HC.out, if_pos rfl, if_pos (Or.inr h5)])
        clear HC
        go_enter Try.func19, Try.ntmps19
        go_wp2_with (go_at_call 61; refine (HV.out _).mono ?_; rintro e wa ⟨rfl, ba⟩; obtain ⟨a0, a1, asz⟩ := Sr.one2 ba)
        go_returns
        exact ⟨ret_i HC'.out.symm, ((Below.refl _ _).alloc (Nat.le_refl _) _).trans (ba.mono (by simp [World.size_alloc]))⟩
      · have HC' : Hid (ckE N D = 0) := Lib.hid (by rw [HC.out, if_pos rfl, if_neg (by omega)])
        clear HC
        go_enter Try.func19, Try.ntmps19
        go_wp2_with (go_at_call 61; refine (HV.out _).mono ?_; rintro e wa ⟨rfl, ba⟩; obtain ⟨a0, a1, asz⟩ := Sr.one2 ba)
        go_returns
        exact ⟨ret_i HC'.out.symm, ((Below.refl _ _).alloc (Nat.le_refl _) _).trans (ba.mono (by simp [World.size_alloc]))⟩

set_option maxRecDepth 20000 in
set_option maxHeartbeats 2000000 in
theorem check_any (N D : Int) (w : World) (hN0 : -9223372036854775808 ≤ N) (hN1 : N ≤ 9223372036854775807) (hD0 : -9223372036854775808 ≤ D) (hD1 : D ≤ 9223372036854775807) :
    Calls Try.prog 18 #[rat N D] w fun e w' => e = .returned (.int .i64 (ckE N D)) ∧ Below w.heap.size w w' := by
  have HV := Lib.hid (fun W => bt_any N D W hN0 hN1 hD0 hD1)
  go_enter Try.func18, Try.ntmps18
  go_wp2_with (go_at_call 60; refine (HV.out _).mono ?_; rintro e wa ⟨rfl, ba⟩)
  go_returns
  exact ⟨rfl, ((Below.refl _ _).alloc (Nat.le_refl _) _).trans (ba.mono (by simp [World.size_alloc]))⟩

end Go.Proofs.Ytmbeaagpjpphhaa

namespace Go.Proofs.Ytmbeaagpjpphhaa
open Go Go.RowKit Go.Joins
set_option linter.unusedVariables false
set_option linter.unusedSimpArgs false

/-- The cells of a machine; its state holds nothing else. -/
abbrev macA (N D ph at' fr pv : Int) : Array Value := #[.int .i64 N, .int .i64 D, .int .i64 ph, .int .i64 at', .int .i64 fr, .int .i64 0, .int .i64 0, .int .i64 0, .int .i64 pv, .string ⟨#[]⟩]
abbrev MacAt (w : World) (b : Nat) (N D ph at' fr pv : Int) : Prop := RowAt w b 88 (macA N D ph at' fr pv)
/-- The cells that a walk reads. -/
def Mcs (w : World) (b : Nat) (N D ph at' fr pv : Int) : Prop := w.cell? ⟨b, 0, none⟩ = some (.int .i64 N) ∧ w.cell? ⟨b, 1, none⟩ = some (.int .i64 D) ∧ w.cell? ⟨b, 2, none⟩ = some (.int .i64 ph) ∧ w.cell? ⟨b, 3, none⟩ = some (.int .i64 at') ∧ w.cell? ⟨b, 4, none⟩ = some (.int .i64 fr) ∧ w.cell? ⟨b, 8, none⟩ = some (.int .i64 pv) ∧ b < w.heap.size
theorem MacAt.cells {w : World} {b : Nat} {N D ph at' fr pv : Int} (h : MacAt w b N D ph at' fr pv) : w.cell? ⟨b, 0, none⟩ = some (.int .i64 N) ∧ w.cell? ⟨b, 1, none⟩ = some (.int .i64 D) ∧ w.cell? ⟨b, 2, none⟩ = some (.int .i64 ph) ∧ w.cell? ⟨b, 3, none⟩ = some (.int .i64 at') ∧ w.cell? ⟨b, 4, none⟩ = some (.int .i64 fr) ∧ w.cell? ⟨b, 8, none⟩ = some (.int .i64 pv) ∧ b < w.heap.size := ⟨h.cell 0, h.cell 1, h.cell 2, h.cell 3, h.cell 4, h.cell 8, h.lt⟩
theorem held_mac {w0 w w' : World} {b : Nat} {N D ph fr pv : Int} (h : w.cell? ⟨b, 0, none⟩ = some (.int .i64 N) ∧ w.cell? ⟨b, 1, none⟩ = some (.int .i64 D) ∧ w.cell? ⟨b, 2, none⟩ = some (.int .i64 ph) ∧ w.cell? ⟨b, 4, none⟩ = some (.int .i64 fr) ∧ w.cell? ⟨b, 8, none⟩ = some (.int .i64 pv) ∧ b < w.heap.size ∧ Below w0.heap.size w0 w) (hb : Below w.heap.size w w') : w'.cell? ⟨b, 0, none⟩ = some (.int .i64 N) ∧ w'.cell? ⟨b, 1, none⟩ = some (.int .i64 D) ∧ w'.cell? ⟨b, 2, none⟩ = some (.int .i64 ph) ∧ w'.cell? ⟨b, 4, none⟩ = some (.int .i64 fr) ∧ w'.cell? ⟨b, 8, none⟩ = some (.int .i64 pv) ∧ b < w'.heap.size ∧ Below w0.heap.size w0 w' := by
  obtain ⟨a0, a1, a2, a4, a8, l, B⟩ := h
  have hs := hb.size
  exact ⟨(hb.cell l).trans a0, (hb.cell l).trans a1, (hb.cell l).trans a2, (hb.cell l).trans a4, (hb.cell l).trans a8, by omega, B.trans (hb.mono B.size)⟩

theorem heldMS {w0 w w' : World} {b q : Nat} {N D ph fr pv : Int} (h : w.cell? ⟨b, 0, none⟩ = some (.int .i64 N) ∧ w.cell? ⟨b, 1, none⟩ = some (.int .i64 D) ∧ w.cell? ⟨b, 2, none⟩ = some (.int .i64 ph) ∧ w.cell? ⟨b, 4, none⟩ = some (.int .i64 fr) ∧ w.cell? ⟨b, 8, none⟩ = some (.int .i64 pv) ∧ b < w.heap.size ∧ Below w0.heap.size w0 w) (hk : ∀ k, k ≠ q → w'.heap[k]? = w.heap[k]?) (hb : Below q w w') (h1 : b < q) (h2 : w0.heap.size ≤ q) : w'.cell? ⟨b, 0, none⟩ = some (.int .i64 N) ∧ w'.cell? ⟨b, 1, none⟩ = some (.int .i64 D) ∧ w'.cell? ⟨b, 2, none⟩ = some (.int .i64 ph) ∧ w'.cell? ⟨b, 4, none⟩ = some (.int .i64 fr) ∧ w'.cell? ⟨b, 8, none⟩ = some (.int .i64 pv) ∧ b < w'.heap.size ∧ Below w0.heap.size w0 w' := by
  obtain ⟨a0, a1, a2, a4, a8, l, B⟩ := h
  have hs := hb.size
  have e : ∀ j, w'.cell? ⟨b, j, none⟩ = w.cell? ⟨b, j, none⟩ := fun j => World.cell?_of_block (hk b (by omega))
  exact ⟨(e 0).trans a0, (e 1).trans a1, (e 2).trans a2, (e 4).trans a4, (e 8).trans a8, by omega, B.trans (hb.mono h2)⟩
theorem heldMset {w0 w : World} {b q j : Nat} {v : Value} {N D ph fr pv : Int} (h : w.cell? ⟨b, 0, none⟩ = some (.int .i64 N) ∧ w.cell? ⟨b, 1, none⟩ = some (.int .i64 D) ∧ w.cell? ⟨b, 2, none⟩ = some (.int .i64 ph) ∧ w.cell? ⟨b, 4, none⟩ = some (.int .i64 fr) ∧ w.cell? ⟨b, 8, none⟩ = some (.int .i64 pv) ∧ b < w.heap.size ∧ Below w0.heap.size w0 w) (h1 : b < q) (h2 : w0.heap.size ≤ q) : (w.setCell ⟨q, j, none⟩ v).cell? ⟨b, 0, none⟩ = some (.int .i64 N) ∧ (w.setCell ⟨q, j, none⟩ v).cell? ⟨b, 1, none⟩ = some (.int .i64 D) ∧ (w.setCell ⟨q, j, none⟩ v).cell? ⟨b, 2, none⟩ = some (.int .i64 ph) ∧ (w.setCell ⟨q, j, none⟩ v).cell? ⟨b, 4, none⟩ = some (.int .i64 fr) ∧ (w.setCell ⟨q, j, none⟩ v).cell? ⟨b, 8, none⟩ = some (.int .i64 pv) ∧ b < (w.setCell ⟨q, j, none⟩ v).heap.size ∧ Below w0.heap.size w0 (w.setCell ⟨q, j, none⟩ v) := by
  refine heldMS h (fun k hk => ?_) ((Below.refl _ _).setCell (Nat.le_refl _) _) h1 h2
  exact Below.heap_setCell _ _ _ _ (fun e => hk e)
theorem RowAt.drew1 {w : World} {b : Nat} {T : TypeId} {cs : Array Value} (h : RowAt w b T cs) : RowAt w.drew b T cs := h
theorem row_seven' {w : World} {b : Nat} {T : TypeId} {x0 x1 x2 x3 x4 x5 x6 : Value} (h : RowAt w b T #[x0, x1, x2, x3, x4, x5, x6]) : (w.cell? ⟨b, 0, none⟩ = some x0 ∧ w.cell? ⟨b, 1, none⟩ = some x1 ∧ w.cell? ⟨b, 2, none⟩ = some x2 ∧ w.cell? ⟨b, 3, none⟩ = some x3 ∧ w.cell? ⟨b, 4, none⟩ = some x4 ∧ w.cell? ⟨b, 5, none⟩ = some x5 ∧ w.cell? ⟨b, 6, none⟩ = some x6) ∧ ∀ j, w.frozen? ⟨b, j, none⟩ = false :=
  ⟨⟨h.cell 0, h.cell 1, h.cell 2, h.cell 3, h.cell 4, h.cell 5, h.cell 6⟩, fun j => h.frozen j⟩

theorem set7 {w : World} {q : Nat} {T : TypeId} {z0 z1 z2 z3 z4 z5 z6 x0 x1 x2 x3 x4 x5 x6 : Value} (h : RowAt w q T #[z0, z1, z2, z3, z4, z5, z6]) : RowAt (((((((w.setCell ⟨q, 0, none⟩ x0).setCell ⟨q, 1, none⟩ x1).setCell ⟨q, 2, none⟩ x2).setCell ⟨q, 3, none⟩ x3).setCell ⟨q, 4, none⟩ x4).setCell ⟨q, 5, none⟩ x5).setCell ⟨q, 6, none⟩ x6) q T #[x0, x1, x2, x3, x4, x5, x6] := by
  simpa using ((((((h.set 0 x0).set 1 x1).set 2 x2).set 3 x3).set 4 x4).set 5 x5).set 6 x6

theorem new_of {B : Nat} {W w : World} {T : TypeId} {cs : Array Value} (_ : Below B W (w.alloc (.cells cs T))) : RowAt (w.alloc (.cells cs T)) w.heap.size T cs := RowAt.new w T cs

theorem ne_of_row {X W : World} {q b4 : Nat} {T : TypeId} {cs : Array Value} (_ : RowAt X q T cs) (h1 : b4 < W.heap.size) (h2 : W.heap.size ≤ q) : q ≠ b4 := by omega

/-- The bit k of an anchor. -/
def bitE (N D fr pv k : Int) (x : Bool) : Ev := ⟨2, fr + bdI N D k, min (fr + bdI N D (k + 1)) 1099511627776, pv, 0, [], if x then 6 else 0⟩
def bitsE (N D fr pv : Int) (x : Bool) (k : Int) (n : Nat) : List Ev := (List.range n).map fun i : Nat => bitE N D fr pv (k + (i : Int)) (x && decide (i = 0))
theorem bitsE_snoc (N D fr pv : Int) (x : Bool) (k : Int) (n : Nat) : bitsE N D fr pv x k (n + 1) = bitsE N D fr pv x k n ++ [bitE N D fr pv (k + (n : Int)) (x && decide (n = 0))] := by
  unfold bitsE; rw [List.range_succ, List.map_append]; rfl
theorem bitsE_len (N D fr pv : Int) (x : Bool) (k : Int) (n : Nat) : (bitsE N D fr pv x k n).length = n := by simp [bitsE]

end Go.Proofs.Ytmbeaagpjpphhaa

namespace Go.Proofs.Ytmbeaagpjpphhaa
open Go Go.RowKit Go.Joins
set_option linter.unusedVariables false
set_option linter.unusedSimpArgs false

/-- A configuration; the program's state; the specification's. -/
abbrev manA (N D : Int) (z : Bool) : Array Value := #[.int .i64 N, .int .i64 D, .bool z]
abbrev mnA (y e m p : Int) : Array Value := #[.int .i64 y, .int .i64 e, .int .i64 m, .int .i64 0, .int .i64 0, .int .i64 0, .int .i64 p, .string ⟨#[]⟩]
abbrev rnA (q e m c p : Int) : Array Value := #[.int .i64 q, .int .i64 e, .int .i64 m, .int .i64 c, .int .i64 0, .int .i64 0, .int .i64 p, .string ⟨#[]⟩]
/-- The specification's phase. -/
def phI (e : Int) : Int := if e = 0 then 0 else 1
theorem ph_iff (e : Int) : phI e = 0 ↔ e = 0 := by unfold phI; split <;> simp_all

theorem man_at (w : World) (N D : Int) (z : Bool) : ∃ W b, W = w.alloc (.cells (manA N D z) 59) ∧ b = w.heap.size ∧ W.cell? ⟨b, 0, none⟩ = some (.int .i64 N) ∧ W.cell? ⟨b, 1, none⟩ = some (.int .i64 D) ∧ W.cell? ⟨b, 2, none⟩ = some (.bool z) ∧ b < W.heap.size ∧ Below w.heap.size w W := by
  refine ⟨_, _, rfl, rfl, ?_, ?_, ?_, by simp [World.size_alloc], ba w _⟩
  all_goals go_simp

set_option maxRecDepth 20000 in
set_option maxHeartbeats 2000000 in
theorem manCheck_any (N D : Int) (z : Bool) (w : World) (hN0 : -9223372036854775808 ≤ N) (hN1 : N ≤ 9223372036854775807) (hD0 : -9223372036854775808 ≤ D) (hD1 : D ≤ 9223372036854775807) :
    Calls Try.prog 34 #[.agg (manA N D z)] w fun e w' => e = .returned (.int .i64 (ckE N D)) ∧ Below w.heap.size w w' := by
  have HV := Lib.hid (fun W => bt_any N D W hN0 hN1 hD0 hD1)
  go_enter Try.func34, Try.ntmps34
  go_wp2_with (go_at_call 60; refine (HV.out _).mono ?_; rintro e wa ⟨rfl, ba⟩)
  go_returns
  exact ⟨rfl, ((Below.refl _ _).alloc (Nat.le_refl _) _).trans (ba.mono (by simp [World.size_alloc]))⟩

theorem signal_any (N D : Int) (z : Bool) (v : Int) (w : World) (hv : v = 0 ∨ v = 1) :
    Calls Try.prog 76 #[.agg (manA N D z), .int .i64 v] w fun e w' => e = .returned (.int .i64 (sgI z v)) ∧ Below w.heap.size w w' := by
  have q1 : IntKind.i64.wrap (1 - v) = 1 - v := IntWalk.i64_in _ (by omega)
  cases z
  · go_enter Try.func76, Try.ntmps76
    go_wp2
    go_returns
    exact ⟨rfl, ba w _⟩
  · go_enter Try.func76, Try.ntmps76
    go_wp2
    go_returns
    exact ⟨rfl, ba w _⟩

/-- The least number of ticks that is not less than two bit times. -/
def twI (N D : Int) : Int := (2 * N + D - 1) / D
theorem tw_iff {N D d : Int} (hD : 1 ≤ D) : twI N D ≤ d ↔ 2 * N ≤ d * D := by
  unfold twI
  have e : (d + 1) * D = d * D + D := by rw [Int.add_mul]; omega
  constructor
  · intro h
    have h1 := Int.lt_ediv_add_one_mul_self (2 * N + D - 1) (show 0 < D by omega)
    have h2 : ((2 * N + D - 1) / D + 1) * D ≤ (d + 1) * D := Int.mul_le_mul_of_nonneg_right (by omega) (by omega)
    omega
  · intro h
    have h1 : (2 * N + D - 1) / D < d + 1 := Int.ediv_lt_of_lt_mul (by omega) (by omega)
    omega
theorem two_any (N D : Int) (w : World) (h : Bt N D) :
    Calls Try.prog 105 #[rat N D] w fun e w' => e = .returned (.int .i64 (twI N D)) ∧ Below w.heap.size w w' := by
  obtain ⟨d1, d2, n1, n2, n3⟩ := h
  have a1 : 0 ≤ (2 * N + D - 1) / D := Int.ediv_nonneg (by omega) (by omega)
  have a2 : (2 * N + D - 1) / D ≤ 2 * N + D - 1 := Int.ediv_le_self _ (by omega)
  have HT : Hid (twI N D = (2 * N + D - 1) / D) := Lib.hid rfl
  go_enter Try.func105, Try.ntmps105
  go_wp2
  go_returns
  exact ⟨ret_i HT.out.symm, ba w _⟩

theorem manStart_any (N D : Int) (z : Bool) (w : World) : Calls Try.prog 40 #[.agg (manA N D z)] w fun e w' => e = .returned (.agg (mnA 0 0 0 0)) ∧ Below w.heap.size w w' := by
  go_enter Try.func40, Try.ntmps40
  go_wp2
  go_returns
  exact ⟨rfl, by (repeat' (first | with_reducible exact Below.refl _ _ | with_reducible exact Nat.le_refl _ | with_reducible assumption | with_reducible refine below_drewN ?_ _ | with_reducible refine Below.drew ?_ | with_reducible refine Below.trans ?_ (Below.mono (by assumption) ?_) | with_reducible refine Below.alloc ?_ ?_ _ | with_reducible refine Below.setCell ?_ ?_ _ | with_reducible refine le_setCell ?_ _ _ | with_reducible refine le_alloc ?_ _ | with_reducible refine le_drewN ?_ _ | with_reducible refine le_drew ?_ | with_reducible refine Nat.le_trans ?_ (Below.size (by assumption)) | (simp only [World.size_alloc, World.size_setCell]; omega) | omega))⟩
theorem refManStart_any (N D : Int) (z : Bool) (w : World) : Calls Try.prog 43 #[.agg (manA N D z)] w fun e w' => e = .returned (.agg (rnA 0 0 0 0 0)) ∧ Below w.heap.size w w' := by
  go_enter Try.func43, Try.ntmps43
  go_wp2
  go_returns
  exact ⟨rfl, by (repeat' (first | with_reducible exact Below.refl _ _ | with_reducible exact Nat.le_refl _ | with_reducible assumption | with_reducible refine below_drewN ?_ _ | with_reducible refine Below.drew ?_ | with_reducible refine Below.trans ?_ (Below.mono (by assumption) ?_) | with_reducible refine Below.alloc ?_ ?_ _ | with_reducible refine Below.setCell ?_ ?_ _ | with_reducible refine le_setCell ?_ _ _ | with_reducible refine le_alloc ?_ _ | with_reducible refine le_drewN ?_ _ | with_reducible refine le_drew ?_ | with_reducible refine Nat.le_trans ?_ (Below.size (by assumption)) | (simp only [World.size_alloc, World.size_setCell]; omega) | omega))⟩
theorem manEnd_any (N D : Int) (z : Bool) (S : Array Value) (w : World) : Calls Try.prog 41 #[.agg (manA N D z), .agg S] w fun e w' => e = .returned (.slice none 0 0) ∧ Below w.heap.size w w' := by
  go_enter Try.func41, Try.ntmps41
  go_wp2
  go_returns
  exact ⟨rfl, by (repeat' (first | with_reducible exact Below.refl _ _ | with_reducible exact Nat.le_refl _ | with_reducible assumption | with_reducible refine below_drewN ?_ _ | with_reducible refine Below.drew ?_ | with_reducible refine Below.trans ?_ (Below.mono (by assumption) ?_) | with_reducible refine Below.alloc ?_ ?_ _ | with_reducible refine Below.setCell ?_ ?_ _ | with_reducible refine le_setCell ?_ _ _ | with_reducible refine le_alloc ?_ _ | with_reducible refine le_drewN ?_ _ | with_reducible refine le_drew ?_ | with_reducible refine Nat.le_trans ?_ (Below.size (by assumption)) | (simp only [World.size_alloc, World.size_setCell]; omega) | omega))⟩

end Go.Proofs.Ytmbeaagpjpphhaa

namespace Go.Proofs.Ytmbeaagpjpphhaa
open Go Go.ChangeShapes Go.WideShapes Go.ChangeAt Go.RowKit
set_option linter.unusedVariables false

theorem bounds_i64 {n : Int} (h : (Lit.int .i64 n).wf = true) : -9223372036854775808 ≤ n ∧ n ≤ 9223372036854775807 := by
  simp [Lit.wf] at h
  exact h
theorem arr3m {cs : Array Value} (h : cs.size = 3) : ∃ a b c, cs = #[a, b, c] := by
  obtain ⟨l⟩ := cs
  match l, h with
  | [a, b, c], _ => exact ⟨a, b, c, rfl⟩
theorem arr8 {cs : Array Value} (h : cs.size = 8) : cs = #[cs.getD 0 default, cs.getD 1 default, cs.getD 2 default, cs.getD 3 default, cs.getD 4 default, cs.getD 5 default, cs.getD 6 default, cs.getD 7 default] := by
  obtain ⟨l⟩ := cs
  match l, h with
  | [a, b, c, d, e, f, g, h], _ => rfl
set_option maxRecDepth 100000 in
/-- A configuration among the arguments. -/
theorem open_man {H : Type} {enc : TypeId × Value → H} {W : World} {base b : Nat} {sp : Nat → Bool} {hd : Bool} {v : Value} {d : DataW H} {p : List MemPlace} (hv : Value.okWide Try.prog W .any base 59 v) (h : DataW.Trod enc Try.prog W b sp hd 59 v d p) :
    ∃ (N D : Int) (z : Bool), v = .agg (manA N D z) ∧ (-9223372036854775808 ≤ N ∧ N ≤ 9223372036854775807) ∧ (-9223372036854775808 ≤ D ∧ D ≤ 9223372036854775807) := by
  obtain ⟨cs, rfl, hsz⟩ := okWide_struct Try.underlying59 hv
  obtain ⟨a, c, e, rfl⟩ := arr3m (hsz.trans (by kernel_rfl))
  obtain ⟨fuel, hf⟩ := h
  obtain ⟨y0, y1, n, _, hl, k0, k1⟩ := trod_struct2 Try.underlying59 hf
  obtain ⟨u0, u1, m, _, hl', j0, j1⟩ := trod_struct2 Try.underlying23 k0
  obtain ⟨N, e0, _, w0⟩ := DataW.trod_int Try.underlying3 j0
  obtain ⟨D, e1, _, w1⟩ := DataW.trod_int Try.underlying3 j1
  obtain ⟨z, e2, _⟩ := DataW.trod_bool Try.underlying4 k1
  have f0 : [a] = [.int .i64 N] := e0
  have f1 : [c] = [.int .i64 D] := e1
  have f2 : [e] = [.bool z] := e2
  simp only [List.cons.injEq, and_true] at f0 f1 f2
  subst f0 f1 f2
  exact ⟨N, D, z, rfl, bounds_i64 w0, bounds_i64 w1⟩

set_option maxRecDepth 100000 in
/-- A state among the arguments. -/
theorem open_state {H : Type} {enc : TypeId × Value → H} {W : World} {base b : Nat} {sp : Nat → Bool} {hd : Bool} {v : Value} {d : DataW H} {p : List MemPlace} (hv : Value.okWide Try.prog W .any base 39 v) (h : DataW.Trod enc Try.prog W b sp hd 39 v d p) :
    ∃ (x0 x1 x2 x3 x4 x5 x6 : Int) (s : ByteArray), v = .agg #[.int .i64 x0, .int .i64 x1, .int .i64 x2, .int .i64 x3, .int .i64 x4, .int .i64 x5, .int .i64 x6, .string s] := by
  obtain ⟨cs, n, ys, rfl, hsz, rfl, hx⟩ := open_struct2 Try.underlying39 hv h
  have h8 : cs.size = 8 := hsz.trans (by kernel_rfl)
  rw [arr8 h8]
  obtain ⟨y0, q0, l0, k0⟩ := hx 0 _ rfl (by kernel_rfl) (by show 0 < cs.size; omega)
  obtain ⟨y1, q1, l1, k1⟩ := hx 1 _ rfl (by kernel_rfl) (by show 1 < cs.size; omega)
  obtain ⟨y2, q2, l2, k2⟩ := hx 2 _ rfl (by kernel_rfl) (by show 2 < cs.size; omega)
  obtain ⟨y3, q3, l3, k3⟩ := hx 3 _ rfl (by kernel_rfl) (by show 3 < cs.size; omega)
  obtain ⟨y4, q4, l4, k4⟩ := hx 4 _ rfl (by kernel_rfl) (by show 4 < cs.size; omega)
  obtain ⟨y5, q5, l5, k5⟩ := hx 5 _ rfl (by kernel_rfl) (by show 5 < cs.size; omega)
  obtain ⟨y6, q6, l6, k6⟩ := hx 6 _ rfl (by kernel_rfl) (by show 6 < cs.size; omega)
  obtain ⟨y7, q7, l7, k7⟩ := hx 7 _ rfl (by kernel_rfl) (by show 7 < cs.size; omega)
  obtain ⟨x0, e0, _, _⟩ := DataW.trod_int Try.underlying3 k0
  obtain ⟨x1, e1, _, _⟩ := DataW.trod_int Try.underlying3 k1
  obtain ⟨x2, e2, _, _⟩ := DataW.trod_int Try.underlying3 k2
  obtain ⟨x3, e3, _, _⟩ := DataW.trod_int Try.underlying3 k3
  obtain ⟨x4, e4, _, _⟩ := DataW.trod_int Try.underlying3 k4
  obtain ⟨x5, e5, _, _⟩ := DataW.trod_int Try.underlying3 k5
  obtain ⟨x6, e6, _, _⟩ := DataW.trod_int Try.underlying3 k6
  obtain ⟨s, e7, _, _⟩ := DataW.trod_string Try.underlying9 k7
  simp only [List.cons.injEq, and_true] at e0 e1 e2 e3 e4 e5 e6 e7
  refine ⟨x0, x1, x2, x3, x4, x5, x6, s, ?_⟩
  have f0 : cs.getD 0 default = .int .i64 x0 := e0
  have f1 : cs.getD 1 default = .int .i64 x1 := e1
  have f2 : cs.getD 2 default = .int .i64 x2 := e2
  have f3 : cs.getD 3 default = .int .i64 x3 := e3
  have f4 : cs.getD 4 default = .int .i64 x4 := e4
  have f5 : cs.getD 5 default = .int .i64 x5 := e5
  have f6 : cs.getD 6 default = .int .i64 x6 := e6
  have f7 : cs.getD 7 default = .string s := e7
  rw [f0, f1, f2, f3, f4, f5, f6, f7]

end Go.Proofs.Ytmbeaagpjpphhaa
