/-
  The walks of scaled, boundary, sample, wholeBits, and of the specification's mul, Boundary, Sample.
-/
import Derived.Test.YtmbeaagpjpphhaaZ10
import Derived.Test.YtmbeaagpjpphhaaZ09
import Derived.Deep.QuietTactic
import Derived.BigQuiet
namespace Go.Proofs.Ytmbeaagpjpphhaa
open Go Go.RowKit Go.Joins
set_option linter.unusedVariables false
set_option linter.unusedSimpArgs false

theorem ret_i {k : IntKind} {a b : Int} (h : a = b) : Ending.returned (.int k a) = .returned (.int k b) := by rw [h]
theorem sc_walk {n N D : Int} (h0 : 0 ≤ n) (hN0 : 0 ≤ N) (hN : N ≤ 2147483648) (hD0 : 1 ≤ D) (hD : D ≤ 2147483648) (hs : sc n N D ≤ 4611686018427387904) :
    0 ≤ n / D ∧ 0 ≤ n % D ∧ n % D < D ∧ 0 ≤ n / D * N ∧ n / D * N ≤ 4611686018427387904 ∧ 0 ≤ n % D * N ∧ n % D * N ≤ 4611686018427387904 ∧ 0 ≤ n % D * N / D ∧ n % D * N / D ≤ 4611686018427387904 := by
  have a1 : 0 ≤ n / D := Int.ediv_nonneg h0 (by omega)
  have a2 : 0 ≤ n % D := Int.emod_nonneg n (by omega)
  have a3 : n % D < D := Int.emod_lt_of_pos n (by omega)
  have a4 : 0 ≤ n / D * N := Int.mul_nonneg a1 hN0
  have a5 : 0 ≤ n % D * N := Int.mul_nonneg a2 hN0
  have a6 : n % D * N ≤ 2147483648 * N := Int.mul_le_mul_of_nonneg_right (by omega) hN0
  have a7 : 0 ≤ n % D * N / D := Int.ediv_nonneg a5 (by omega)
  have a8 := sc_parts n N D hD0
  exact ⟨a1, a2, a3, a4, by omega, a5, by omega, a7, by omega⟩

set_option maxHeartbeats 1000000 in
theorem scaled_any (n N D : Int) (w : World) (h0 : 0 ≤ n) (h1 : n ≤ 9223372036854775807) (hN0 : 0 ≤ N) (hN : N ≤ 2147483648) (hD0 : 1 ≤ D) (hD : D ≤ 2147483648) (hs : sc n N D ≤ 4611686018427387904) :
    Calls Try.prog 93 #[.int .i64 n, .int .i64 N, .int .i64 D] w fun e w' => e = .returned (.int .i64 (sc n N D)) ∧ Below w.heap.size w w' := by
  obtain ⟨a1, a2, a3, a4, a5, a6, a7, a8, a9⟩ := sc_walk h0 hN0 hN hD0 hD hs
  have HP := Lib.hid (sc_parts n N D hD0)
  go_enter Try.func93, Try.ntmps93
  go_wp2
  go_quiet (fail)
  go_wp2
  go_returns
  exact ⟨ret_i (by rw [HP.out]; exact IntWalk.wrap64_in _ (by have := sc_nn hD0 h0 hN0; omega)), below_drewN (Below.refl _ _) _⟩
set_option maxHeartbeats 1000000 in
theorem mul_any (n N D : Int) (w : World) (h0 : 0 ≤ n) (h1 : n ≤ 9223372036854775807) (hN0 : 0 ≤ N) (hN : N ≤ 2147483648) (hD0 : 1 ≤ D) (hD : D ≤ 2147483648) (hs : sc n N D ≤ 4611686018427387904) :
    Calls Try.prog 101 #[.int .i64 n, .int .i64 N, .int .i64 D] w fun e w' => e = .returned (.int .i64 (sc n N D)) ∧ Below w.heap.size w w' := by
  obtain ⟨a1, a2, a3, a4, a5, a6, a7, a8, a9⟩ := sc_walk h0 hN0 hN hD0 hD hs
  have HP := Lib.hid (sc_parts n N D hD0)
  go_enter Try.func101, Try.ntmps101
  go_wp2
  go_quiet (fail)
  go_wp2
  go_returns
  exact ⟨ret_i (by rw [HP.out]; exact IntWalk.wrap64_in _ (by have := sc_nn hD0 h0 hN0; omega)), below_drewN (Below.refl _ _) _⟩

abbrev rat (N D : Int) : Value := .agg #[.int .i64 N, .int .i64 D]
theorem pair_at (w : World) (x0 x1 : Value) (T : TypeId) : ∃ W0 b0, W0 = w.alloc (.cells #[x0, x1] T) ∧ b0 = w.heap.size ∧ W0.cell? ⟨b0, 0, none⟩ = some x0 ∧ W0.cell? ⟨b0, 1, none⟩ = some x1 ∧ Below w.heap.size w W0 ∧ b0 < W0.heap.size := by
  refine ⟨_, _, rfl, rfl, ?_, ?_, (Below.refl _ _).alloc (Nat.le_refl _) _, by simp [World.size_alloc]⟩
  all_goals go_simp
theorem scale_ok {N D : Int} (h : Bt N D) {k : Int} (h0 : 0 ≤ k) (h1 : k ≤ 1099511627776) : bdI N D k ≤ 4611686018427387904 ∧ smI N D k ≤ 4611686018427387904 := by
  obtain ⟨d1, d2, n1, n2, n3⟩ := h
  have m : k * N ≤ k * (1048576 * D) := Int.mul_le_mul_of_nonneg_left n3 h0
  have e : k * (1048576 * D) = 1048576 * (k * D) := Int.mul_left_comm _ _ _
  have q : k * D ≤ 1099511627776 * D := Int.mul_le_mul_of_nonneg_right h1 (by omega)
  constructor
  · refine sc_le d1 ?_; rw [Int.add_mul]; omega
  · refine sc_le (by omega) ?_
    rw [Int.add_mul, Int.mul_assoc, Int.add_mul]; omega

set_option maxHeartbeats 1000000 in
theorem boundary_any (N D k : Int) (w : World) (h : Bt N D) (h0 : 0 ≤ k) (h1 : k ≤ 1099511627776) :
    Calls Try.prog 58 #[rat N D, .int .i64 k] w fun e w' => e = .returned (.int .i64 (bdI N D k)) ∧ Below w.heap.size w w' := by
  have HS := Lib.hid (scale_ok h h0 h1)
  have HB := Lib.hid h
  have e1 := h.d1; have e2 := h.d2; have e3 := h.n1; have e4 := h.n2
  go_enter Try.func58, Try.ntmps58
  go_wp2_with (go_at_call 93; refine (scaled_any _ _ _ _ h0 (by omega) (by omega) (by omega) (by omega) (by omega) HS.out.1).mono ?_; rintro e wa ⟨rfl, ba⟩)
  go_returns
  exact ⟨rfl, by exact ((Below.refl _ _).alloc (Nat.le_refl _) _).trans (ba.mono (by simp [World.size_alloc]))⟩
set_option maxHeartbeats 1000000 in
theorem refBoundary_any (N D k : Int) (w : World) (h : Bt N D) (h0 : 0 ≤ k) (h1 : k ≤ 1099511627776) :
    Calls Try.prog 66 #[rat N D, .int .i64 k] w fun e w' => e = .returned (.int .i64 (bdI N D k)) ∧ Below w.heap.size w w' := by
  have HS := Lib.hid (scale_ok h h0 h1)
  have HB := Lib.hid h
  have e1 := h.d1; have e2 := h.d2; have e3 := h.n1; have e4 := h.n2
  go_enter Try.func66, Try.ntmps66
  go_wp2_with (go_at_call 101; refine (mul_any _ _ _ _ h0 (by omega) (by omega) (by omega) (by omega) (by omega) HS.out.1).mono ?_; rintro e wa ⟨rfl, ba⟩)
  go_returns
  exact ⟨rfl, by exact ((Below.refl _ _).alloc (Nat.le_refl _) _).trans (ba.mono (by simp [World.size_alloc]))⟩
set_option maxHeartbeats 1000000 in
theorem sample_any (N D k : Int) (w : World) (h : Bt N D) (h0 : 0 ≤ k) (h1 : k ≤ 1099511627776) :
    Calls Try.prog 106 #[rat N D, .int .i64 k] w fun e w' => e = .returned (.int .i64 (smI N D k)) ∧ Below w.heap.size w w' := by
  have HS := Lib.hid (scale_ok h h0 h1)
  have HB := Lib.hid h
  have e1 := h.d1; have e2 := h.d2; have e3 := h.n1; have e4 := h.n2
  go_enter Try.func106, Try.ntmps106
  go_wp2_with (go_at_call 93; refine (scaled_any _ _ _ _ (by omega) (by omega) (by omega) (by omega) (by omega) (by omega) HS.out.2).mono ?_; rintro e wa ⟨rfl, ba⟩)
  go_returns
  exact ⟨rfl, by exact ((Below.refl _ _).alloc (Nat.le_refl _) _).trans (ba.mono (by simp [World.size_alloc]))⟩
set_option maxHeartbeats 1000000 in
theorem refSample_any (N D k : Int) (w : World) (h : Bt N D) (h0 : 0 ≤ k) (h1 : k ≤ 1099511627776) :
    Calls Try.prog 65 #[rat N D, .int .i64 k] w fun e w' => e = .returned (.int .i64 (smI N D k)) ∧ Below w.heap.size w w' := by
  have HS := Lib.hid (scale_ok h h0 h1)
  have HB := Lib.hid h
  have e1 := h.d1; have e2 := h.d2; have e3 := h.n1; have e4 := h.n2
  go_enter Try.func65, Try.ntmps65
  go_wp2_with (go_at_call 101; refine (mul_any _ _ _ _ (by omega) (by omega) (by omega) (by omega) (by omega) (by omega) HS.out.2).mono ?_; rintro e wa ⟨rfl, ba⟩)
  go_returns
  exact ⟨rfl, by exact ((Below.refl _ _).alloc (Nat.le_refl _) _).trans (ba.mono (by simp [World.size_alloc]))⟩
set_option maxHeartbeats 1000000 in
theorem whole_any (N D d : Int) (w : World) (h : Bt N D) (h0 : 0 ≤ d) (h1 : d ≤ 1099511627776) :
    Calls Try.prog 122 #[rat N D, .int .i64 d] w fun e w' => e = .returned (.int .i64 (sc d D N)) ∧ Below w.heap.size w w' := by
  have HB := Lib.hid h
  have e1 := h.d1; have e2 := h.d2; have e3 := h.n1; have e4 := h.n2; have e5 := whole_le h h0
  have e6 : sc d D N ≤ 4611686018427387904 := by omega
  go_enter Try.func122, Try.ntmps122
  go_wp2_with (go_at_call 93; refine (scaled_any _ _ _ _ h0 (by omega) (by omega) (by omega) (by omega) (by omega) e6).mono ?_; rintro e wa ⟨rfl, ba⟩)
  go_returns
  exact ⟨rfl, by exact ((Below.refl _ _).alloc (Nat.le_refl _) _).trans (ba.mono (by simp [World.size_alloc]))⟩

end Go.Proofs.Ytmbeaagpjpphhaa
