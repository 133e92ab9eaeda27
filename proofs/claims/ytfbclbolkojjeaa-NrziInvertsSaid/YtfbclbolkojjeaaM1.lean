/-
  Boundaries and samples of a bit time N / D (at least four ticks): the mathematics of layer 15, without the program.
-/
import Derived.Test.YtfbclbolkojjeaaE1
namespace Go.Proofs.Ytfbclbolkojjeaa
open Go
set_option linter.unusedVariables false

/-- floor(n * N / D). -/
def sc (n N D : Int) : Int := n * N / D
def bdI (N D k : Int) : Int := sc k N D
def smI (N D k : Int) : Int := sc (2 * k + 1) N (2 * D)
theorem sc_parts (n N D : Int) (hD : 1 ≤ D) : n / D * N + n % D * N / D = sc n N D := by
  unfold sc
  have h := Int.mul_ediv_add_emod n D
  have e : n * N = n % D * N + n / D * N * D := by
    have : n * N = (D * (n / D) + n % D) * N := by rw [h]
    rw [this, Int.add_mul]
    rw [Int.mul_comm D (n / D), Int.mul_assoc (n / D) D N, Int.mul_comm D N, ← Int.mul_assoc]
    omega
  rw [e, Int.add_mul_ediv_right _ _ (by omega)]
  omega
theorem sc_le {n N D X : Int} (hD : 1 ≤ D) (h : n * N < (X + 1) * D) : sc n N D ≤ X := by
  have := Int.ediv_lt_of_lt_mul (show 0 < D by omega) h
  unfold sc; omega
theorem sc_ge {n N D X : Int} (hD : 1 ≤ D) (h : X * D ≤ n * N) : X ≤ sc n N D := Int.le_ediv_of_mul_le (by omega) h
theorem sc_low (n N D : Int) (hD : 1 ≤ D) : sc n N D * D ≤ n * N := Int.ediv_mul_le _ (by omega)
theorem sc_high (n N D : Int) (hD : 1 ≤ D) : n * N < (sc n N D + 1) * D := by
  have := Int.lt_ediv_add_one_mul_self (n * N) (show 0 < D by omega)
  exact this
theorem sc_nn {n N D : Int} (hD : 1 ≤ D) (hn : 0 ≤ n) (hN : 0 ≤ N) : 0 ≤ sc n N D := sc_ge hD (by rw [Int.zero_mul]; exact Int.mul_nonneg hn hN)

/-- A bit time that the sampler accepts. -/
structure Bt (N D : Int) : Prop where
  d1 : 1 ≤ D
  d2 : D ≤ 1073741824
  n1 : 4 * D ≤ N
  n2 : N ≤ 1073741824
  n3 : N ≤ 1048576 * D

theorem bd_zero (N D : Int) : bdI N D 0 = 0 := by simp [bdI, sc]
theorem bd_next {N D : Int} (h : Bt N D) (k : Int) : bdI N D k + 4 ≤ bdI N D (k + 1) ∧ bdI N D (k + 1) ≤ bdI N D k + 1048577 := by
  obtain ⟨d1, d2, n1, n2, n3⟩ := h
  unfold bdI
  have a := sc_low k N D d1
  have b := sc_high k N D d1
  constructor
  · refine sc_ge d1 ?_
    rw [Int.add_mul, Int.add_mul]; omega
  · refine sc_le d1 ?_
    rw [Int.add_mul] at b
    rw [Int.add_mul, Int.add_mul, Int.add_mul]; omega
theorem sm_next {N D : Int} (h : Bt N D) (k : Int) : smI N D k + 4 ≤ smI N D (k + 1) ∧ smI N D (k + 1) ≤ smI N D k + 1048577 := by
  obtain ⟨d1, d2, n1, n2, n3⟩ := h
  unfold smI
  have a := sc_low (2 * k + 1) N (2 * D) (by omega)
  have b := sc_high (2 * k + 1) N (2 * D) (by omega)
  rw [show 2 * (k + 1) + 1 = (2 * k + 1) + 2 by omega]
  generalize 2 * k + 1 = m at *
  constructor
  · refine sc_ge (by omega) ?_
    rw [Int.add_mul, Int.add_mul]; omega
  · refine sc_le (by omega) ?_
    rw [Int.add_mul] at b
    rw [Int.add_mul, Int.add_mul, Int.add_mul]; omega
theorem sm_bd {N D : Int} (h : Bt N D) (k : Int) : bdI N D k + 2 ≤ smI N D k ∧ smI N D k + 2 ≤ bdI N D (k + 1) + 1 := by
  obtain ⟨d1, d2, n1, n2, n3⟩ := h
  unfold bdI smI
  have a := sc_low k N D d1
  have b := sc_high (k + 1) N D d1
  have e1 : (2 * k + 1) * N = 2 * (k * N) + N := by rw [Int.add_mul, Int.mul_assoc]; omega
  have e3 : (k + 1) * N = k * N + N := by rw [Int.add_mul]; omega
  rw [e3] at b
  constructor
  · refine sc_ge (by omega) ?_
    rw [e1]
    rw [show (sc k N D + 2) * (2 * D) = 2 * (sc k N D * D) + 4 * D by rw [Int.add_mul, Int.mul_left_comm]; omega]
    omega
  · have : sc (2 * k + 1) N (2 * D) ≤ sc (k + 1) N D - 1 := by
      refine sc_le (by omega) ?_
      rw [e1]
      generalize sc (k + 1) N D = X at *
      rw [show (X - 1 + 1) * (2 * D) = 2 * (X * D) by rw [Int.sub_add_cancel, Int.mul_left_comm]]
      rw [Int.add_mul] at b
      omega
    omega
theorem sm_zero {N D : Int} (h : Bt N D) : 2 ≤ smI N D 0 := by
  have := (sm_bd h 0).1
  rw [bd_zero] at this; omega
/-- How many samples lie before a tick. -/
def cnt (N D d : Int) : Int := if smI N D (sc d D N) < d then sc d D N + 1 else sc d D N
theorem whole_bd {N D : Int} (h : Bt N D) (d : Int) : bdI N D (sc d D N) ≤ d ∧ d ≤ bdI N D (sc d D N + 1) := by
  obtain ⟨d1, d2, n1, n2, n3⟩ := h
  have a := sc_low d D N (by omega)
  have b := sc_high d D N (by omega)
  unfold bdI
  constructor
  · refine sc_le d1 ?_
    rw [Int.add_mul]; omega
  · exact sc_ge d1 (by omega)
theorem whole_nn {N D d : Int} (h : Bt N D) (hd : 0 ≤ d) : 0 ≤ sc d D N := sc_nn (by have := h.d1; have := h.n1; omega) hd (by have := h.d1; omega)
theorem whole_le {N D d : Int} (h : Bt N D) (hd : 0 ≤ d) : 4 * sc d D N ≤ d := by
  have a := sc_low d D N (by have := h.d1; have := h.n1; omega)
  have k0 := whole_nn h hd
  generalize sc d D N = k at *
  have d1 := h.d1
  have : k * (4 * D) ≤ k * N := Int.mul_le_mul_of_nonneg_left h.n1 k0
  have : (4 * k) * D ≤ d * D := by rw [Int.mul_assoc]; rw [Int.mul_left_comm] at this; omega
  exact Int.le_of_mul_le_mul_right this (by omega)
theorem cnt_nn {N D d : Int} (h : Bt N D) (hd : 0 ≤ d) : 0 ≤ cnt N D d := by
  have := whole_nn h hd
  unfold cnt; split <;> omega
theorem cnt_low {N D : Int} (h : Bt N D) (d : Int) : smI N D (cnt N D d - 1) < d := by
  have a := whole_bd h d
  unfold cnt
  split
  · rw [Int.add_sub_cancel]; assumption
  · have b := (sm_bd h (sc d D N - 1)).2
    rw [Int.sub_add_cancel] at b
    omega
theorem cnt_high {N D : Int} (h : Bt N D) (d : Int) : d ≤ smI N D (cnt N D d) := by
  have a := whole_bd h d
  unfold cnt
  split
  · have b := (sm_bd h (sc d D N + 1)).1
    omega
  · omega
theorem sm_add {N D : Int} (h : Bt N D) (k : Int) : ∀ j : Nat, smI N D k + 4 * j ≤ smI N D (k + j)
  | 0 => by simp
  | j + 1 => by
    have := sm_add h k j
    have b := (sm_next h (k + j)).1
    rw [show k + ((j + 1 : Nat) : Int) = k + j + 1 by omega]
    omega
theorem sm_mono {N D : Int} (h : Bt N D) {k m : Int} (hk : k ≤ m) : smI N D k + 4 * (m - k) ≤ smI N D m := by
  have := sm_add h k (m - k).toNat
  rw [show k + ((m - k).toNat : Int) = m by omega] at this
  omega
/-- A sample lies before a tick just where its number is less than the count. -/
theorem cnt_iff {N D : Int} (h : Bt N D) (d k : Int) : smI N D k < d ↔ k < cnt N D d := by
  have a := cnt_low h d
  have b := cnt_high h d
  constructor
  · intro hk
    by_cases hc : k < cnt N D d
    · exact hc
    · have := sm_mono h (show cnt N D d ≤ k by omega); omega
  · intro hk
    have := sm_mono h (show k ≤ cnt N D d - 1 by omega); omega
theorem cnt_zero {N D : Int} (h : Bt N D) : cnt N D 0 = 0 := by
  have a := sm_zero h
  have b := cnt_iff h 0 0
  have c := cnt_nn h (d := 0) (by omega)
  omega
theorem cnt_grow {N D : Int} (h : Bt N D) {d e : Int} (hd : d ≤ e) : cnt N D d ≤ cnt N D e ∧ cnt N D e - cnt N D d ≤ e - d := by
  have a := cnt_low h d; have b := cnt_high h d
  have c := cnt_low h e; have f := cnt_high h e
  have m : cnt N D d ≤ cnt N D e := by
    by_cases hc : cnt N D d ≤ cnt N D e
    · exact hc
    · have := sm_mono h (show cnt N D e ≤ cnt N D d - 1 by omega); omega
  refine ⟨m, ?_⟩
  by_cases he : cnt N D d = cnt N D e
  · omega
  · have := sm_mono h (show cnt N D d ≤ cnt N D e - 1 by omega)
    omega
theorem cnt_le {N D d : Int} (h : Bt N D) (hd : 0 ≤ d) : cnt N D d ≤ d := by
  have := (cnt_grow h hd).2
  rw [cnt_zero h] at this; omega
/-- A change at a distance from the anchor is irregular. -/
def nearI (N D d : Int) : Int := min (d - bdI N D (sc d D N)) (bdI N D (sc d D N + 1) - d)
def irrB (N D d : Int) : Bool := decide (N < 4 * nearI N D d * D)

end Go.Proofs.Ytfbclbolkojjeaa
