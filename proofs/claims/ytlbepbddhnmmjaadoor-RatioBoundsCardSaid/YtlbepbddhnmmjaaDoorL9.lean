/-
  The walk of the statement RatioBounds.
-/
import Derived.Test.YtlbepbddhnmmjaaDoorW16
import Derived.Test.YtlbepbddhnmmjaaDoorM5
namespace Go.Proofs.YtlbepbddhnmmjaaDoor
open Go.RowKit

theorem scale_bd62 {x k : Int} (h1 : -1073741824 ≤ x) (h2 : x ≤ 1073741824) (h3 : -4294967296 ≤ k) (h4 : k ≤ 4294967296) : -4611686018427387904 ≤ x * k ∧ x * k ≤ 4611686018427387904 := by
  have h : (x * k).natAbs ≤ 1073741824 * 4294967296 := by rw [Int.natAbs_mul]; exact Nat.mul_le_mul (by omega) (by omega)
  omega

set_option maxHeartbeats 4000000 in
theorem bounds_bad (n d k m : Int) (w : World) (hn0 : -9223372036854775808 ≤ n) (hn1 : n ≤ 9223372036854775807) (hd0 : -9223372036854775808 ≤ d) (hd1 : d ≤ 9223372036854775807) (hk0 : -9223372036854775808 ≤ k) (hk1 : k ≤ 9223372036854775807) (h : Env m w) (hb : validB n d = false ∨ validB n d = true ∧ (k < -4294967296 ∨ 4294967296 < k)) :
    Calls Tryd.prog 11 #[.agg #[.int .i64 n, .int .i64 d], .int .i64 k] w fun e w' => e = .returned (.bool true) ∧ Below w.heap.size w w' := by
  rcases hb with hv | ⟨hv, hk | hk⟩
  · obtain ⟨A_0_0, A_0_1, A_0_2⟩ := new2 w (.int .i64 n) (.int .i64 d) 23
    have h_0 := (h.below (ba _ (.cells #[.int .i64 n, .int .i64 d] 23)))
    go_enter Tryd.func11, Tryd.ntmps11
    go_wp2_with (first
      | (go_at_call 13; (with_reducible refine (rvalid_any n d _ hn0 hn1 hd0 hd1).mono ?_); rintro e w_1 ⟨rfl, b_1⟩; obtain ⟨A_1_0, A_1_1, A_1_2⟩ := old2 b_1 ⟨A_0_0, A_0_1, A_0_2⟩; have h_1 := h_0.below b_1; clear A_0_0 A_0_1 A_0_2 h_0)
      | (go_at_call 16; (with_reducible refine (awake_any m _ h_1).mono ?_); rintro e w_2 ⟨rfl, b_2⟩; obtain ⟨A_2_0, A_2_1, A_2_2⟩ := old2 b_2 ⟨A_1_0, A_1_1, A_1_2⟩; have h_2 := h_1.below b_2; clear A_1_0 A_1_1 A_1_2 h_1))
    go_returns
    exact ⟨rfl, by repeat' (first | with_reducible exact Below.refl _ _ | with_reducible exact Nat.le_refl _ | with_reducible assumption | with_reducible refine Below.trans ?_ (Below.mono (by assumption) ?_) | with_reducible refine Below.alloc ?_ ?_ _ | with_reducible refine le_alloc ?_ _ | with_reducible refine Nat.le_trans ?_ (Below.size (by assumption)))⟩
  · obtain ⟨A_0_0, A_0_1, A_0_2⟩ := new2 w (.int .i64 n) (.int .i64 d) 23
    have h_0 := (h.below (ba _ (.cells #[.int .i64 n, .int .i64 d] 23)))
    go_enter Tryd.func11, Tryd.ntmps11
    go_wp2_with (first
      | (go_at_call 13; (with_reducible refine (rvalid_any n d _ hn0 hn1 hd0 hd1).mono ?_); rintro e w_1 ⟨rfl, b_1⟩; obtain ⟨A_1_0, A_1_1, A_1_2⟩ := old2 b_1 ⟨A_0_0, A_0_1, A_0_2⟩; have h_1 := h_0.below b_1; clear A_0_0 A_0_1 A_0_2 h_0)
      | (go_at_call 16; (with_reducible refine (awake_any m _ h_1).mono ?_); rintro e w_2 ⟨rfl, b_2⟩; obtain ⟨A_2_0, A_2_1, A_2_2⟩ := old2 b_2 ⟨A_1_0, A_1_1, A_1_2⟩; have h_2 := h_1.below b_2; clear A_1_0 A_1_1 A_1_2 h_1))
    go_returns
    exact ⟨rfl, by repeat' (first | with_reducible exact Below.refl _ _ | with_reducible exact Nat.le_refl _ | with_reducible assumption | with_reducible refine Below.trans ?_ (Below.mono (by assumption) ?_) | with_reducible refine Below.alloc ?_ ?_ _ | with_reducible refine le_alloc ?_ _ | with_reducible refine Nat.le_trans ?_ (Below.size (by assumption)))⟩
  · obtain ⟨A_0_0, A_0_1, A_0_2⟩ := new2 w (.int .i64 n) (.int .i64 d) 23
    have h_0 := (h.below (ba _ (.cells #[.int .i64 n, .int .i64 d] 23)))
    go_enter Tryd.func11, Tryd.ntmps11
    go_wp2_with (first
      | (go_at_call 13; (with_reducible refine (rvalid_any n d _ hn0 hn1 hd0 hd1).mono ?_); rintro e w_1 ⟨rfl, b_1⟩; obtain ⟨A_1_0, A_1_1, A_1_2⟩ := old2 b_1 ⟨A_0_0, A_0_1, A_0_2⟩; have h_1 := h_0.below b_1; clear A_0_0 A_0_1 A_0_2 h_0)
      | (go_at_call 16; (with_reducible refine (awake_any m _ h_1).mono ?_); rintro e w_2 ⟨rfl, b_2⟩; obtain ⟨A_2_0, A_2_1, A_2_2⟩ := old2 b_2 ⟨A_1_0, A_1_1, A_1_2⟩; have h_2 := h_1.below b_2; clear A_1_0 A_1_1 A_1_2 h_1))
    go_returns
    exact ⟨rfl, by repeat' (first | with_reducible exact Below.refl _ _ | with_reducible exact Nat.le_refl _ | with_reducible assumption | with_reducible refine Below.trans ?_ (Below.mono (by assumption) ?_) | with_reducible refine Below.alloc ?_ ?_ _ | with_reducible refine le_alloc ?_ _ | with_reducible refine Nat.le_trans ?_ (Below.size (by assumption)))⟩

set_option maxHeartbeats 8000000 in
theorem bounds_good (n d k m : Int) (w : World) (hn0 : -9223372036854775808 ≤ n) (hn1 : n ≤ 9223372036854775807) (hd0 : -9223372036854775808 ≤ d) (hd1 : d ≤ 9223372036854775807) (hk0 : -9223372036854775808 ≤ k) (hk1 : k ≤ 9223372036854775807) (h : Env m w) (hv : validB n d = true) (k1 : -4294967296 ≤ k) (k2 : k ≤ 4294967296) :
    Calls Tryd.prog 11 #[.agg #[.int .i64 n, .int .i64 d], .int .i64 k] w fun e w' => e = .returned (.bool true) ∧ Below w.heap.size w w' := by
  obtain ⟨p1, p2, p3, p4⟩ := valid_bd hv
  have c1 := fun w => fl_any n d w hn0 hn1 hd0 hd1
  have c2 := fun w => rd_any n d w hn0 hn1 hd0 hd1
  have c3 := fun w => sc_any n d k w hn0 hn1 hd0 hd1 hk0 hk1
  have e1 : scV true n d k = n * k / d := if_neg (by omega)
  have e2 : scE true k = 0 := if_neg (by omega)
  simp only [hv, e1, e2] at c1 c2 c3
  obtain ⟨f1, f2⟩ := fl_lo n d (by omega)
  obtain ⟨f3, f4⟩ := fl_bd (n := n) (d := d) (m := 1073741824) p1 p3 p4 (by omega)
  obtain ⟨g1, g2⟩ := fl_lo (2 * n + d) (2 * d) (by omega)
  have g3 : -2147483648 ≤ (2 * n + d) / (2 * d) := Int.le_ediv_of_mul_le (by omega) (by omega)
  have g4 : (2 * n + d) / (2 * d) ≤ 2147483648 := Int.ediv_le_of_le_mul (by omega) (by omega)
  obtain ⟨q1, q2⟩ := fl_lo (n * k) d (by omega)
  obtain ⟨s1, s2⟩ := scale_bd62 p3 p4 k1 k2
  obtain ⟨q3, q4⟩ := fl_bd (n := n * k) (d := d) (m := 4611686018427387904) p1 s1 s2 (by omega)
  have C1 : ∀ w, Calls Tryd.prog 31 #[.agg #[.int .i64 n, .int .i64 d]] w fun e w' => e = .returned (.int .i64 (n / d)) ∧ Below w.heap.size w w' := c1
  have C2 : ∀ w, Calls Tryd.prog 33 #[.agg #[.int .i64 n, .int .i64 d]] w fun e w' => e = .returned (.int .i64 ((2 * n + d) / (2 * d))) ∧ Below w.heap.size w w' := c2
  clear c1 c2 e1 e2
  generalize n / d = f at C1 f1 f2 f3 f4
  generalize (2 * n + d) / (2 * d) = g at C2 g1 g2 g3 g4
  generalize n * k / d = q at c3 q1 q2 q3 q4
  have eg : g * (2 * d) = 2 * g * d := by grind
  rw [eg] at g1 g2
  clear eg
  obtain ⟨A_0_0, A_0_1, A_0_2⟩ := new2 w (.int .i64 n) (.int .i64 d) 23
  have h_0 := (h.below (ba _ (.cells #[.int .i64 n, .int .i64 d] 23)))
  go_enter Tryd.func11, Tryd.ntmps11
  go_wp2_with (first
    | (go_at_call 13; (with_reducible refine (rvalid_any n d _ hn0 hn1 hd0 hd1).mono ?_); rintro e w_1 ⟨rfl, b_1⟩; obtain ⟨A_1_0, A_1_1, A_1_2⟩ := old2 b_1 ⟨A_0_0, A_0_1, A_0_2⟩; have h_1 := h_0.below b_1; clear A_0_0 A_0_1 A_0_2 h_0)
    | (go_at_call 31; (with_reducible refine (C1 _).mono ?_); rintro e w_2 ⟨rfl, b_2⟩; obtain ⟨A_2_0, A_2_1, A_2_2⟩ := old2 b_2 ⟨A_1_0, A_1_1, A_1_2⟩; have h_2 := h_1.below b_2; clear A_1_0 A_1_1 A_1_2 h_1)
    | (go_at_call 33; (with_reducible refine (C2 _).mono ?_); rintro e w_3 ⟨rfl, b_3⟩; obtain ⟨A_3_0, A_3_1, A_3_2⟩ := old2 b_3 ⟨A_2_0, A_2_1, A_2_2⟩; have h_3 := h_2.below b_3; clear A_2_0 A_2_1 A_2_2 h_2)
    | (go_at_call 27; (with_reducible refine (c3 _).mono ?_); rintro e w_4 ⟨rfl, b_4⟩; obtain ⟨A_4_0, A_4_1, A_4_2⟩ := old2 b_4 ⟨A_3_0, A_3_1, A_3_2⟩; have h_4 := h_3.below b_4; clear A_3_0 A_3_1 A_3_2 h_3)
    | (go_at_call 16; (with_reducible refine (awake_any m _ h_4).mono ?_); rintro e w_5 ⟨rfl, b_5⟩; obtain ⟨A_5_0, A_5_1, A_5_2⟩ := old2 b_5 ⟨A_4_0, A_4_1, A_4_2⟩; have h_5 := h_4.below b_5; clear A_4_0 A_4_1 A_4_2 h_4))
  go_returns
  exact ⟨rfl, by repeat' (first | with_reducible exact Below.refl _ _ | with_reducible exact Nat.le_refl _ | with_reducible assumption | with_reducible refine Below.trans ?_ (Below.mono (by assumption) ?_) | with_reducible refine Below.alloc ?_ ?_ _ | with_reducible refine le_alloc ?_ _ | with_reducible refine Nat.le_trans ?_ (Below.size (by assumption)))⟩

theorem law_bounds (n d k m : Int) (w : World) (hn0 : -9223372036854775808 ≤ n) (hn1 : n ≤ 9223372036854775807) (hd0 : -9223372036854775808 ≤ d) (hd1 : d ≤ 9223372036854775807) (hk0 : -9223372036854775808 ≤ k) (hk1 : k ≤ 9223372036854775807) (h : Env m w) :
    Calls Tryd.prog 11 #[.agg #[.int .i64 n, .int .i64 d], .int .i64 k] w fun e w' => e = .returned (.bool true) ∧ Below w.heap.size w w' := by
  cases hv : validB n d
  · exact bounds_bad n d k m w hn0 hn1 hd0 hd1 hk0 hk1 h (Or.inl hv)
  · by_cases k1 : -4294967296 ≤ k
    · by_cases k2 : k ≤ 4294967296
      · exact bounds_good n d k m w hn0 hn1 hd0 hd1 hk0 hk1 h hv k1 k2
      · exact bounds_bad n d k m w hn0 hn1 hd0 hd1 hk0 hk1 h (Or.inr ⟨hv, Or.inr (by omega)⟩)
    · exact bounds_bad n d k m w hn0 hn1 hd0 hd1 hk0 hk1 h (Or.inr ⟨hv, Or.inl (by omega)⟩)

end Go.Proofs.YtlbepbddhnmmjaaDoor
