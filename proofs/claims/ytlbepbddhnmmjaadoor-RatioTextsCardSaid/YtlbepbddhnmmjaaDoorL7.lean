/-
  The walk of the statement RatioTexts.
-/
import Derived.Test.YtlbepbddhnmmjaaDoorW16
import Derived.Test.YtlbepbddhnmmjaaDoorM7
namespace Go.Proofs.YtlbepbddhnmmjaaDoor
open Go.RowKit
set_option linter.unusedVariables false

theorem dd_len (m : Nat) : ∀ k : Nat, k < 10 ^ (m + 1) → (Lib.decDigits k).length ≤ m + 1 := by
  induction m with
  | zero => intro k h; rw [Lib.decDigits, dif_pos (by simpa using h)]; simp
  | succ m ih =>
    intro k h
    rw [Lib.decDigits]
    by_cases hk : k < 10
    · rw [dif_pos hk]; simp
    · rw [dif_neg hk, List.length_append]
      have := ih (k / 10) (by rw [Nat.pow_succ] at h; omega)
      simp only [List.length_cons, List.length_nil]; omega
theorem tx_len (n d : Int) : (txV n d).length ≤ 100 := by
  cases hv : validB n d
  · rw [tx_bad hv]; simp
  · obtain ⟨b1, b2, b3, b4⟩ := valid_bd hv
    rw [tx_glue hv]
    have l1 := dd_len 9 n.natAbs (by omega)
    have l2 := dd_len 9 d.natAbs (by omega)
    unfold glue
    simp only [List.length_append]
    have l3 : (if decide (n < 0) = true then [(45 : UInt8)] else []).length ≤ 1 := by split <;> simp
    have l4 : (if decide (d ≠ 1) = true then (47 : UInt8) :: Lib.decDigits d.natAbs else []).length ≤ 11 := by
      split
      · simp only [List.length_cons]; omega
      · simp
    omega

set_option maxHeartbeats 4000000 in
theorem texts_long (s : ByteArray) (n d m : Int) (w : World) (h : Env m w) (hl : 200 < s.size) (hs : s.size ≤ 9223372036854775807) :
    Calls Tryd.prog 9 #[.agg #[.int .i64 n, .int .i64 d], .string s] w fun e w' => e = .returned (.bool true) ∧ Below w.heap.size w w' := by
  obtain ⟨A_0_0, A_0_1, A_0_2⟩ := new2 w (.int .i64 n) (.int .i64 d) 23
  have h_0 := (h.below (ba _ (.cells #[.int .i64 n, .int .i64 d] 23)))
  go_enter Tryd.func9, Tryd.ntmps9
  go_wp2_with (first
    | (go_at_call 16; (with_reducible refine (awake_any m _ h_0).mono ?_); rintro e w_1 ⟨rfl, b_1⟩; obtain ⟨A_1_0, A_1_1, A_1_2⟩ := old2 b_1 ⟨A_0_0, A_0_1, A_0_2⟩; have h_1 := h_0.below b_1; clear A_0_0 A_0_1 A_0_2 h_0))
  go_returns
  exact ⟨rfl, by repeat' (first | with_reducible exact Below.refl _ _ | with_reducible exact Nat.le_refl _ | with_reducible assumption | with_reducible refine Below.trans ?_ (Below.mono (by assumption) ?_) | with_reducible refine Below.alloc ?_ ?_ _ | with_reducible refine le_alloc ?_ _ | with_reducible refine Nat.le_trans ?_ (Below.size (by assumption)))⟩

set_option maxHeartbeats 8000000 in
theorem texts_1 (s t : ByteArray) (n d x y ee m : Int) (w : World) (hn0 : -9223372036854775808 ≤ n) (hn1 : n ≤ 9223372036854775807) (hd0 : -9223372036854775808 ≤ d) (hd1 : d ≤ 9223372036854775807) (h : Env m w) (hl : s.size ≤ 200) (hv : validB n d = false) (ht : t.toList = []) (c1 : ∀ w, Env m w → Calls Tryd.prog 14 #[.agg #[.int .i64 n, .int .i64 d]] w fun e w' => e = .returned (.string t) ∧ Below w.heap.size w w') (c3 : ∀ w, Env m w → Calls Tryd.prog 35 #[.string s] w fun e w' => e = .returned (.tuple #[.agg #[.int .i64 x, .int .i64 y], .int .i64 ee]) ∧ Below w.heap.size w w') (he1 : (ee == 0) = false) (he2 : (ee != 0) = true) :
    Calls Tryd.prog 9 #[.agg #[.int .i64 n, .int .i64 d], .string s] w fun e w' => e = .returned (.bool true) ∧ Below w.heap.size w w' := by
  obtain ⟨A_0_0, A_0_1, A_0_2⟩ := new2 w (.int .i64 n) (.int .i64 d) 23
  have h_0 := (h.below (ba _ (.cells #[.int .i64 n, .int .i64 d] 23)))
  go_enter Tryd.func9, Tryd.ntmps9
  go_wp2_with (first
    | (go_at_call_of 14 (Value.int .i64 n); (with_reducible refine (c1 _ h_0).mono ?_); rintro e w_1 ⟨rfl, b_1⟩; obtain ⟨A_1_0, A_1_1, A_1_2⟩ := old2 b_1 ⟨A_0_0, A_0_1, A_0_2⟩; have h_1 := h_0.below b_1; clear A_0_0 A_0_1 A_0_2 h_0)
    | (go_at_call_of 12 (Value.int .i64 n); (with_reducible refine (valid_any n d _ hn0 hn1 hd0 hd1).mono ?_); rintro e w_2 ⟨rfl, b_2⟩; obtain ⟨A_2_0, A_2_1, A_2_2⟩ := old2 b_2 ⟨A_1_0, A_1_1, A_1_2⟩; have h_2 := h_1.below b_2; clear A_1_0 A_1_1 A_1_2 h_1)
    | (go_at_call_of 35 (Value.string s); (with_reducible refine (c3 _ h_2).mono ?_); rintro e w_3 ⟨rfl, b_3⟩; obtain ⟨A_3_0, A_3_1, A_3_2⟩ := old2 (ba _ (.cells #[.int .i64 x, .int .i64 y] 23)) (old2 b_3 ⟨A_2_0, A_2_1, A_2_2⟩); obtain ⟨Y_3_0, Y_3_1, Y_3_2⟩ := new2 w_3 (.int .i64 x) (.int .i64 y) 23; have h_3 := (h_2.below b_3).below (ba _ (.cells #[.int .i64 x, .int .i64 y] 23)); clear A_2_0 A_2_1 A_2_2 h_2)
    | (go_at_call 16; (with_reducible refine (awake_any m _ h_3).mono ?_); rintro e w_4 ⟨rfl, b_4⟩; obtain ⟨A_4_0, A_4_1, A_4_2⟩ := old2 b_4 ⟨A_3_0, A_3_1, A_3_2⟩; obtain ⟨Y_4_0, Y_4_1, Y_4_2⟩ := old2 b_4 ⟨Y_3_0, Y_3_1, Y_3_2⟩; have h_4 := h_3.below b_4; clear A_3_0 A_3_1 A_3_2 Y_3_0 Y_3_1 Y_3_2 h_3))
  go_returns
  exact ⟨rfl, by repeat' (first | with_reducible exact Below.refl _ _ | with_reducible exact Nat.le_refl _ | with_reducible assumption | with_reducible refine Below.trans ?_ (Below.mono (by assumption) ?_) | with_reducible refine Below.alloc ?_ ?_ _ | with_reducible refine le_alloc ?_ _ | with_reducible refine Nat.le_trans ?_ (Below.size (by assumption)))⟩

set_option maxHeartbeats 8000000 in
theorem texts_2 (s t : ByteArray) (n d x y m : Int) (w : World) (hn0 : -9223372036854775808 ≤ n) (hn1 : n ≤ 9223372036854775807) (hd0 : -9223372036854775808 ≤ d) (hd1 : d ≤ 9223372036854775807) (h : Env m w) (hl : s.size ≤ 200) (hv : validB n d = false) (ht : t.toList = []) (c1 : ∀ w, Env m w → Calls Tryd.prog 14 #[.agg #[.int .i64 n, .int .i64 d]] w fun e w' => e = .returned (.string t) ∧ Below w.heap.size w w') (c3 : ∀ w, Env m w → Calls Tryd.prog 35 #[.string s] w fun e w' => e = .returned (.tuple #[.agg #[.int .i64 x, .int .i64 y], .int .i64 0]) ∧ Below w.heap.size w w') (c4 : ∀ w, Calls Tryd.prog 12 #[.agg #[.int .i64 x, .int .i64 y]] w fun e w' => e = .returned (.bool true) ∧ Below w.heap.size w w') (c5 : ∀ w, Env m w → Calls Tryd.prog 14 #[.agg #[.int .i64 x, .int .i64 y]] w fun e w' => e = .returned (.string s) ∧ Below w.heap.size w w') :
    Calls Tryd.prog 9 #[.agg #[.int .i64 n, .int .i64 d], .string s] w fun e w' => e = .returned (.bool true) ∧ Below w.heap.size w w' := by
  obtain ⟨A_0_0, A_0_1, A_0_2⟩ := new2 w (.int .i64 n) (.int .i64 d) 23
  have h_0 := (h.below (ba _ (.cells #[.int .i64 n, .int .i64 d] 23)))
  go_enter Tryd.func9, Tryd.ntmps9
  go_wp2_with (first
    | (go_at_call_of 14 (Value.int .i64 n); (with_reducible refine (c1 _ h_0).mono ?_); rintro e w_1 ⟨rfl, b_1⟩; obtain ⟨A_1_0, A_1_1, A_1_2⟩ := old2 b_1 ⟨A_0_0, A_0_1, A_0_2⟩; have h_1 := h_0.below b_1; clear A_0_0 A_0_1 A_0_2 h_0)
    | (go_at_call_of 12 (Value.int .i64 n); (with_reducible refine (valid_any n d _ hn0 hn1 hd0 hd1).mono ?_); rintro e w_2 ⟨rfl, b_2⟩; obtain ⟨A_2_0, A_2_1, A_2_2⟩ := old2 b_2 ⟨A_1_0, A_1_1, A_1_2⟩; have h_2 := h_1.below b_2; clear A_1_0 A_1_1 A_1_2 h_1)
    | (go_at_call_of 35 (Value.string s); (with_reducible refine (c3 _ h_2).mono ?_); rintro e w_3 ⟨rfl, b_3⟩; obtain ⟨A_3_0, A_3_1, A_3_2⟩ := old2 (ba _ (.cells #[.int .i64 x, .int .i64 y] 23)) (old2 b_3 ⟨A_2_0, A_2_1, A_2_2⟩); obtain ⟨Y_3_0, Y_3_1, Y_3_2⟩ := new2 w_3 (.int .i64 x) (.int .i64 y) 23; have h_3 := (h_2.below b_3).below (ba _ (.cells #[.int .i64 x, .int .i64 y] 23)); clear A_2_0 A_2_1 A_2_2 h_2)
    | (go_at_call_of 12 (Value.int .i64 x); (with_reducible refine (c4 _).mono ?_); rintro e w_4 ⟨rfl, b_4⟩; obtain ⟨A_4_0, A_4_1, A_4_2⟩ := old2 b_4 ⟨A_3_0, A_3_1, A_3_2⟩; obtain ⟨Y_4_0, Y_4_1, Y_4_2⟩ := old2 b_4 ⟨Y_3_0, Y_3_1, Y_3_2⟩; have h_4 := h_3.below b_4; clear A_3_0 A_3_1 A_3_2 Y_3_0 Y_3_1 Y_3_2 h_3)
    | (go_at_call_of 14 (Value.int .i64 x); (with_reducible refine (c5 _ h_4).mono ?_); rintro e w_5 ⟨rfl, b_5⟩; obtain ⟨A_5_0, A_5_1, A_5_2⟩ := old2 b_5 ⟨A_4_0, A_4_1, A_4_2⟩; obtain ⟨Y_5_0, Y_5_1, Y_5_2⟩ := old2 b_5 ⟨Y_4_0, Y_4_1, Y_4_2⟩; have h_5 := h_4.below b_5; clear A_4_0 A_4_1 A_4_2 Y_4_0 Y_4_1 Y_4_2 h_4)
    | (go_at_call 16; (with_reducible refine (awake_any m _ h_5).mono ?_); rintro e w_6 ⟨rfl, b_6⟩; obtain ⟨A_6_0, A_6_1, A_6_2⟩ := old2 b_6 ⟨A_5_0, A_5_1, A_5_2⟩; obtain ⟨Y_6_0, Y_6_1, Y_6_2⟩ := old2 b_6 ⟨Y_5_0, Y_5_1, Y_5_2⟩; have h_6 := h_5.below b_6; clear A_5_0 A_5_1 A_5_2 Y_5_0 Y_5_1 Y_5_2 h_5))
  go_returns
  exact ⟨rfl, by repeat' (first | with_reducible exact Below.refl _ _ | with_reducible exact Nat.le_refl _ | with_reducible assumption | with_reducible refine Below.trans ?_ (Below.mono (by assumption) ?_) | with_reducible refine Below.alloc ?_ ?_ _ | with_reducible refine le_alloc ?_ _ | with_reducible refine Nat.le_trans ?_ (Below.size (by assumption)))⟩

set_option maxHeartbeats 8000000 in
theorem texts_3 (s t : ByteArray) (n d x y ee m : Int) (w : World) (hn0 : -9223372036854775808 ≤ n) (hn1 : n ≤ 9223372036854775807) (hd0 : -9223372036854775808 ≤ d) (hd1 : d ≤ 9223372036854775807) (h : Env m w) (hl : s.size ≤ 200) (hv : validB n d = true) (ht : t.toList.isEmpty = false) (c1 : ∀ w, Env m w → Calls Tryd.prog 14 #[.agg #[.int .i64 n, .int .i64 d]] w fun e w' => e = .returned (.string t) ∧ Below w.heap.size w w') (c2 : ∀ w, Env m w → Calls Tryd.prog 35 #[.string t] w fun e w' => e = .returned (.tuple #[.agg #[.int .i64 n, .int .i64 d], .int .i64 0]) ∧ Below w.heap.size w w') (c3 : ∀ w, Env m w → Calls Tryd.prog 35 #[.string s] w fun e w' => e = .returned (.tuple #[.agg #[.int .i64 x, .int .i64 y], .int .i64 ee]) ∧ Below w.heap.size w w') (he1 : (ee == 0) = false) (he2 : (ee != 0) = true) :
    Calls Tryd.prog 9 #[.agg #[.int .i64 n, .int .i64 d], .string s] w fun e w' => e = .returned (.bool true) ∧ Below w.heap.size w w' := by
  obtain ⟨A_0_0, A_0_1, A_0_2⟩ := new2 w (.int .i64 n) (.int .i64 d) 23
  have h_0 := (h.below (ba _ (.cells #[.int .i64 n, .int .i64 d] 23)))
  go_enter Tryd.func9, Tryd.ntmps9
  go_wp2_with (first
    | (go_at_call_of 14 (Value.int .i64 n); (with_reducible refine (c1 _ h_0).mono ?_); rintro e w_1 ⟨rfl, b_1⟩; obtain ⟨A_1_0, A_1_1, A_1_2⟩ := old2 b_1 ⟨A_0_0, A_0_1, A_0_2⟩; have h_1 := h_0.below b_1; clear A_0_0 A_0_1 A_0_2 h_0)
    | (go_at_call_of 12 (Value.int .i64 n); (with_reducible refine (valid_any n d _ hn0 hn1 hd0 hd1).mono ?_); rintro e w_2 ⟨rfl, b_2⟩; obtain ⟨A_2_0, A_2_1, A_2_2⟩ := old2 b_2 ⟨A_1_0, A_1_1, A_1_2⟩; have h_2 := h_1.below b_2; clear A_1_0 A_1_1 A_1_2 h_1)
    | (go_at_call_of 35 (Value.string t); (with_reducible refine (c2 _ h_2).mono ?_); rintro e w_3 ⟨rfl, b_3⟩; obtain ⟨A_3_0, A_3_1, A_3_2⟩ := old2 (ba _ (.cells #[.int .i64 n, .int .i64 d] 23)) (old2 b_3 ⟨A_2_0, A_2_1, A_2_2⟩); obtain ⟨X_3_0, X_3_1, X_3_2⟩ := new2 w_3 (.int .i64 n) (.int .i64 d) 23; have h_3 := (h_2.below b_3).below (ba _ (.cells #[.int .i64 n, .int .i64 d] 23)); clear A_2_0 A_2_1 A_2_2 h_2)
    | (go_at_call_of 35 (Value.string s); (with_reducible refine (c3 _ h_3).mono ?_); rintro e w_4 ⟨rfl, b_4⟩; obtain ⟨A_4_0, A_4_1, A_4_2⟩ := old2 (ba _ (.cells #[.int .i64 x, .int .i64 y] 23)) (old2 b_4 ⟨A_3_0, A_3_1, A_3_2⟩); obtain ⟨X_4_0, X_4_1, X_4_2⟩ := old2 (ba _ (.cells #[.int .i64 x, .int .i64 y] 23)) (old2 b_4 ⟨X_3_0, X_3_1, X_3_2⟩); obtain ⟨Y_4_0, Y_4_1, Y_4_2⟩ := new2 w_4 (.int .i64 x) (.int .i64 y) 23; have h_4 := (h_3.below b_4).below (ba _ (.cells #[.int .i64 x, .int .i64 y] 23)); clear A_3_0 A_3_1 A_3_2 X_3_0 X_3_1 X_3_2 h_3)
    | (go_at_call 16; (with_reducible refine (awake_any m _ h_4).mono ?_); rintro e w_5 ⟨rfl, b_5⟩; obtain ⟨A_5_0, A_5_1, A_5_2⟩ := old2 b_5 ⟨A_4_0, A_4_1, A_4_2⟩; obtain ⟨X_5_0, X_5_1, X_5_2⟩ := old2 b_5 ⟨X_4_0, X_4_1, X_4_2⟩; obtain ⟨Y_5_0, Y_5_1, Y_5_2⟩ := old2 b_5 ⟨Y_4_0, Y_4_1, Y_4_2⟩; have h_5 := h_4.below b_5; clear A_4_0 A_4_1 A_4_2 X_4_0 X_4_1 X_4_2 Y_4_0 Y_4_1 Y_4_2 h_4))
  go_returns
  exact ⟨rfl, by repeat' (first | with_reducible exact Below.refl _ _ | with_reducible exact Nat.le_refl _ | with_reducible assumption | with_reducible refine Below.trans ?_ (Below.mono (by assumption) ?_) | with_reducible refine Below.alloc ?_ ?_ _ | with_reducible refine le_alloc ?_ _ | with_reducible refine Nat.le_trans ?_ (Below.size (by assumption)))⟩

set_option maxHeartbeats 8000000 in
theorem texts_4 (s t : ByteArray) (n d x y m : Int) (w : World) (hn0 : -9223372036854775808 ≤ n) (hn1 : n ≤ 9223372036854775807) (hd0 : -9223372036854775808 ≤ d) (hd1 : d ≤ 9223372036854775807) (h : Env m w) (hl : s.size ≤ 200) (hv : validB n d = true) (ht : t.toList.isEmpty = false) (c1 : ∀ w, Env m w → Calls Tryd.prog 14 #[.agg #[.int .i64 n, .int .i64 d]] w fun e w' => e = .returned (.string t) ∧ Below w.heap.size w w') (c2 : ∀ w, Env m w → Calls Tryd.prog 35 #[.string t] w fun e w' => e = .returned (.tuple #[.agg #[.int .i64 n, .int .i64 d], .int .i64 0]) ∧ Below w.heap.size w w') (c3 : ∀ w, Env m w → Calls Tryd.prog 35 #[.string s] w fun e w' => e = .returned (.tuple #[.agg #[.int .i64 x, .int .i64 y], .int .i64 0]) ∧ Below w.heap.size w w') (c4 : ∀ w, Calls Tryd.prog 12 #[.agg #[.int .i64 x, .int .i64 y]] w fun e w' => e = .returned (.bool true) ∧ Below w.heap.size w w') (c5 : ∀ w, Env m w → Calls Tryd.prog 14 #[.agg #[.int .i64 x, .int .i64 y]] w fun e w' => e = .returned (.string s) ∧ Below w.heap.size w w') :
    Calls Tryd.prog 9 #[.agg #[.int .i64 n, .int .i64 d], .string s] w fun e w' => e = .returned (.bool true) ∧ Below w.heap.size w w' := by
  obtain ⟨A_0_0, A_0_1, A_0_2⟩ := new2 w (.int .i64 n) (.int .i64 d) 23
  have h_0 := (h.below (ba _ (.cells #[.int .i64 n, .int .i64 d] 23)))
  go_enter Tryd.func9, Tryd.ntmps9
  go_wp2_with (first
    | (go_at_call_of 14 (Value.int .i64 n); (with_reducible refine (c1 _ h_0).mono ?_); rintro e w_1 ⟨rfl, b_1⟩; obtain ⟨A_1_0, A_1_1, A_1_2⟩ := old2 b_1 ⟨A_0_0, A_0_1, A_0_2⟩; have h_1 := h_0.below b_1; clear A_0_0 A_0_1 A_0_2 h_0)
    | (go_at_call_of 12 (Value.int .i64 n); (with_reducible refine (valid_any n d _ hn0 hn1 hd0 hd1).mono ?_); rintro e w_2 ⟨rfl, b_2⟩; obtain ⟨A_2_0, A_2_1, A_2_2⟩ := old2 b_2 ⟨A_1_0, A_1_1, A_1_2⟩; have h_2 := h_1.below b_2; clear A_1_0 A_1_1 A_1_2 h_1)
    | (go_at_call_of 35 (Value.string t); (with_reducible refine (c2 _ h_2).mono ?_); rintro e w_3 ⟨rfl, b_3⟩; obtain ⟨A_3_0, A_3_1, A_3_2⟩ := old2 (ba _ (.cells #[.int .i64 n, .int .i64 d] 23)) (old2 b_3 ⟨A_2_0, A_2_1, A_2_2⟩); obtain ⟨X_3_0, X_3_1, X_3_2⟩ := new2 w_3 (.int .i64 n) (.int .i64 d) 23; have h_3 := (h_2.below b_3).below (ba _ (.cells #[.int .i64 n, .int .i64 d] 23)); clear A_2_0 A_2_1 A_2_2 h_2)
    | (go_at_call_of 35 (Value.string s); (with_reducible refine (c3 _ h_3).mono ?_); rintro e w_4 ⟨rfl, b_4⟩; obtain ⟨A_4_0, A_4_1, A_4_2⟩ := old2 (ba _ (.cells #[.int .i64 x, .int .i64 y] 23)) (old2 b_4 ⟨A_3_0, A_3_1, A_3_2⟩); obtain ⟨X_4_0, X_4_1, X_4_2⟩ := old2 (ba _ (.cells #[.int .i64 x, .int .i64 y] 23)) (old2 b_4 ⟨X_3_0, X_3_1, X_3_2⟩); obtain ⟨Y_4_0, Y_4_1, Y_4_2⟩ := new2 w_4 (.int .i64 x) (.int .i64 y) 23; have h_4 := (h_3.below b_4).below (ba _ (.cells #[.int .i64 x, .int .i64 y] 23)); clear A_3_0 A_3_1 A_3_2 X_3_0 X_3_1 X_3_2 h_3)
    | (go_at_call_of 12 (Value.int .i64 x); (with_reducible refine (c4 _).mono ?_); rintro e w_5 ⟨rfl, b_5⟩; obtain ⟨A_5_0, A_5_1, A_5_2⟩ := old2 b_5 ⟨A_4_0, A_4_1, A_4_2⟩; obtain ⟨X_5_0, X_5_1, X_5_2⟩ := old2 b_5 ⟨X_4_0, X_4_1, X_4_2⟩; obtain ⟨Y_5_0, Y_5_1, Y_5_2⟩ := old2 b_5 ⟨Y_4_0, Y_4_1, Y_4_2⟩; have h_5 := h_4.below b_5; clear A_4_0 A_4_1 A_4_2 X_4_0 X_4_1 X_4_2 Y_4_0 Y_4_1 Y_4_2 h_4)
    | (go_at_call_of 14 (Value.int .i64 x); (with_reducible refine (c5 _ h_5).mono ?_); rintro e w_6 ⟨rfl, b_6⟩; obtain ⟨A_6_0, A_6_1, A_6_2⟩ := old2 b_6 ⟨A_5_0, A_5_1, A_5_2⟩; obtain ⟨X_6_0, X_6_1, X_6_2⟩ := old2 b_6 ⟨X_5_0, X_5_1, X_5_2⟩; obtain ⟨Y_6_0, Y_6_1, Y_6_2⟩ := old2 b_6 ⟨Y_5_0, Y_5_1, Y_5_2⟩; have h_6 := h_5.below b_6; clear A_5_0 A_5_1 A_5_2 X_5_0 X_5_1 X_5_2 Y_5_0 Y_5_1 Y_5_2 h_5)
    | (go_at_call 16; (with_reducible refine (awake_any m _ h_6).mono ?_); rintro e w_7 ⟨rfl, b_7⟩; obtain ⟨A_7_0, A_7_1, A_7_2⟩ := old2 b_7 ⟨A_6_0, A_6_1, A_6_2⟩; obtain ⟨X_7_0, X_7_1, X_7_2⟩ := old2 b_7 ⟨X_6_0, X_6_1, X_6_2⟩; obtain ⟨Y_7_0, Y_7_1, Y_7_2⟩ := old2 b_7 ⟨Y_6_0, Y_6_1, Y_6_2⟩; have h_7 := h_6.below b_7; clear A_6_0 A_6_1 A_6_2 X_6_0 X_6_1 X_6_2 Y_6_0 Y_6_1 Y_6_2 h_6))
  go_returns
  exact ⟨rfl, by repeat' (first | with_reducible exact Below.refl _ _ | with_reducible exact Nat.le_refl _ | with_reducible assumption | with_reducible refine Below.trans ?_ (Below.mono (by assumption) ?_) | with_reducible refine Below.alloc ?_ ?_ _ | with_reducible refine le_alloc ?_ _ | with_reducible refine Nat.le_trans ?_ (Below.size (by assumption)))⟩

theorem law_texts (n d : Int) (s : ByteArray) (m : Int) (w : World) (hn0 : -9223372036854775808 ≤ n) (hn1 : n ≤ 9223372036854775807) (hd0 : -9223372036854775808 ≤ d) (hd1 : d ≤ 9223372036854775807) (hs : s.size ≤ 9223372036854775807) (h : Env m w) :
    Calls Tryd.prog 9 #[.agg #[.int .i64 n, .int .i64 d], .string s] w fun e w' => e = .returned (.bool true) ∧ Below w.heap.size w w' := by
  by_cases hl : 200 < s.size
  · exact texts_long s n d m w h hl hs
  have hl' : s.size ≤ 200 := by omega
  have c1 := fun w (h : Env m w) => text_any n d w hn0 hn1 hd0 hd1 h.1 h.2.2.1
  have c3 := fun w (h : Env m w) => parse_any s m w (by omega) h.2.1 h.2.2.2
  have tz : (⟨(txV n d).toArray⟩ : ByteArray).size ≤ 1000000 := by rw [size_mk]; have := tx_len n d; omega
  by_cases he : psE s.data.toList = 0
  · obtain ⟨v1, v2⟩ := parse_tx he
    obtain ⟨b1, b2, b3, b4⟩ := valid_bd v1
    have c4 := fun w => valid_any (psN s.data.toList) (psD s.data.toList) w (by omega) (by omega) (by omega) (by omega)
    have c5 := fun w (h : Env m w) => text_any (psN s.data.toList) (psD s.data.toList) w (by omega) (by omega) (by omega) (by omega) h.1 h.2.2.1
    simp only [v1] at c4
    simp only [v2, bytes_of] at c5
    simp only [he] at c3
    cases hv : validB n d
    · exact texts_2 s _ n d _ _ m w hn0 hn1 hd0 hd1 h hl' hv (by rw [ByteArray.toList_eq, toList_mk, tx_bad hv]) c1 c3 c4 c5
    · obtain ⟨q1, q2, q3⟩ := tx_parse hv
      have c2 := fun w (h : Env m w) => parse_any ⟨(txV n d).toArray⟩ m w tz h.2.1 h.2.2.2
      simp only [q1, q2, q3] at c2
      exact texts_4 s _ n d _ _ m w hn0 hn1 hd0 hd1 h hl' hv (by rw [ByteArray.toList_eq, toList_mk, List.isEmpty_eq_false_iff]; exact tx_ne hv) c1 c2 c3 c4 c5
  · have he1 : (psE s.data.toList == 0) = false := by rw [beq_eq_false_iff_ne]; exact he
    have he2 : (psE s.data.toList != 0) = true := by rw [bne_iff_ne]; exact he
    cases hv : validB n d
    · exact texts_1 s _ n d _ _ _ m w hn0 hn1 hd0 hd1 h hl' hv (by rw [ByteArray.toList_eq, toList_mk, tx_bad hv]) c1 c3 he1 he2
    · obtain ⟨q1, q2, q3⟩ := tx_parse hv
      have c2 := fun w (h : Env m w) => parse_any ⟨(txV n d).toArray⟩ m w tz h.2.1 h.2.2.2
      simp only [q1, q2, q3] at c2
      exact texts_3 s _ n d _ _ _ m w hn0 hn1 hd0 hd1 h hl' hv (by rw [ByteArray.toList_eq, toList_mk, List.isEmpty_eq_false_iff]; exact tx_ne hv) c1 c2 c3 he1 he2

end Go.Proofs.YtlbepbddhnmmjaaDoor
