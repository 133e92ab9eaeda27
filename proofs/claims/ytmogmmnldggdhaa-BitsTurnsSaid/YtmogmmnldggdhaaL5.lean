/-
  The walk of the statement BitsTurns.
-/
import Derived.Test.YtmogmmnldggdhaaW9
namespace Go.Proofs.Ytmogmmnldggdhaa
open Go.RowKit
set_option linter.unusedVariables false

set_option maxRecDepth 20000 in
set_option maxHeartbeats 2000000 in
theorem law_turns (n W : Int) (s : ByteArray) (w : World) (hn0 : -9223372036854775808 ≤ n) (hn1 : n ≤ 9223372036854775807) (hs : s.size ≤ 140737488351232) :
    Calls Try.prog 7 #[.int .i64 n, .int .i64 W, .string s] w fun e w' => e = .returned (.bool true) ∧ Below w.heap.size w w' := by
  have hs' : (s.size : Int) ≤ 140737488351232 := by omega
  by_cases hbig : 70000 < s.size
  · go_enter Try.func7, Try.ntmps7
    go_wp2_with (first
      | (go_at_call 9; go_must (refine (lives_any _).mono ?_; rintro e w0 ⟨rfl, b0⟩)))
    go_returns
    exact ⟨rfl, by (repeat' (first | with_reducible exact Below.refl _ _ | with_reducible exact Nat.le_refl _ | with_reducible assumption | with_reducible refine below_drewN ?_ _ | with_reducible refine Below.drew ?_ | with_reducible refine Below.trans ?_ (Below.mono (by assumption) ?_) | with_reducible refine Below.alloc ?_ ?_ _ | with_reducible refine le_alloc ?_ _ | with_reducible refine le_drewN ?_ _ | with_reducible refine le_drew ?_ | with_reducible refine Nat.le_trans ?_ (Below.size (by assumption))))⟩
  have FI : 0 ≤ W → W ≤ 62 → ∃ A B : ByteArray, Hid (∀ w, Calls Try.prog 12 #[.int .i64 n, .int .i64 W, .bool true] w fun e w' => e = .returned (.string A) ∧ Below w.heap.size w w') ∧
      Hid (∀ w, Calls Try.prog 12 #[.int .i64 n, .int .i64 W, .bool false] w fun e w' => e = .returned (.string B) ∧ Below w.heap.size w w') ∧
      Hid (∀ w, Calls Try.prog 22 #[.string A] w fun e w' => e = .returned (.string B) ∧ Below w.heap.size w w') := fun h0 h1 => by
    obtain ⟨V, rfl⟩ : ∃ V : Nat, W = V := ⟨W.toNat, by omega⟩
    refine ⟨⟨(fi n V true).toArray⟩, ⟨(fi n V false).toArray⟩, fun w => ?_, fun w => ?_, fun w => ?_⟩
    · have := fromInt_any n V true w hn0 hn1
      rwa [fiT_in _ true (by omega)] at this
    · have := fromInt_any n V false w hn0 hn1
      rwa [fiT_in _ false (by omega)] at this
    · have := reverse_any ⟨(fi n V true).toArray⟩ w (by rw [size_mk, fi_length]; omega)
      rwa [toList_mk, reT_ok (fi_ok n V true (by omega)), fi_turn] at this
  rcases hok : okB s.data.toList with _ | _
  · have C4 : ∀ w, Calls Try.prog 14 #[.string s] w fun e w' => e = .returned (.bool false) ∧ w = w' := fun w => by
      have := valid_any s w hs; rwa [hok] at this
    have C5 : ∀ w, Calls Try.prog 20 #[.string s] w fun e w' => e = .returned (.string ⟨#[]⟩) ∧ Below w.heap.size w w' := fun w => by
      have := invert_any s w hs; rwa [ivT_bad hok] at this
    have C6 : ∀ w, Calls Try.prog 22 #[.string s] w fun e w' => e = .returned (.string ⟨#[]⟩) ∧ Below w.heap.size w w' := fun w => by
      have := reverse_any s w hs; rwa [reT_bad hok] at this
    have C7 : ∀ w, Calls Try.prog 24 #[.string s] w fun e w' => e = .returned (.int .i64 0) ∧ w = w' := fun w => by
      have := ones_any s w hs; rwa [onV_bad hok] at this
    have H4 := Lib.hid C4; have H5 := Lib.hid C5; have H6 := Lib.hid C6; have H7 := Lib.hid C7
    clear C4 C5 C6 C7 hok hn0 hn1 hs
    by_cases h1 : W < 0
    · clear FI
      go_enter Try.func7, Try.ntmps7
      go_wp2_with (first
        | (go_at_call 9; go_must (refine (lives_any _).mono ?_; rintro e w0 ⟨rfl, b0⟩))
        | (go_at_call 14; go_must (refine (H4.out _).mono ?_; rintro e w4 ⟨rfl, rfl⟩))
        | (go_at_call 20; go_must (refine (H5.out _).mono ?_; rintro e w5 ⟨rfl, b5⟩))
        | (go_at_call_of 22 (Value.string s); go_must (refine (H6.out _).mono ?_; rintro e w6 ⟨rfl, b6⟩))
        | (go_at_call 24; go_must (refine (H7.out _).mono ?_; rintro e w7 ⟨rfl, rfl⟩)))
      go_returns
      exact ⟨rfl, by (repeat' (first | with_reducible exact Below.refl _ _ | with_reducible exact Nat.le_refl _ | with_reducible assumption | with_reducible refine below_drewN ?_ _ | with_reducible refine Below.drew ?_ | with_reducible refine Below.trans ?_ (Below.mono (by assumption) ?_) | with_reducible refine Below.alloc ?_ ?_ _ | with_reducible refine le_alloc ?_ _ | with_reducible refine le_drewN ?_ _ | with_reducible refine le_drew ?_ | with_reducible refine Nat.le_trans ?_ (Below.size (by assumption))))⟩
    by_cases h2 : 62 < W
    · clear FI
      go_enter Try.func7, Try.ntmps7
      go_wp2_with (first
        | (go_at_call 9; go_must (refine (lives_any _).mono ?_; rintro e w0 ⟨rfl, b0⟩))
        | (go_at_call 14; go_must (refine (H4.out _).mono ?_; rintro e w4 ⟨rfl, rfl⟩))
        | (go_at_call 20; go_must (refine (H5.out _).mono ?_; rintro e w5 ⟨rfl, b5⟩))
        | (go_at_call_of 22 (Value.string s); go_must (refine (H6.out _).mono ?_; rintro e w6 ⟨rfl, b6⟩))
        | (go_at_call 24; go_must (refine (H7.out _).mono ?_; rintro e w7 ⟨rfl, rfl⟩)))
      go_returns
      exact ⟨rfl, by (repeat' (first | with_reducible exact Below.refl _ _ | with_reducible exact Nat.le_refl _ | with_reducible assumption | with_reducible refine below_drewN ?_ _ | with_reducible refine Below.drew ?_ | with_reducible refine Below.trans ?_ (Below.mono (by assumption) ?_) | with_reducible refine Below.alloc ?_ ?_ _ | with_reducible refine le_alloc ?_ _ | with_reducible refine le_drewN ?_ _ | with_reducible refine le_drew ?_ | with_reducible refine Nat.le_trans ?_ (Below.size (by assumption))))⟩
    obtain ⟨A, B, H1, H2, H3⟩ := FI (by omega) (by omega)
    clear FI
    go_enter Try.func7, Try.ntmps7
    go_wp2_with (first
      | (go_at_call_of 12 (Value.bool true); go_must (refine (H1.out _).mono ?_; rintro e w1 ⟨rfl, b1⟩))
      | (go_at_call_of 12 (Value.bool false); go_must (refine (H2.out _).mono ?_; rintro e w2 ⟨rfl, b2⟩))
      | (go_at_call_of 22 (Value.string A); go_must (refine (H3.out _).mono ?_; rintro e w3 ⟨rfl, b3⟩))
      | (go_at_call 9; go_must (refine (lives_any _).mono ?_; rintro e w0 ⟨rfl, b0⟩))
      | (go_at_call 14; go_must (refine (H4.out _).mono ?_; rintro e w4 ⟨rfl, rfl⟩))
      | (go_at_call 20; go_must (refine (H5.out _).mono ?_; rintro e w5 ⟨rfl, b5⟩))
      | (go_at_call_of 22 (Value.string s); go_must (refine (H6.out _).mono ?_; rintro e w6 ⟨rfl, b6⟩))
      | (go_at_call 24; go_must (refine (H7.out _).mono ?_; rintro e w7 ⟨rfl, rfl⟩)))
    go_returns
    exact ⟨rfl, by (repeat' (first | with_reducible exact Below.refl _ _ | with_reducible exact Nat.le_refl _ | with_reducible assumption | with_reducible refine below_drewN ?_ _ | with_reducible refine Below.drew ?_ | with_reducible refine Below.trans ?_ (Below.mono (by assumption) ?_) | with_reducible refine Below.alloc ?_ ?_ _ | with_reducible refine le_alloc ?_ _ | with_reducible refine le_drewN ?_ _ | with_reducible refine le_drew ?_ | with_reducible refine Nat.le_trans ?_ (Below.size (by assumption))))⟩
  · have hlen := size_len s
    have C4 : ∀ w, Calls Try.prog 14 #[.string s] w fun e w' => e = .returned (.bool true) ∧ w = w' := fun w => by
      have := valid_any s w hs; rwa [hok] at this
    have X : ∃ (I R : ByteArray) (a b : Nat), (a : Int) + b = s.size ∧ (a : Int) ≤ 65536 ∧ (b : Int) ≤ 65536 ∧
        Hid (∀ w, Calls Try.prog 20 #[.string s] w fun e w' => e = .returned (.string I) ∧ Below w.heap.size w w') ∧
        Hid (∀ w, Calls Try.prog 20 #[.string I] w fun e w' => e = .returned (.string s) ∧ Below w.heap.size w w') ∧
        Hid (∀ w, Calls Try.prog 22 #[.string s] w fun e w' => e = .returned (.string R) ∧ Below w.heap.size w w') ∧
        Hid (∀ w, Calls Try.prog 22 #[.string R] w fun e w' => e = .returned (.string s) ∧ Below w.heap.size w w') ∧
        Hid (∀ w, Calls Try.prog 24 #[.string s] w fun e w' => e = .returned (.int .i64 a) ∧ w = w') ∧
        Hid (∀ w, Calls Try.prog 24 #[.string I] w fun e w' => e = .returned (.int .i64 b) ∧ w = w') := by
      have hz := okB_len hok
      have hsum := on1_iv s.data.toList (fun b hb => okB_mem hok hb)
      have hiz : (⟨(iv s.data.toList).toArray⟩ : ByteArray).size ≤ 140737488351232 := by rw [size_mk, iv_length]; omega
      have hrz : (⟨s.data.toList.reverse.toArray⟩ : ByteArray).size ≤ 140737488351232 := by rw [size_mk, List.length_reverse]; omega
      refine ⟨⟨(iv s.data.toList).toArray⟩, ⟨s.data.toList.reverse.toArray⟩, on1 s.data.toList, on1 (iv s.data.toList), by omega, by omega, by omega, fun w => ?_, fun w => ?_, fun w => ?_, fun w => ?_, fun w => ?_, fun w => ?_⟩
      · have := invert_any s w hs; rwa [ivT_ok hok] at this
      · have := invert_any ⟨(iv s.data.toList).toArray⟩ w hiz; rwa [toList_mk, ivT_ok (iv_ok hok), iv_iv hok, bytes_of] at this
      · have := reverse_any s w hs; rwa [reT_ok hok] at this
      · have := reverse_any ⟨s.data.toList.reverse.toArray⟩ w hrz; rwa [toList_mk, reT_ok (rev_ok hok), List.reverse_reverse, bytes_of] at this
      · have := ones_any s w hs; rwa [onV_ok hok] at this
      · have := ones_any ⟨(iv s.data.toList).toArray⟩ w hiz; rwa [toList_mk, onV_ok (iv_ok hok)] at this
    obtain ⟨I, R, a, b, hab, ha, hb, H5, H6, H7, H8, H9, H10⟩ := X
    have H4 := Lib.hid C4
    clear C4 hok hn0 hn1 hs hlen
    by_cases h1 : W < 0
    · clear FI
      go_enter Try.func7, Try.ntmps7
      go_wp2_with (first
        | (go_at_call 9; go_must (refine (lives_any _).mono ?_; rintro e w0 ⟨rfl, b0⟩))
        | (go_at_call 14; go_must (refine (H4.out _).mono ?_; rintro e w4 ⟨rfl, rfl⟩))
        | (go_at_call_of 20 (Value.string s); go_must (refine (H5.out _).mono ?_; rintro e w5 ⟨rfl, b5⟩))
        | (go_at_call_of 20 (Value.string I); go_must (refine (H6.out _).mono ?_; rintro e w6 ⟨rfl, b6⟩))
        | (go_at_call_of 22 (Value.string s); go_must (refine (H7.out _).mono ?_; rintro e w7 ⟨rfl, b7⟩))
        | (go_at_call_of 22 (Value.string R); go_must (refine (H8.out _).mono ?_; rintro e w8 ⟨rfl, b8⟩))
        | (go_at_call_of 24 (Value.string s); go_must (refine (H9.out _).mono ?_; rintro e w9 ⟨rfl, rfl⟩))
        | (go_at_call_of 24 (Value.string I); go_must (refine (H10.out _).mono ?_; rintro e w10 ⟨rfl, rfl⟩)))
      go_returns
      exact ⟨rfl, by (repeat' (first | with_reducible exact Below.refl _ _ | with_reducible exact Nat.le_refl _ | with_reducible assumption | with_reducible refine below_drewN ?_ _ | with_reducible refine Below.drew ?_ | with_reducible refine Below.trans ?_ (Below.mono (by assumption) ?_) | with_reducible refine Below.alloc ?_ ?_ _ | with_reducible refine le_alloc ?_ _ | with_reducible refine le_drewN ?_ _ | with_reducible refine le_drew ?_ | with_reducible refine Nat.le_trans ?_ (Below.size (by assumption))))⟩
    by_cases h2 : 62 < W
    · clear FI
      go_enter Try.func7, Try.ntmps7
      go_wp2_with (first
        | (go_at_call 9; go_must (refine (lives_any _).mono ?_; rintro e w0 ⟨rfl, b0⟩))
        | (go_at_call 14; go_must (refine (H4.out _).mono ?_; rintro e w4 ⟨rfl, rfl⟩))
        | (go_at_call_of 20 (Value.string s); go_must (refine (H5.out _).mono ?_; rintro e w5 ⟨rfl, b5⟩))
        | (go_at_call_of 20 (Value.string I); go_must (refine (H6.out _).mono ?_; rintro e w6 ⟨rfl, b6⟩))
        | (go_at_call_of 22 (Value.string s); go_must (refine (H7.out _).mono ?_; rintro e w7 ⟨rfl, b7⟩))
        | (go_at_call_of 22 (Value.string R); go_must (refine (H8.out _).mono ?_; rintro e w8 ⟨rfl, b8⟩))
        | (go_at_call_of 24 (Value.string s); go_must (refine (H9.out _).mono ?_; rintro e w9 ⟨rfl, rfl⟩))
        | (go_at_call_of 24 (Value.string I); go_must (refine (H10.out _).mono ?_; rintro e w10 ⟨rfl, rfl⟩)))
      go_returns
      exact ⟨rfl, by (repeat' (first | with_reducible exact Below.refl _ _ | with_reducible exact Nat.le_refl _ | with_reducible assumption | with_reducible refine below_drewN ?_ _ | with_reducible refine Below.drew ?_ | with_reducible refine Below.trans ?_ (Below.mono (by assumption) ?_) | with_reducible refine Below.alloc ?_ ?_ _ | with_reducible refine le_alloc ?_ _ | with_reducible refine le_drewN ?_ _ | with_reducible refine le_drew ?_ | with_reducible refine Nat.le_trans ?_ (Below.size (by assumption))))⟩
    obtain ⟨A, B, H1, H2, H3⟩ := FI (by omega) (by omega)
    clear FI
    go_enter Try.func7, Try.ntmps7
    go_wp2_with (first
      | (go_at_call_of 12 (Value.bool true); go_must (refine (H1.out _).mono ?_; rintro e w1 ⟨rfl, b1⟩))
      | (go_at_call_of 12 (Value.bool false); go_must (refine (H2.out _).mono ?_; rintro e w2 ⟨rfl, b2⟩))
      | (go_at_call_of 22 (Value.string A); go_must (refine (H3.out _).mono ?_; rintro e w3 ⟨rfl, b3⟩))
      | (go_at_call 9; go_must (refine (lives_any _).mono ?_; rintro e w0 ⟨rfl, b0⟩))
      | (go_at_call 14; go_must (refine (H4.out _).mono ?_; rintro e w4 ⟨rfl, rfl⟩))
      | (go_at_call_of 20 (Value.string s); go_must (refine (H5.out _).mono ?_; rintro e w5 ⟨rfl, b5⟩))
      | (go_at_call_of 20 (Value.string I); go_must (refine (H6.out _).mono ?_; rintro e w6 ⟨rfl, b6⟩))
      | (go_at_call_of 22 (Value.string s); go_must (refine (H7.out _).mono ?_; rintro e w7 ⟨rfl, b7⟩))
      | (go_at_call_of 22 (Value.string R); go_must (refine (H8.out _).mono ?_; rintro e w8 ⟨rfl, b8⟩))
      | (go_at_call_of 24 (Value.string s); go_must (refine (H9.out _).mono ?_; rintro e w9 ⟨rfl, rfl⟩))
      | (go_at_call_of 24 (Value.string I); go_must (refine (H10.out _).mono ?_; rintro e w10 ⟨rfl, rfl⟩)))
    go_returns
    exact ⟨rfl, by (repeat' (first | with_reducible exact Below.refl _ _ | with_reducible exact Nat.le_refl _ | with_reducible assumption | with_reducible refine below_drewN ?_ _ | with_reducible refine Below.drew ?_ | with_reducible refine Below.trans ?_ (Below.mono (by assumption) ?_) | with_reducible refine Below.alloc ?_ ?_ _ | with_reducible refine le_alloc ?_ _ | with_reducible refine le_drewN ?_ _ | with_reducible refine le_drew ?_ | with_reducible refine Nat.le_trans ?_ (Below.size (by assumption))))⟩

end Go.Proofs.Ytmogmmnldggdhaa
