/-
  The walk of the statement BitsRoundTrip.
-/
import Derived.Test.YtmogmmnldggdhaaW9
namespace Go.Proofs.Ytmogmmnldggdhaa
open Go.RowKit
set_option linter.unusedVariables false

theorem shl_1 {V : Nat} (h : V ≤ 62) : wrap64 (2 ^ V) = ((2 ^ V : Nat) : Int) ∧ 1 ≤ 2 ^ V ∧ 2 ^ V ≤ 4611686018427387904 := by
  have h2 : 2 ^ V ≤ 2 ^ 62 := Nat.pow_le_pow_right (by omega) h
  have h0 : 1 ≤ 2 ^ V := Nat.two_pow_pos V
  have h1 : (2 : Int) ^ V = ((2 ^ V : Nat) : Int) := by simp
  refine ⟨?_, h0, h2⟩
  rw [h1]
  generalize 2 ^ V = P at *
  unfold wrap64
  omega

set_option maxRecDepth 20000 in
set_option maxHeartbeats 2000000 in
theorem law_round_out (n W : Int) (b : ByteArray) (w : World) (hb : b.size ≤ 140737488351232) (hn0 : -9223372036854775808 ≤ n) (hn1 : n ≤ 9223372036854775807) (h : W < 0 ∨ 62 < W ∨ n < 0 ∨ (∃ V : Nat, W = V ∧ ((2 ^ V : Nat) : Int) ≤ n) ∨ 8192 < b.size) :
    Calls Try.prog 6 #[.int .i64 n, .int .i64 W, .string b] w fun e w' => e = .returned (.bool true) ∧ Below w.heap.size w w' := by
  have hb' : (b.size : Int) ≤ 140737488351232 := by omega
  by_cases h1 : W < 0
  · clear h
    go_enter Try.func6, Try.ntmps6
    go_wp2_with (first
      | (go_at_call 9; go_must (refine (lives_any _).mono ?_; rintro e w0 ⟨rfl, b0⟩)))
    go_returns
    exact ⟨rfl, by (repeat' (first | with_reducible exact Below.refl _ _ | with_reducible exact Nat.le_refl _ | with_reducible assumption | with_reducible refine below_drewN ?_ _ | with_reducible refine Below.drew ?_ | with_reducible refine Below.trans ?_ (Below.mono (by assumption) ?_) | with_reducible refine Below.alloc ?_ ?_ _ | with_reducible refine le_alloc ?_ _ | with_reducible refine le_drewN ?_ _ | with_reducible refine le_drew ?_ | with_reducible refine Nat.le_trans ?_ (Below.size (by assumption))))⟩
  by_cases h2 : 62 < W
  · clear h
    go_enter Try.func6, Try.ntmps6
    go_wp2_with (first
      | (go_at_call 9; go_must (refine (lives_any _).mono ?_; rintro e w0 ⟨rfl, b0⟩)))
    go_returns
    exact ⟨rfl, by (repeat' (first | with_reducible exact Below.refl _ _ | with_reducible exact Nat.le_refl _ | with_reducible assumption | with_reducible refine below_drewN ?_ _ | with_reducible refine Below.drew ?_ | with_reducible refine Below.trans ?_ (Below.mono (by assumption) ?_) | with_reducible refine Below.alloc ?_ ?_ _ | with_reducible refine le_alloc ?_ _ | with_reducible refine le_drewN ?_ _ | with_reducible refine le_drew ?_ | with_reducible refine Nat.le_trans ?_ (Below.size (by assumption))))⟩
  by_cases h3 : n < 0
  · clear h
    go_enter Try.func6, Try.ntmps6
    go_wp2_with (first
      | (go_at_call 9; go_must (refine (lives_any _).mono ?_; rintro e w0 ⟨rfl, b0⟩)))
    go_returns
    exact ⟨rfl, by (repeat' (first | with_reducible exact Below.refl _ _ | with_reducible exact Nat.le_refl _ | with_reducible assumption | with_reducible refine below_drewN ?_ _ | with_reducible refine Below.drew ?_ | with_reducible refine Below.trans ?_ (Below.mono (by assumption) ?_) | with_reducible refine Below.alloc ?_ ?_ _ | with_reducible refine le_alloc ?_ _ | with_reducible refine le_drewN ?_ _ | with_reducible refine le_drew ?_ | with_reducible refine Nat.le_trans ?_ (Below.size (by assumption))))⟩
  obtain ⟨V, rfl⟩ : ∃ V : Nat, W = V := ⟨W.toNat, by omega⟩
  obtain ⟨hw, hp0, hp1⟩ := shl_1 (V := V) (by omega)
  obtain ⟨P, hP⟩ : ∃ P, 2 ^ V = P := ⟨_, rfl⟩
  rw [hP] at hw hp0 hp1
  by_cases h4 : (P : Int) ≤ n
  · clear h hP
    go_enter Try.func6, Try.ntmps6
    go_wp2_with (first
      | (go_at_call 9; go_must (refine (lives_any _).mono ?_; rintro e w0 ⟨rfl, b0⟩)))
    go_returns
    exact ⟨rfl, by (repeat' (first | with_reducible exact Below.refl _ _ | with_reducible exact Nat.le_refl _ | with_reducible assumption | with_reducible refine below_drewN ?_ _ | with_reducible refine Below.drew ?_ | with_reducible refine Below.trans ?_ (Below.mono (by assumption) ?_) | with_reducible refine Below.alloc ?_ ?_ _ | with_reducible refine le_alloc ?_ _ | with_reducible refine le_drewN ?_ _ | with_reducible refine le_drew ?_ | with_reducible refine Nat.le_trans ?_ (Below.size (by assumption))))⟩
  · have h5 : 8192 < b.size := by
      rcases h with h | h | h | ⟨V', e, h⟩ | h
      · omega
      · omega
      · omega
      · have e' : V = V' := by omega
        subst e'
        rw [hP] at h
        exact absurd h h4
      · exact h
    clear h hP
    go_enter Try.func6, Try.ntmps6
    go_wp2_with (first
      | (go_at_call 9; go_must (refine (lives_any _).mono ?_; rintro e w0 ⟨rfl, b0⟩)))
    go_returns
    exact ⟨rfl, by (repeat' (first | with_reducible exact Below.refl _ _ | with_reducible exact Nat.le_refl _ | with_reducible assumption | with_reducible refine below_drewN ?_ _ | with_reducible refine Below.drew ?_ | with_reducible refine Below.trans ?_ (Below.mono (by assumption) ?_) | with_reducible refine Below.alloc ?_ ?_ _ | with_reducible refine le_alloc ?_ _ | with_reducible refine le_drewN ?_ _ | with_reducible refine le_drew ?_ | with_reducible refine Nat.le_trans ?_ (Below.size (by assumption))))⟩

set_option maxRecDepth 20000 in
set_option maxHeartbeats 2000000 in
theorem law_round (n V : Nat) (b : ByteArray) (w : World) (hb : b.size ≤ 8192) (hV : V ≤ 62) (hn : n < 2 ^ V) :
    Calls Try.prog 6 #[.int .i64 n, .int .i64 V, .string b] w fun e w' => e = .returned (.bool true) ∧ Below w.heap.size w w' := by
  have hlen := size_len b
  obtain ⟨hw, hp0, hp1⟩ := shl_1 hV
  have FI : ∀ (msb : Bool), ∃ T : ByteArray, T.size = V ∧ (∀ w, Calls Try.prog 12 #[.int .i64 n, .int .i64 V, .bool msb] w fun e w' => e = .returned (.string T) ∧ Below w.heap.size w w') ∧
      ∀ w, Calls Try.prog 10 #[.string T, .bool msb] w fun e w' => e = .returned (.tuple #[.int .i64 n, .int .i64 (0 : Nat)]) ∧ Below w.heap.size w w' := fun msb => by
    refine ⟨⟨(fi n V msb).toArray⟩, by rw [size_mk, fi_length], fun w => ?_, fun w => ?_⟩
    · have := fromInt_any n V msb w (by omega) (by omega)
      rwa [fiT_in _ msb hV] at this
    · have := int_any ⟨(fi n V msb).toArray⟩ msb w (by rw [size_mk, fi_length]; omega)
      unfold inVal at this
      rw [toList_mk] at this
      have hi := in_ok msb (fi_ok n V msb (by omega)) (by rw [fi_length]; exact hV)
      rw [hi.1, hi.2, numV_fi n V msb hn] at this
      exact this
  have FB : ∀ (msb : Bool), ∃ T : ByteArray, T.size = 8 * b.size ∧ (∀ w, Calls Try.prog 18 #[.string b, .bool msb] w fun e w' => e = .returned (.string T) ∧ Below w.heap.size w w') ∧
      ∀ w, Calls Try.prog 16 #[.string T, .bool msb] w fun e w' => e = .returned (.tuple #[.string b, .int .i64 (0 : Nat)]) ∧ Below w.heap.size w w' := fun msb => by
    have hz : (⟨(fb b.data.toList msb).toArray⟩ : ByteArray).size = 8 * b.size := by rw [size_mk, fb_length, hlen]
    refine ⟨⟨(fb b.data.toList msb).toArray⟩, hz, fun w => ?_, fun w => ?_⟩
    · have := fromBytes_any b msb w (by omega)
      rwa [show fbT b.data.toList msb = fb b.data.toList msb by unfold fbT; rw [if_pos (by omega)]] at this
    · have := bytes_any ⟨(fb b.data.toList msb).toArray⟩ msb w (by omega)
      unfold byVal at this
      rw [toList_mk] at this
      have hi := by_ok msb (fb_ok b.data.toList msb (by omega)) (by rw [fb_length]; omega)
      rw [hi.1, hi.2, by8_fb, bytes_of] at this
      exact this
  obtain ⟨T1, hz1, C1, C2⟩ := FI true
  obtain ⟨T2, hz2, C3, C4⟩ := FI false
  obtain ⟨G1, hy1, C5, C6⟩ := FB true
  obtain ⟨G2, hy2, C7, C8⟩ := FB false
  have hz1' : (T1.size : Int) = V := by omega
  have hy1' : (G1.size : Int) = 8 * b.size := by omega
  obtain ⟨P, hP⟩ : ∃ P, 2 ^ V = P := ⟨_, rfl⟩
  rw [hP] at hw hp0 hp1 hn
  have hb' : (b.size : Int) ≤ 8192 := by omega
  have H1 := Lib.hid C1; have H2 := Lib.hid C2; have H3 := Lib.hid C3; have H4 := Lib.hid C4; have H5 := Lib.hid C5; have H6 := Lib.hid C6; have H7 := Lib.hid C7; have H8 := Lib.hid C8
  clear C1 C2 C3 C4 C5 C6 C7 C8 FI FB hP hz1 hz2 hy1 hy2 hlen
  go_enter Try.func6, Try.ntmps6
  go_wp2_with (first
    | (go_at_call 9; go_must (refine (lives_any _).mono ?_; rintro e w0 ⟨rfl, b0⟩))
    | (go_at_call_of 12 (Value.bool true); go_must (refine (H1.out _).mono ?_; rintro e w1 ⟨rfl, b1⟩))
    | (go_at_call_of 10 (Value.bool true); go_must (refine (H2.out _).mono ?_; rintro e w2 ⟨rfl, b2⟩))
    | (go_at_call_of 12 (Value.bool false); go_must (refine (H3.out _).mono ?_; rintro e w3 ⟨rfl, b3⟩))
    | (go_at_call_of 10 (Value.bool false); go_must (refine (H4.out _).mono ?_; rintro e w4 ⟨rfl, b4⟩))
    | (go_at_call_of 18 (Value.bool true); go_must (refine (H5.out _).mono ?_; rintro e w5 ⟨rfl, b5⟩))
    | (go_at_call_of 16 (Value.bool true); go_must (refine (H6.out _).mono ?_; rintro e w6 ⟨rfl, b6⟩))
    | (go_at_call_of 18 (Value.bool false); go_must (refine (H7.out _).mono ?_; rintro e w7 ⟨rfl, b7⟩))
    | (go_at_call_of 16 (Value.bool false); go_must (refine (H8.out _).mono ?_; rintro e w8 ⟨rfl, b8⟩)))
  go_returns
  exact ⟨rfl, by (repeat' (first | with_reducible exact Below.refl _ _ | with_reducible exact Nat.le_refl _ | with_reducible assumption | with_reducible refine below_drewN ?_ _ | with_reducible refine Below.drew ?_ | with_reducible refine Below.trans ?_ (Below.mono (by assumption) ?_) | with_reducible refine Below.alloc ?_ ?_ _ | with_reducible refine le_alloc ?_ _ | with_reducible refine le_drewN ?_ _ | with_reducible refine le_drew ?_ | with_reducible refine Nat.le_trans ?_ (Below.size (by assumption))))⟩

end Go.Proofs.Ytmogmmnldggdhaa
