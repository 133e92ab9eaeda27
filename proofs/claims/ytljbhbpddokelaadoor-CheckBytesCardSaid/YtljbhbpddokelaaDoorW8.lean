/-
  The walks of Sum, Xor and Carry, the program's and the specification's.
-/
import Derived.Test.YtljbhbpddokelaaDoorM4
import Derived.Test.YtljbhbpddokelaaDoorB1
namespace Go.Proofs.YtljbhbpddokelaaDoor
open Go.RowKit
set_option linter.unusedVariables false
set_option linter.unusedSimpArgs false

set_option maxHeartbeats 1000000 in
theorem sum_any (s : ByteArray) (w : World) (hs : s.size ≤ 140737488351232) :
    Calls Tryd.prog 22 #[.string s] w fun e w' => e = .returned (.int .i64 (sN s.data.toList % 256 : Nat)) ∧ w = w' := by
  have hs' : (s.size : Int) ≤ 140737488351232 := by omega
  have HA := Lib.hid (all_take s)
  go_enter Tryd.func22, Tryd.ntmps22
  go_wp2
  go_loop [3, 7] (fun y x => ∃ k N : Nat, k ≤ s.size ∧ N < 256 ∧ x = .int .i64 k ∧ y = .int .u8 N ∧ Hid (N = sN (s.data.toList.take k) % 256)) (fun _ x => s.size - (intOf x).toNat)
  case atStart => exact ⟨0, 0, by omega, by omega, rfl, rfl, by rw [List.take_zero]; rfl⟩
  case round =>
    obtain ⟨k, N, hk, hN, rfl, rfl, HN⟩ := hrel
    by_cases he : k = s.size
    · subst he
      go_wp2
      go_returns
      exact ⟨ret_int (by have := HN.out; rw [HA.out] at this; omega), rfl⟩
    · have hlt : k < s.size := by omega
      have hc0 : s[k].toNat < 256 := UInt8.toNat_lt _
      have HS := Lib.hid (sN_take s k hlt)
      go_wp2
      go_round
      case rel => exact ⟨k + 1, (N + s[k].toNat) % 256, by omega, by omega, by go_num, val_int (by omega), by rw [HS.out]; have := HN.out; show _ = _; omega⟩
      case measure => simp [intOf]; omega

set_option maxHeartbeats 1000000 in
theorem rsum_any (s : ByteArray) (w : World) (hs : s.size ≤ 140737488351232) :
    Calls Tryd.prog 23 #[.string s] w fun e w' => e = .returned (.int .i64 (sN s.data.toList % 256 : Nat)) ∧ w = w' := by
  have hs' : (s.size : Int) ≤ 140737488351232 := by omega
  have HA := Lib.hid (all_take s)
  go_enter Tryd.func23, Tryd.ntmps23
  go_wp2
  go_loop [3, 4] (fun y x => ∃ k N : Nat, k ≤ s.size ∧ N < 256 ∧ x = .int .i64 k ∧ y = .int .i64 N ∧ Hid (N = sN (s.data.toList.take k) % 256)) (fun _ x => s.size - (intOf x).toNat)
  case atStart => exact ⟨0, 0, by omega, by omega, rfl, rfl, by rw [List.take_zero]; rfl⟩
  case round =>
    obtain ⟨k, N, hk, hN, rfl, rfl, HN⟩ := hrel
    by_cases he : k = s.size
    · subst he
      go_wp2
      go_returns
      exact ⟨ret_int (by have := HN.out; rw [HA.out] at this; omega), rfl⟩
    · have hlt : k < s.size := by omega
      have hc0 : s[k].toNat < 256 := UInt8.toNat_lt _
      have HS := Lib.hid (sN_take s k hlt)
      go_wp2
      go_round
      case rel => exact ⟨k + 1, (N + s[k].toNat) % 256, by omega, by omega, by go_num, val_int (by omega), by rw [HS.out]; have := HN.out; show _ = _; omega⟩
      case measure => simp [intOf]; omega

set_option maxHeartbeats 1000000 in
theorem xor_any (s : ByteArray) (w : World) (hs : s.size ≤ 140737488351232) :
    Calls Tryd.prog 24 #[.string s] w fun e w' => e = .returned (.int .i64 (xN s.data.toList : Nat)) ∧ w = w' := by
  have hs' : (s.size : Int) ≤ 140737488351232 := by omega
  have HA := Lib.hid (all_take s)
  go_enter Tryd.func24, Tryd.ntmps24
  go_wp2
  go_loop [3, 7] (fun y x => ∃ k N : Nat, k ≤ s.size ∧ N < 256 ∧ x = .int .i64 k ∧ y = .int .u8 N ∧ Hid (N = xN (s.data.toList.take k))) (fun _ x => s.size - (intOf x).toNat)
  case atStart => exact ⟨0, 0, by omega, by omega, rfl, rfl, by rw [List.take_zero]; rfl⟩
  case round =>
    obtain ⟨k, N, hk, hN, rfl, rfl, HN⟩ := hrel
    by_cases he : k = s.size
    · subst he
      go_wp2
      go_returns
      exact ⟨ret_int (by have := HN.out; rw [HA.out] at this; omega), rfl⟩
    · have hlt : k < s.size := by omega
      have hc0 : s[k].toNat < 256 := UInt8.toNat_lt _
      have HS := Lib.hid (xN_take s k hlt)
      have hx := xor_u8 N s[k].toNat hN hc0
      go_wp2
      go_round
      case rel => exact ⟨k + 1, N ^^^ s[k].toNat, by omega, Nat.xor_lt_two_pow (n := 8) hN hc0, by go_num, val_int (by first | exact hx | rfl | omega), by rw [HS.out, ← HN.out]; exact rfl⟩
      case measure => simp [intOf]; omega

set_option maxHeartbeats 1000000 in
theorem rxor_any (s : ByteArray) (w : World) (hs : s.size ≤ 140737488351232) :
    Calls Tryd.prog 25 #[.string s] w fun e w' => e = .returned (.int .i64 (xN s.data.toList : Nat)) ∧ w = w' := by
  have hs' : (s.size : Int) ≤ 140737488351232 := by omega
  have HA := Lib.hid (all_take s)
  go_enter Tryd.func25, Tryd.ntmps25
  go_wp2
  go_loop [3, 4] (fun y x => ∃ k N : Nat, k ≤ s.size ∧ N < 256 ∧ x = .int .i64 k ∧ y = .int .i64 N ∧ Hid (N = xN (s.data.toList.take k))) (fun _ x => s.size - (intOf x).toNat)
  case atStart => exact ⟨0, 0, by omega, by omega, rfl, rfl, by rw [List.take_zero]; rfl⟩
  case round =>
    obtain ⟨k, N, hk, hN, rfl, rfl, HN⟩ := hrel
    by_cases he : k = s.size
    · subst he
      go_wp2
      go_returns
      exact ⟨ret_int (by have := HN.out; rw [HA.out] at this; omega), rfl⟩
    · have hlt : k < s.size := by omega
      have hc0 : s[k].toNat < 256 := UInt8.toNat_lt _
      have HS := Lib.hid (xN_take s k hlt)
      have hx := xor_i64 N s[k].toNat (by omega) (by omega)
      go_wp2
      go_round
      case rel => exact ⟨k + 1, N ^^^ s[k].toNat, by omega, Nat.xor_lt_two_pow (n := 8) hN hc0, by go_num, val_int (by first | exact hx | rfl | omega), by rw [HS.out, ← HN.out]; exact rfl⟩
      case measure => simp [intOf]; omega

set_option maxHeartbeats 1000000 in
theorem carry_any (s : ByteArray) (w : World) (hs : s.size ≤ 140737488351232) :
    Calls Tryd.prog 26 #[.string s] w fun e w' => e = .returned (.int .i64 (255 - cN (sN s.data.toList) : Nat)) ∧ w = w' := by
  have hs' : (s.size : Int) ≤ 140737488351232 := by omega
  have HA := Lib.hid (all_take s)
  go_enter Tryd.func26, Tryd.ntmps26
  go_wp2
  go_loop [3, 7] (fun y x => ∃ k N : Nat, k ≤ s.size ∧ N ≤ 255 ∧ x = .int .i64 k ∧ y = .int .i64 N ∧ Hid (N = cN (sN (s.data.toList.take k)))) (fun _ x => s.size - (intOf x).toNat)
  case atStart => exact ⟨0, 0, by omega, by omega, rfl, rfl, by rw [List.take_zero]; rfl⟩
  case round =>
    obtain ⟨k, N, hk, hN, rfl, rfl, HN⟩ := hrel
    by_cases he : k = s.size
    · subst he
      go_wp2
      go_returns
      exact ⟨ret_int (by have := HN.out; rw [HA.out] at this; omega), rfl⟩
    · have hlt : k < s.size := by omega
      have hc0 : s[k].toNat < 256 := UInt8.toNat_lt _
      have HS := Lib.hid (show cN (sN (s.data.toList.take (k + 1))) = if 255 < N + s[k].toNat then N + s[k].toNat - 255 else N + s[k].toNat by rw [sN_take s k hlt, cN_add _ _ (by omega), ← HN.out])
      clear HN
      by_cases hbig : 255 < N + s[k].toNat
      · rw [if_pos hbig] at HS
        go_wp2
        go_round
        case rel => exact ⟨k + 1, N + s[k].toNat - 255, by omega, by omega, by go_num, val_int (by omega), HS.out.symm⟩
        case measure => simp [intOf]; omega
      · rw [if_neg hbig] at HS
        go_wp2
        go_round
        case rel => exact ⟨k + 1, N + s[k].toNat, by omega, by omega, by go_num, val_int (by omega), HS.out.symm⟩
        case measure => simp [intOf]; omega

set_option maxHeartbeats 1000000 in
theorem rcarry_any (s : ByteArray) (w : World) (hs : s.size ≤ 140737488351232) :
    Calls Tryd.prog 27 #[.string s] w fun e w' => e = .returned (.int .i64 (255 - cN (sN s.data.toList) : Nat)) ∧ w = w' := by
  have hs' : (s.size : Int) ≤ 140737488351232 := by omega
  have HA := Lib.hid (all_take s)
  go_enter Tryd.func27, Tryd.ntmps27
  go_wp2
  go_loop [3, 4] (fun y x => ∃ k N : Nat, k ≤ s.size ∧ N ≤ 255 ∧ x = .int .i64 k ∧ y = .int .i64 N ∧ Hid (N = cN (sN (s.data.toList.take k)))) (fun _ x => s.size - (intOf x).toNat)
  case atStart => exact ⟨0, 0, by omega, by omega, rfl, rfl, by rw [List.take_zero]; rfl⟩
  case round =>
    obtain ⟨k, N, hk, hN, rfl, rfl, HN⟩ := hrel
    by_cases he : k = s.size
    · subst he
      go_wp2
      go_returns
      exact ⟨ret_int (by have := HN.out; rw [HA.out] at this; omega), rfl⟩
    · have hlt : k < s.size := by omega
      have hc0 : s[k].toNat < 256 := UInt8.toNat_lt _
      have HS := Lib.hid (show cN (sN (s.data.toList.take (k + 1))) = if 255 < N + s[k].toNat then N + s[k].toNat - 255 else N + s[k].toNat by rw [sN_take s k hlt, cN_add _ _ (by omega), ← HN.out])
      clear HN
      by_cases hbig : 255 < N + s[k].toNat
      · rw [if_pos hbig] at HS
        go_wp2
        go_round
        case rel => exact ⟨k + 1, N + s[k].toNat - 255, by omega, by omega, by go_num, val_int (by omega), HS.out.symm⟩
        case measure => simp [intOf]; omega
      · rw [if_neg hbig] at HS
        go_wp2
        go_round
        case rel => exact ⟨k + 1, N + s[k].toNat, by omega, by omega, by go_num, val_int (by omega), HS.out.symm⟩
        case measure => simp [intOf]; omega

end Go.Proofs.YtljbhbpddokelaaDoor
