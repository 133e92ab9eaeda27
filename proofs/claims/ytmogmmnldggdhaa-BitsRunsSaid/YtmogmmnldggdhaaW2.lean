/-
  The walks of the specification's turn, of appendBits, and of FromInt, the program's and the specification's.
-/
import Derived.Test.YtmogmmnldggdhaaW1
namespace Go.Proofs.Ytmogmmnldggdhaa
open Go.RowKit
set_option linter.unusedVariables false
set_option linter.unusedSimpArgs false

theorem drop_at (s : ByteArray) (j : Nat) (h : j < s.size) : s.data.toList.drop j = s[j] :: s.data.toList.drop (j + 1) := by
  rw [List.drop_eq_getElem_cons (by simpa using h)]; rfl
theorem turn_step (s : ByteArray) (k : Nat) (h : k < s.size) : (s.data.toList.drop (k + 1)).reverse ++ [s[k]] = (s.data.toList.drop k).reverse := by
  rw [drop_at s k h, List.reverse_cons]

set_option maxRecDepth 20000 in
set_option maxHeartbeats 1000000 in
theorem turn_any (s : ByteArray) (w : World) (hs : s.size ≤ 140737488351232) :
    Calls Try.prog 29 #[.string s] w fun e w' => e = .returned (.string ⟨s.data.toList.reverse.toArray⟩) ∧ Below w.heap.size w w' := by
  have hs' : (s.size : Int) ≤ 140737488351232 := by omega
  have HLen := Lib.hid (size_len s)
  go_enter Try.func29, Try.ntmps29
  go_wp2
  go_loopw [4, 3] (fun x v wr => ∃ k : Nat, k ≤ s.size ∧ x = .int .i64 ((k : Int) - 1) ∧ Hid (Row wr w.heap.size v (s.data.toList.drop k).reverse) ∧ Below w.heap.size w wr) (fun x _ _ => (intOf x + 1).toNat)
  case atStart => exact ⟨s.size, by omega, val_int (by omega), by
    rw [List.drop_eq_nil_of_le (by rw [← HLen.out]; omega)]; exact Row.empty w _ (Nat.le_refl _), ba w _⟩
  case round =>
    obtain ⟨k, hk, rfl, HF, hb⟩ := hrel
    have hsz := hb.size
    obtain ⟨A', N', c', rfl, -⟩ := HF.out.form
    rcases Nat.eq_zero_or_pos k with rfl | hk0
    · have kc := HF.out.conv
      rw [List.drop_zero] at kc
      go_wp2

      go_returns
      exact ⟨rfl, hb⟩
    · obtain ⟨j, rfl⟩ : ∃ j, k = j + 1 := ⟨k - 1, by omega⟩
      have hj : j < s.size := by omega
      have HY : Hid (((s.data.toList.drop (j + 1)).reverse).length + 1 ≤ 140737488355328) := by
        rw [List.length_reverse, List.length_drop, ← HLen.out]; show _ ≤ _; omega
      have e1 : ((j + 1 : Nat) : Int) - 1 = j := by omega
      rw [e1]
      go_wp2_with (at_builtin; go_must (refine wpList_append_new rfl (.tmp 13) (.tmp 17) rfl rfl rfl HF.out hsz s[j] rfl HY.out ?_; intro v1 w1 ho1 hb1))
      go_roundw
      case rel => exact ⟨j, by omega, by go_num, by rw [← turn_step s j hj]; exact ho1, hb.trans hb1⟩
      case measure => simp [intOf]

/-- '& 1', and the character. -/
theorem and_1 (x : Int) : bits .and .i64 x 1 = x % 2 := by
  show IntKind.i64.wrap ((BitVec.ofInt 64 x &&& BitVec.ofInt 64 1).toNat : Int) = _
  have e1 : (BitVec.ofInt 64 1).toNat = 1 := by decide
  rw [BitVec.toNat_and, e1, nat_mask1, BitVec.toNat_ofInt, IntKind.wrap_i64]
  omega
theorem bit_y {n : Int} (h0 : -9223372036854775808 ≤ n) (h1 : n ≤ 9223372036854775807) (P : Nat) : (48 + bits .and .i64 (n / 2 ^ P) 1 % 256) % 256 = ((bc n P).toNat : Int) := by
  rw [and_1, bc_val]
  omega

set_option maxRecDepth 20000 in
set_option maxHeartbeats 1000000 in
theorem appendBits_any (v : Value) (l : List UInt8) (n : Int) (W : Nat) (msb : Bool) (w : World) (B : Nat) (hv : Row w B v l) (hB : B ≤ w.heap.size) (hW : W ≤ 62) (hl : l.length ≤ 1048576) (hn0 : -9223372036854775808 ≤ n) (hn1 : n ≤ 9223372036854775807) :
    Calls Try.prog 30 #[v, .int .i64 n, .int .i64 W, .bool msb] w fun e w' => ∃ v', e = .returned v' ∧ Row w' B v' (l ++ fi n W msb) ∧ Below B w w' := by
  obtain ⟨A0, N0, c0, rfl, -⟩ := hv.form
  have HV := Lib.hid hv
  go_enter Try.func30, Try.ntmps30
  go_wp2
  go_loopw [11, 0] (fun x v wr => ∃ k : Nat, k ≤ W ∧ x = .int .i64 k ∧ Hid (Row wr B v (l ++ ab n W msb k)) ∧ Below B w wr) (fun x _ _ => W - (intOf x).toNat)
  case atStart => exact ⟨0, by omega, rfl, by rw [ab_zero, List.append_nil]; exact HV.out, Below.refl _ _⟩
  case round =>
    obtain ⟨k, hk, rfl, HF, hb⟩ := hrel
    have hsz := Nat.le_trans hB hb.size
    obtain ⟨A', N', c', rfl, -⟩ := HF.out.form
    by_cases he : k = W
    · subst he
      go_wp2
      go_returns
      exact ⟨_, rfl, HF.out, hb⟩
    · have hlt : k < W := by omega
      have hp := pl_lt msb hlt
      have HY : Hid ((l ++ ab n W msb k).length + 1 ≤ 140737488355328) := by
        rw [List.length_append, ab_length]; show _ ≤ _; omega
      obtain ⟨P, hP⟩ : ∃ P, pl W msb k = P := ⟨_, rfl⟩
      have HC : ∀ w, Calls Try.prog 31 #[.int .i64 k, .int .i64 W, .bool msb] w fun e w' => e = .returned (.int .i64 P) ∧ w = w' := fun w => by
        rw [← hP]; exact place_any k W msb w hlt (by omega)
      rw [hP] at hp
      go_wp2_with (first
        | (go_at_call 31; go_must (refine (HC _).mono ?_; rintro e w1 ⟨rfl, rfl⟩))
        | (at_builtin; go_must (refine wpList_append_new rfl (.tmp 14) (.tmp 24) rfl rfl rfl HF.out hsz (bc n P) ?hy HY.out ?_; (case hy => (rw [and_1, bc_val]; omega)); intro v1 w1 ho1 hb1)))
      go_roundw
      case rel => exact ⟨k + 1, by omega, by go_num, by rw [ab_succ, hP, ← List.append_assoc]; exact ho1, hb.trans hb1⟩
      case measure => simp [intOf]; omega

end Go.Proofs.Ytmogmmnldggdhaa
