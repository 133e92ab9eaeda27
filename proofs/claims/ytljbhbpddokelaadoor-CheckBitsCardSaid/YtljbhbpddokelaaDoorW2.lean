/-
  The walks of the specification's turn, of appendBits, and of FromInt, the program's and the specification's.
-/
import Derived.Test.YtljbhbpddokelaaDoorW1
namespace Go.Proofs.YtljbhbpddokelaaDoor
open Go.RowKit
set_option linter.unusedVariables false
set_option linter.unusedSimpArgs false

theorem drop_at (s : ByteArray) (j : Nat) (h : j < s.size) : s.data.toList.drop j = s[j] :: s.data.toList.drop (j + 1) := by
  rw [List.drop_eq_getElem_cons (by simpa using h)]; rfl
theorem turn_step (s : ByteArray) (k : Nat) (h : k < s.size) : (s.data.toList.drop (k + 1)).reverse ++ [s[k]] = (s.data.toList.drop k).reverse := by
  rw [drop_at s k h, List.reverse_cons]

/-- '& 1', and the character. -/
theorem and_1 (x : Int) : bits .and .i64 x 1 = x % 2 := by
  show IntKind.i64.wrap ((BitVec.ofInt 64 x &&& BitVec.ofInt 64 1).toNat : Int) = _
  have e1 : (BitVec.ofInt 64 1).toNat = 1 := by decide
  rw [BitVec.toNat_and, e1, nat_mask1, BitVec.toNat_ofInt, IntKind.wrap_i64]
  omega
theorem bit_y {n : Int} (h0 : -9223372036854775808 ≤ n) (h1 : n ≤ 9223372036854775807) (P : Nat) : (48 + bits .and .i64 (n / 2 ^ P) 1 % 256) % 256 = ((bc n P).toNat : Int) := by
  rw [and_1, bc_val]
  omega

set_option maxRecDepth 20000 in
set_option maxHeartbeats 1000000 in
theorem appendBits_any (v : Value) (l : List UInt8) (n : Int) (W : Nat) (msb : Bool) (w : World) (B : Nat) (hv : Row w B v l) (hB : B ≤ w.heap.size) (hW : W ≤ 62) (hl : l.length ≤ 1048576) (hn0 : -9223372036854775808 ≤ n) (hn1 : n ≤ 9223372036854775807) :
    Calls Tryd.prog 38 #[v, .int .i64 n, .int .i64 W, .bool msb] w fun e w' => ∃ v', e = .returned v' ∧ Row w' B v' (l ++ fi n W msb) ∧ Below B w w' := by
  obtain ⟨A0, N0, c0, rfl, -⟩ := hv.form
  have HV := Lib.hid hv
  go_enter Tryd.func38, Tryd.ntmps38
  go_wp2
  go_loopw [11, 0] (fun x v wr => ∃ k : Nat, k ≤ W ∧ x = .int .i64 k ∧ Hid (Row wr B v (l ++ ab n W msb k)) ∧ Below B w wr) (fun x _ _ => W - (intOf x).toNat)
  case atStart => exact ⟨0, by omega, rfl, by rw [ab_zero, List.append_nil]; exact HV.out, Below.refl _ _⟩
  case round =>
    obtain ⟨k, hk, rfl, HF, hb⟩ := hrel
    have hsz := Nat.le_trans hB hb.size
    obtain ⟨A', N', c', rfl, -⟩ := HF.out.form
    by_cases he : k = W
    · subst he
      go_wp2
      go_returns
      exact ⟨_, rfl, HF.out, hb⟩
    · have hlt : k < W := by omega
      have hp := pl_lt msb hlt
      have HY : Hid ((l ++ ab n W msb k).length + 1 ≤ 140737488355328) := by
        rw [List.length_append, ab_length]; show _ ≤ _; omega
      obtain ⟨P, hP⟩ : ∃ P, pl W msb k = P := ⟨_, rfl⟩
      have HC : ∀ w, Calls Tryd.prog 41 #[.int .i64 k, .int .i64 W, .bool msb] w fun e w' => e = .returned (.int .i64 P) ∧ w = w' := fun w => by
        rw [← hP]; exact place_any k W msb w hlt (by omega)
      rw [hP] at hp
      go_wp2_with (first
        | (go_at_call 41; go_must (refine (HC _).mono ?_; rintro e w1 ⟨rfl, rfl⟩))
        | (at_builtin; go_must (refine wpList_append_new rfl (.tmp 14) (.tmp 24) rfl rfl rfl HF.out hsz (bc n P) ?hy HY.out ?_; (case hy => (rw [and_1, bc_val]; omega)); intro v1 w1 ho1 hb1)))
      go_roundw
      case rel => exact ⟨k + 1, by omega, by go_num, by rw [ab_succ, hP, ← List.append_assoc]; exact ho1, hb.trans hb1⟩
      case measure => simp [intOf]; omega

end Go.Proofs.YtljbhbpddokelaaDoor
