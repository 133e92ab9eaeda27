/-
  The walks of the number functions of package ratio and of its specification: magnitude, size, divisor, gcd.
-/
import Derived.Test.YtmbeaagpjpphhaaRows
import Derived.Test.YtmbeaagpjpphhaaZ02
import Derived.WalkKit
import Derived.WalkSpells
import Derived.WalkLawsBesides
import Derived.Deep.QuietTactic
import Derived.BigQuiet
import Derived.IntWalk
import Derived.Lib.Hide
namespace Go.Proofs.Ytmbeaagpjpphhaa
namespace Sr
open Go.RowKit

theorem ret_int {k : IntKind} {a b : Int} (h : a = b) : Ending.returned (.int k a) = .returned (.int k b) := by rw [h]
theorem val_int {k : IntKind} {a b : Int} (h : a = b) : Value.int k a = .int k b := by rw [h]

set_option maxHeartbeats 400000 in
theorem mag_any (a : Int) (w : World) (h0 : -9223372036854775808 ≤ a) (h1 : a ≤ 9223372036854775807) :
    Calls Try.prog 111 #[.int .i64 a] w fun e w' => e = .returned (.int .u64 (a.natAbs : Int)) ∧ w = w' := by
  go_enter Try.func111, Try.ntmps111
  by_cases hn : a < 0
  · go_wp2
    go_ret
    exact ⟨ret_int (by rw [IntKind.wrap_u64, IntKind.wrap_u64]; omega), rfl⟩
  · go_wp2
    go_ret
    exact ⟨ret_int (by omega), rfl⟩

set_option maxHeartbeats 400000 in
theorem size_any (a : Int) (w : World) (h0 : -9223372036854775808 ≤ a) (h1 : a ≤ 9223372036854775807) :
    Calls Try.prog 97 #[.int .i64 a] w fun e w' => e = .returned (.int .u64 (a.natAbs : Int)) ∧ w = w' := by
  go_enter Try.func97, Try.ntmps97
  by_cases hn : a < 0
  · go_wp2
    go_ret
    exact ⟨ret_int (by omega), rfl⟩
  · go_wp2
    go_ret
    exact ⟨ret_int (by omega), rfl⟩

set_option maxHeartbeats 400000 in
theorem div_any (a b : Nat) (w : World) (h0 : a < 18446744073709551616) (h1 : b < 18446744073709551616) :
    Calls Try.prog 110 #[.int .u64 a, .int .u64 b] w fun e w' => e = .returned (.int .u64 (Nat.gcd a b : Nat)) ∧ ∃ n, w' = w.drewN n := by
  go_enter Try.func110, Try.ntmps110
  go_wp2
  go_loopw [0, 1] (fun x y wr => ∃ c d : Nat, c < 18446744073709551616 ∧ d < 18446744073709551616 ∧ x = .int .u64 c ∧ y = .int .u64 d ∧ Nat.gcd c d = Nat.gcd a b ∧ ∃ n, wr = w.drewN n) (fun _ y _ => (intOf y).toNat)
  case atStart => exact ⟨a, b, h0, h1, rfl, rfl, rfl, 0, rfl⟩
  case round =>
    obtain ⟨c, d, hc, hd, rfl, rfl, hg, n, rfl⟩ := hrel
    have HG := Lib.hid hg
    clear hg
    by_cases hz : d = 0
    · subst hz
      go_wp2
      go_ret
      exact ⟨ret_int (by have := HG.out; rw [Nat.gcd_zero_right] at this; rw [← this]), n, rfl⟩
    · have hm : c % d < d := Nat.mod_lt _ (by omega)
      go_wp2
      go_quiet (fail)
      go_wp2
      go_roundw
      case rel => exact ⟨d, c % d, hd, by omega, rfl, val_int (by omega), by rw [gcd_step]; exact HG.out, n + nq, World.drewN_drewN _ _ _⟩
      case measure => simp [intOf]; omega

set_option maxHeartbeats 400000 in
theorem gcd_any (k : Nat) : ∀ (a b : Nat) (w : World), b ≤ k → a < 18446744073709551616 → b < 18446744073709551616 →
    Calls Try.prog 96 #[.int .u64 a, .int .u64 b] w fun e w' => e = .returned (.int .u64 (Nat.gcd a b : Nat)) ∧ w = w' := by
  induction k with
  | zero =>
    intro a b w hk h0 h1
    obtain rfl : b = 0 := by omega
    go_enter Try.func96, Try.ntmps96
    go_wp2_with fail
    go_ret
    exact ⟨by simp, rfl⟩
  | succ k ih =>
    intro a b w hk h0 h1
    by_cases hz : b = 0
    · subst hz
      go_enter Try.func96, Try.ntmps96
      go_wp2_with fail
      go_ret
      exact ⟨by simp, rfl⟩
    · have hlt : a % b < b := Nat.mod_lt _ (by omega)
      have hi := ih b (a % b) w (by omega) h1 (by omega)
      rw [gcd_step, Int.natCast_emod] at hi
      go_enter Try.func96, Try.ntmps96
      go_wp2_with (go_at_call 96; refine hi.mono ?_; rintro e w' ⟨rfl, rfl⟩)
      go_ret
      exact ⟨rfl, rfl⟩

end Sr
end Go.Proofs.Ytmbeaagpjpphhaa
