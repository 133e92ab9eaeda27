/-
  The walks of the specification's Bits and Bytes.
-/
import Derived.Test.YtillcmddbjhepaaDoorZ08
import Derived.StillTailTactics
namespace Go.Proofs.YtillcmddbjhepaaDoor
namespace Sd
open Go.RowKit
set_option linter.unusedVariables false
set_option linter.unusedSimpArgs false

theorem two_is {a b a' b' : Nat} {x y : Int} (ha : a = a') (hb : b = b') (hx : x = a') (hy : y = b') : Ending.returned (.tuple #[.int .i64 x, .int .i64 y]) = .returned (two a b) := by subst ha hb hx hy; rfl

theorem bs_ab (x : Nat) (w : Nat) (msb : Bool) (k : Nat) : bs (ab x w msb (k + 1)) = bs (ab x w msb k) ++ [x / 2 ^ pl w msb k % 2] := by
  rw [ab_succ, bs_append]
  congr 1
  have h1 := bc_val x (pl w msb k)
  have e : (x : Int) / 2 ^ pl w msb k % 2 = ((x / 2 ^ pl w msb k % 2 : Nat) : Int) := by simp
  rw [e] at h1
  have : (bc x (pl w msb k)).toNat - 48 = x / 2 ^ pl w msb k % 2 := by omega
  simp only [bs, List.map_cons, List.map_nil, this]
theorem rgn_ab (W P N x : Nat) (msb : Bool) (k : Nat) : rgn W P N (bs (ab x 8 msb (k + 1))) = stp W P (rgn W P N (bs (ab x 8 msb k))) (x / 2 ^ pl 8 msb k % 2) := by
  rw [bs_ab, rgn_append]; rfl
theorem bit_of {c k P : Nat} (h : c < 256) (hP : k = P) : (IntKind.i64.wrap (c : Int) / 2 ^ k).tmod 2 = ((c / 2 ^ P % 2 : Nat) : Int) := by
  subst hP
  have e : IntKind.i64.wrap (c : Int) = c := by rw [IntKind.wrap_i64]; omega
  have e2 : (c : Int) / 2 ^ k = ((c / 2 ^ k : Nat) : Int) := by simp
  rw [e, e2, Int.tmod_eq_emod_of_nonneg (by exact Int.natCast_nonneg _)]
  omega
theorem bit_of2 {c k P : Nat} (h : c < 256) (hP : k = P) : ((c : Int) / 2 ^ k).tmod 2 = ((c / 2 ^ P % 2 : Nat) : Int) := by
  have e : IntKind.i64.wrap (c : Int) = c := by rw [IntKind.wrap_i64]; omega
  have := bit_of h hP
  rwa [e] at this
theorem rgn_fb (W P I : Nat) (s : ByteArray) (msb : Bool) (k : Nat) (h : k < s.size) : rgn W P I (bs (fb (s.data.toList.take (k + 1)) msb)) = rgn W P (rgn W P I (bs (fb (s.data.toList.take k) msb))) (bs (ab s[k].toNat 8 msb 8)) := by
  rw [fb_take s msb k h, bs_append, rgn_append]; rfl

end Sd
end Go.Proofs.YtillcmddbjhepaaDoor
