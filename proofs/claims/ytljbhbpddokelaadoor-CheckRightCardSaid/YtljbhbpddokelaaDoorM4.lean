/-
  Plain mathematics of the sums: modulo 256, exclusive or, with carry.
-/
import Derived.Test.YtljbhbpddokelaaDoorM2
namespace Go.Proofs.YtljbhbpddokelaaDoor

def sN : List UInt8 → Nat
  | [] => 0
  | b :: l => b.toNat + sN l
theorem sN_append (l m : List UInt8) : sN (l ++ m) = sN l + sN m := by
  induction l with
  | nil => simp [sN]
  | cons b l ih => simp only [List.cons_append, sN, ih]; omega
def xN : List UInt8 → Nat
  | [] => 0
  | b :: l => b.toNat ^^^ xN l
theorem xN_append (l m : List UInt8) : xN (l ++ m) = xN l ^^^ xN m := by
  induction l with
  | nil => simp [xN]
  | cons b l ih => simp only [List.cons_append, xN, ih, Nat.xor_assoc]
theorem xN_lt (l : List UInt8) : xN l < 256 := by
  induction l with
  | nil => simp [xN]
  | cons b l ih => exact Nat.xor_lt_two_pow (n := 8) (UInt8.toNat_lt b) ih
/-- The sum with carry. -/
def cN (n : Nat) : Nat := if n = 0 then 0 else (n - 1) % 255 + 1
theorem cN_le (n : Nat) : cN n ≤ 255 := by unfold cN; split <;> omega
theorem cN_add (n b : Nat) (hb : b ≤ 255) : cN (n + b) = if 255 < cN n + b then cN n + b - 255 else cN n + b := by
  unfold cN; split <;> split <;> split <;> omega
theorem cN_two (n m : Nat) : cN (n + m) = if 255 < cN n + cN m then cN n + cN m - 255 else cN n + cN m := by
  unfold cN; split <;> split <;> split <;> split <;> omega
/-- One byte more. -/
theorem sN_take (s : ByteArray) (k : Nat) (h : k < s.size) : sN (s.data.toList.take (k + 1)) = sN (s.data.toList.take k) + s[k].toNat := by
  rw [take_next _ k (by simpa using h), sN_append]
  show _ + (s[k].toNat + 0) = _
  omega
theorem xN_take (s : ByteArray) (k : Nat) (h : k < s.size) : xN (s.data.toList.take (k + 1)) = xN (s.data.toList.take k) ^^^ s[k].toNat := by
  rw [take_next _ k (by simpa using h), xN_append]
  show _ ^^^ (s[k].toNat ^^^ 0) = _
  rw [Nat.xor_zero]
theorem all_take (s : ByteArray) : s.data.toList.take s.size = s.data.toList := List.take_of_length_le (by simp)

/-- '^' of numbers that are not negative. -/
theorem xor_i64 (a b : Nat) (ha : a < 9223372036854775808) (hb : b < 9223372036854775808) : bits .xor .i64 (a : Int) (b : Int) = ((a ^^^ b : Nat) : Int) := by
  show IntKind.i64.wrap ((BitVec.ofInt 64 a ^^^ BitVec.ofInt 64 b).toNat : Int) = _
  have e1 : (BitVec.ofInt 64 (a : Int)).toNat = a := by rw [BitVec.toNat_ofInt]; omega
  have e2 : (BitVec.ofInt 64 (b : Int)).toNat = b := by rw [BitVec.toNat_ofInt]; omega
  have h3 : a ^^^ b < 2 ^ 63 := Nat.xor_lt_two_pow (by omega) (by omega)
  rw [BitVec.toNat_xor, e1, e2, IntKind.wrap_i64]
  omega
theorem xor_u8 (a b : Nat) (ha : a < 256) (hb : b < 256) : bits .xor .u8 (a : Int) (b : Int) = ((a ^^^ b : Nat) : Int) := by
  show IntKind.u8.wrap ((BitVec.ofInt 8 a ^^^ BitVec.ofInt 8 b).toNat : Int) = _
  have e1 : (BitVec.ofInt 8 (a : Int)).toNat = a := by rw [BitVec.toNat_ofInt]; omega
  have e2 : (BitVec.ofInt 8 (b : Int)).toNat = b := by rw [BitVec.toNat_ofInt]; omega
  have h3 : a ^^^ b < 2 ^ 8 := Nat.xor_lt_two_pow (by omega) (by omega)
  rw [BitVec.toNat_xor, e1, e2]
  have : ∀ x : Nat, x < 256 → IntKind.u8.wrap (x : Int) = x := by intro x hx; simp only [IntKind.wrap, IntKind.bits, IntKind.signed]; simp; omega
  exact this _ h3
/-- 'x & (2^W - 1)'. -/
theorem and_mask (x W : Nat) (hx : x < 9223372036854775808) (hW : W ≤ 62) : bits .and .i64 (x : Int) ((2 ^ W : Nat) - 1 : Int) = ((x % 2 ^ W : Nat) : Int) := by
  have h0 := Nat.two_pow_pos W
  have h2 : 2 ^ W ≤ 2 ^ 62 := Nat.pow_le_pow_right (by omega) hW
  have e0 : ((2 ^ W : Nat) - 1 : Int) = ((2 ^ W - 1 : Nat) : Int) := by omega
  rw [e0]
  show IntKind.i64.wrap ((BitVec.ofInt 64 x &&& BitVec.ofInt 64 ((2 ^ W - 1 : Nat) : Int)).toNat : Int) = _
  have e1 : (BitVec.ofInt 64 (x : Int)).toNat = x := by rw [BitVec.toNat_ofInt]; omega
  have e2 : (BitVec.ofInt 64 ((2 ^ W - 1 : Nat) : Int)).toNat = 2 ^ W - 1 := by rw [BitVec.toNat_ofInt]; omega
  have h3 : x % 2 ^ W ≤ x := Nat.mod_le _ _
  rw [BitVec.toNat_and, e1, e2, Nat.and_two_pow_sub_one_eq_mod, IntKind.wrap_i64]
  omega

end Go.Proofs.YtljbhbpddokelaaDoor
