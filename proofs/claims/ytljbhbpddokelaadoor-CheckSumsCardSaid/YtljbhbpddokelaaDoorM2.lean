/-
  Plain mathematics: the value of a sequence of bits, character by character, in both orders.
-/
import Derived.Test.YtljbhbpddokelaaDoorM1
namespace Go.Proofs.YtljbhbpddokelaaDoor

/-- What has been read of l behind k characters. -/
def numK (l : List UInt8) (msb : Bool) (k : Nat) : Nat := if msb then 2 ^ (l.length - k) * vl (l.take k).reverse else vl (l.take k)
theorem numK_zero (l : List UInt8) (msb : Bool) : numK l msb 0 = 0 := by
  unfold numK; split <;> simp [vl]
theorem numK_all (l : List UInt8) (msb : Bool) : numK l msb l.length = numV l msb := by
  unfold numK numV; split <;> simp
theorem take_next (l : List UInt8) (k : Nat) (h : k < l.length) : l.take (k + 1) = l.take k ++ [l[k]] := List.take_succ_eq_append_getElem h
theorem numK_step (l : List UInt8) (msb : Bool) (k : Nat) (h : k < l.length) : numK l msb (k + 1) = numK l msb k + (l[k].toNat - 48) * 2 ^ pl l.length msb k := by
  cases msb
  · show vl (l.take (k + 1)) = vl (l.take k) + (l[k].toNat - 48) * 2 ^ k
    rw [take_next l k h, vl_snoc, List.length_take_of_le (by omega), Nat.mul_comm]
  · show 2 ^ (l.length - (k + 1)) * vl (l.take (k + 1)).reverse = 2 ^ (l.length - k) * vl (l.take k).reverse + (l[k].toNat - 48) * 2 ^ (l.length - 1 - k)
    rw [take_next l k h, List.reverse_append, List.reverse_singleton, List.singleton_append, vl_cons]
    have e1 : l.length - k = (l.length - (k + 1)) + 1 := by omega
    have e2 : l.length - 1 - k = l.length - (k + 1) := by omega
    rw [e1, e2, Nat.pow_succ, Nat.mul_add, Nat.mul_comm (l[k].toNat - 48), Nat.mul_assoc]
    omega
theorem numK_lt (l : List UInt8) (msb : Bool) (k : Nat) (h : k ≤ l.length) (hb : ∀ b ∈ l, b.toNat = 48 ∨ b.toNat = 49) : numK l msb k < 2 ^ l.length := by
  cases msb
  · show vl (l.take k) < _
    have := vl_lt (l.take k) fun b hb' => hb b (List.mem_of_mem_take hb')
    rw [List.length_take_of_le h] at this
    exact Nat.lt_of_lt_of_le this (Nat.pow_le_pow_right (by omega) h)
  · show 2 ^ (l.length - k) * vl (l.take k).reverse < _
    have := vl_lt (l.take k).reverse fun b hb' => hb b (List.mem_of_mem_take (List.mem_reverse.1 hb'))
    rw [List.length_reverse, List.length_take_of_le h] at this
    have e : 2 ^ l.length = 2 ^ (l.length - k) * 2 ^ k := by rw [← Nat.pow_add]; congr 1; omega
    rw [e]
    exact Nat.mul_lt_mul_of_pos_left this (Nat.two_pow_pos _)
/-- The bits do not meet. -/
theorem numK_or (l : List UInt8) (msb : Bool) (k : Nat) (h : k < l.length) (hb : ∀ b ∈ l, b.toNat = 48 ∨ b.toNat = 49) : numK l msb k ||| (l[k].toNat - 48) * 2 ^ pl l.length msb k = numK l msb (k + 1) := by
  rw [numK_step l msb k h]
  have hd : l[k].toNat - 48 < 2 := by have := hb l[k] (List.getElem_mem h); omega
  cases msb
  · show vl (l.take k) ||| (l[k].toNat - 48) * 2 ^ k = vl (l.take k) + (l[k].toNat - 48) * 2 ^ k
    have := vl_lt (l.take k) fun b hb' => hb b (List.mem_of_mem_take hb')
    rw [List.length_take_of_le (by omega)] at this
    rw [Nat.or_comm, Nat.add_comm]
    exact nat_join k _ _ (Nat.mul_mod_left _ _) this
  · show 2 ^ (l.length - k) * vl (l.take k).reverse ||| (l[k].toNat - 48) * 2 ^ (l.length - 1 - k) = 2 ^ (l.length - k) * vl (l.take k).reverse + (l[k].toNat - 48) * 2 ^ (l.length - 1 - k)
    refine nat_join (l.length - k) _ _ (Nat.mul_mod_right _ _) ?_
    have e1 : l.length - k = (l.length - 1 - k) + 1 := by omega
    rw [e1, Nat.pow_succ, Nat.mul_comm]
    exact Nat.mul_lt_mul_of_pos_left hd (Nat.two_pow_pos _)

/-- '|' of numbers that are not negative. -/
theorem or_i64 (a b : Nat) (ha : a < 9223372036854775808) (hb : b < 9223372036854775808) : bits .or .i64 (a : Int) (b : Int) = ((a ||| b : Nat) : Int) := by
  show IntKind.i64.wrap ((BitVec.ofInt 64 a ||| BitVec.ofInt 64 b).toNat : Int) = _
  have e1 : (BitVec.ofInt 64 (a : Int)).toNat = a := by rw [BitVec.toNat_ofInt]; omega
  have e2 : (BitVec.ofInt 64 (b : Int)).toNat = b := by rw [BitVec.toNat_ofInt]; omega
  have h3 : a ||| b < 2 ^ 63 := Nat.or_lt_two_pow (by omega) (by omega)
  rw [BitVec.toNat_or, e1, e2, IntKind.wrap_i64]
  omega

/-- The number, most significant bit first, of the first k characters. -/
theorem horner (l : List UInt8) (k : Nat) (h : k < l.length) : vl (l.take (k + 1)).reverse = 2 * vl (l.take k).reverse + (l[k].toNat - 48) := by
  rw [take_next l k h, List.reverse_append, List.reverse_singleton, List.singleton_append, vl_cons]
  omega

end Go.Proofs.YtljbhbpddokelaaDoor
