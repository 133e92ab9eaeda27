/-
  Chosen bits of a level: the program's selected.
-/
import Derived.Test.YtcodoakfomddfaaT6
namespace Go.Proofs.Ytcodoakfomddfaa
open Go Go.RowKit Go.Joins
set_option linter.unusedVariables false
set_option linter.unusedSimpArgs false

/-- The chosen bits of a level. -/
def sb : List Nat → Int → Int
  | [], _ => 0
  | k :: ks, L => bt L k + 2 * sb ks L
theorem sb_append (a b : List Nat) (L : Int) : sb (a ++ b) L = sb a L + 2 ^ a.length * sb b L := by
  induction a with
  | nil => simp [sb]
  | cons w a ih =>
    have e : (2 : Int) ^ (a.length + 1) = 2 * 2 ^ a.length := by rw [Int.pow_succ]; omega
    simp only [List.cons_append, sb, ih, List.length_cons, e, Int.mul_add, Int.mul_assoc, Int.add_assoc]
theorem sb_take (ks : List Nat) (i : Nat) (hi : i < ks.length) (L : Int) : sb (ks.take (i + 1)) L = sb (ks.take i) L + bt L ks[i] * 2 ^ i := by
  rw [List.take_succ_eq_append_getElem hi, sb_append, List.length_take, Nat.min_eq_left (by omega)]
  simp only [sb, Int.mul_zero, Int.add_zero]
  rw [Int.mul_comm (2 ^ i)]
theorem sb_range (ks : List Nat) (L : Int) : 0 ≤ sb ks L ∧ sb ks L < 2 ^ ks.length := by
  induction ks with
  | nil => simp [sb]
  | cons k ks ih =>
    have e : (2 : Int) ^ (ks.length + 1) = 2 * 2 ^ ks.length := by rw [Int.pow_succ]; omega
    have := bt_01 L k
    simp only [sb, List.length_cons, e]; omega

/-- 'x | y << n' of levels. -/
theorem or_two (a b i : Nat) (ha : a < 2 ^ i) (hb : b ≤ 65535) (hi : i ≤ 16) : bits .or .i64 (a : Int) ((b * 2 ^ i : Nat) : Int) = ((a + b * 2 ^ i : Nat) : Int) := by
  have hp : 2 ^ i ≤ 2 ^ 16 := Nat.pow_le_pow_right (by omega) hi
  have hx : b * 2 ^ i ≤ 65535 * 2 ^ 16 := Nat.mul_le_mul hb hp
  have ho : a ||| b * 2 ^ i = a + b * 2 ^ i := by
    rw [Nat.mul_comm, Nat.or_comm, ← Nat.two_pow_add_eq_or_of_lt ha, Nat.add_comm]
  have e1 : (BitVec.ofInt 64 (a : Int)).toNat = a := by rw [BitVec.toNat_ofInt]; omega
  have e2 : (BitVec.ofInt 64 ((b * 2 ^ i : Nat) : Int)).toNat = b * 2 ^ i := by rw [BitVec.toNat_ofInt]; omega
  show IntKind.i64.wrap ((BitVec.ofInt 64 a ||| BitVec.ofInt 64 ((b * 2 ^ i : Nat) : Int)).toNat : Int) = _
  rw [BitVec.toNat_or, e1, e2, ho, IntKind.wrap_i64]
  omega
theorem or_lev {l m : Int} {n : Nat} (h0 : 0 ≤ l) (h1 : l ≤ mk n) (h2 : 0 ≤ m) (h3 : m ≤ 65535) (hn : n ≤ 16) : bits .or .i64 l (m * 2 ^ n) = l + m * 2 ^ n ∧ IntKind.i64.wrap (m * 2 ^ n) = m * 2 ^ n := by
  obtain ⟨a, rfl⟩ : ∃ a : Nat, l = a := ⟨l.toNat, by omega⟩
  obtain ⟨c, rfl⟩ : ∃ c : Nat, m = c := ⟨m.toNat, by omega⟩
  have e : (2 : Int) ^ n = ((2 ^ n : Nat) : Int) := by simp
  unfold mk at h1
  rw [e] at h1 ⊢
  have hp : 2 ^ n ≤ 2 ^ 16 := Nat.pow_le_pow_right (by omega) hn
  have hx : c * 2 ^ n ≤ 65535 * 2 ^ 16 := Nat.mul_le_mul (by omega) hp
  have h := or_two a c n (by omega) (by omega) hn
  rw [Int.natCast_mul] at h
  refine ⟨by rw [h, Int.natCast_add, Int.natCast_mul], ?_⟩
  rw [← Int.natCast_mul]
  exact IntWalk.i64_in _ (by omega)
theorem sel_step {S L : Int} {k j : Nat} (h0 : 0 ≤ L) (h1 : L ≤ 65535) (hS : 0 ≤ S ∧ S < 2 ^ j) (hj : j ≤ 16) :
    bits .or .i64 S (wrap64 (bits .and .i64 (L / 2 ^ k) 1 * 2 ^ j)) = S + bt L k * 2 ^ j := by
  rw [shr_and2 L k h0 (by omega)]
  have hb := bt_range L k
  have hm : S ≤ mk j := by unfold mk; omega
  obtain ⟨e1, e2⟩ := or_lev (l := S) (m := bt L k) (n := j) hS.1 hm hb.1 (by omega) hj
  have e3 : wrap64 (bt L k * 2 ^ j) = bt L k * 2 ^ j := by rw [IntKind.wrap_i64] at e2; unfold wrap64; omega
  rw [e3, e1]

set_option maxRecDepth 20000 in
set_option maxHeartbeats 2000000 in
theorem selected_any (L : Nat) (l : List Nat) (v : Value) (w : World) (hL : L ≤ 65535) (hT : ChArg w v l) (hn : l.length ≤ 16) (hk : ∀ k ∈ l, k < 16) : Calls Try.prog 25 #[.int .i64 L, v] w fun e w' => e = .returned (.int .i64 (sb l L)) ∧ w = w' := by
  obtain ⟨A, c, rfl, hA⟩ := hT
  have HA := Lib.hid hA
  have HK := Lib.hid hk
  clear hA hk
  go_enter Try.func25, Try.ntmps25
  go_wp2
  go_loop [10, 5] (fun i x => ∃ j : Nat, j ≤ l.length ∧ i = .int .i64 j ∧ x = .int .i64 (sb (l.take j) L)) (fun i _ => l.length - (intOf i).toNat)
  case atStart => exact ⟨0, Nat.zero_le _, rfl, rfl⟩
  case round =>
    obtain ⟨j, hj, rfl, rfl⟩ := hrel
    by_cases hjl : j < l.length
    · obtain ⟨g, o, rfl, hg, hcell⟩ := HA.out (by omega)
      have f0 := arg_ch hcell j hjl
      have hkj := HK.out _ (List.getElem_mem hjl)
      have HS := Lib.hid (sb_take l j hjl L)
      have hr := sb_range (l.take j) L
      clear hcell
      generalize l[j] = k at *
      generalize sb (l.take j) L = S at *
      rw [List.length_take, Nat.min_eq_left hj] at hr
      go_wp2
      go_round
      case rel => exact ⟨j + 1, by omega, val_int (by omega), val_int (by rw [HS.out]; exact sel_step (by omega) (by omega) hr (by omega))⟩
      case measure => simp [intOf]; omega
    · have he : l.take j = l := List.take_of_length_le (by omega)
      rw [he]
      go_wp2
      go_returns
      exact ⟨rfl, rfl⟩

end Go.Proofs.Ytcodoakfomddfaa
