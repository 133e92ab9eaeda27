/-
  The walk of the specification's Decimal.
-/
import Derived.Test.YtpeiiomimfiebaaDoorW22
namespace Go.Proofs.YtpeiiomimfiebaaDoor
open Go Go.RowKit
set_option linter.unusedVariables false
set_option linter.unusedSimpArgs false

/-- The digits that are still to come. -/
def ddr (m : Nat) : List UInt8 := if m = 0 then [] else Lib.decDigits m
theorem dd_step (m d : Nat) (hm : 0 < m) (hd : m % 10 = d) : ddr m = ddr (m / 10) ++ [UInt8.ofNat (48 + d)] := by
  unfold ddr
  rw [if_neg (by omega)]
  subst hd
  by_cases h : m < 10
  · rw [if_pos (by omega), Lib.decDigits_one h, Nat.mod_eq_of_lt h]; rfl
  · rw [if_neg (by omega), Lib.decDigits, dif_neg h]

theorem dig_at (d : Nat) (h : d < 10) : (⟨#[48, 49, 50, 51, 52, 53, 54, 55, 56, 57]⟩ : ByteArray).extract d (d + 1) = ⟨#[UInt8.ofNat (48 + d)]⟩ := by
  match d, h with
  | 0, _ => rfl
  | 1, _ => rfl
  | 2, _ => rfl
  | 3, _ => rfl
  | 4, _ => rfl
  | 5, _ => rfl
  | 6, _ => rfl
  | 7, _ => rfl
  | 8, _ => rfl
  | 9, _ => rfl
theorem one_app (x : UInt8) (q : List UInt8) : (⟨#[x]⟩ : ByteArray) ++ ⟨q.toArray⟩ = ⟨(x :: q).toArray⟩ := by
  apply ByteArray.ext
  rw [ByteArray.data_append]
  simp
theorem dd_len (n : Nat) (h : n ≤ 9223372036854775808) : (ddr n).length ≤ 64 := by
  have key : ∀ k n : Nat, n < 10 ^ k → (ddr n).length ≤ k := by
    intro k
    induction k with
    | zero => intro n h; have : n = 0 := by simpa using h
              subst this; simp [ddr]
    | succ k ih =>
      intro n h
      by_cases h0 : n = 0
      · subst h0; simp [ddr]
      · rw [dd_step n (n % 10) (by omega) rfl, List.length_append]
        have := ih (n / 10) (by rw [Nat.pow_succ] at h; omega)
        simp; omega
  have := key 19 n (by omega)
  omega

set_option maxRecDepth 20000 in
set_option maxHeartbeats 2000000 in
theorem decimal_pos (n : Nat) (w : World) (h0 : 0 < n) (h1 : n ≤ 9223372036854775807) : Calls Tryd.prog 43 #[.int .i64 n] w fun e w' => e = .returned (.string ⟨(Lib.itoa n).toArray⟩) ∧ w' = w := by
  have hI : Lib.itoa (n : Int) = ddr n := by rw [Lib.itoa_nonneg]; unfold ddr; rw [if_neg (by omega)]
  rw [hI]
  have hn0 : (n : Int) ≠ 0 := by omega
  have hn1 : ¬ (n : Int) < 0 := by omega
  have hnn : (n : Int) ≤ 9223372036854775807 := by omega
  generalize hN : ddr n = L at *
  have hLL : L.length ≤ 64 := by rw [← hN]; exact dd_len n (by omega)
  have HN := Lib.hid hN
  clear hI hN
  go_enter Tryd.func43, Tryd.ntmps43
  go_wp2
  go_loopw [4, 5] (fun x o wr => ∃ (m : Nat) (q : List UInt8), m ≤ n ∧ x = .int .i64 m ∧ o = .string ⟨q.toArray⟩ ∧ Hid (ddr m ++ q = L) ∧ wr = w) (fun x _ _ => (intOf x).toNat)
  case atStart => exact ⟨n, [], Nat.le_refl _, rfl, rfl, Lib.hid (by rw [List.append_nil]; exact HN.out), rfl⟩
  case round =>
    obtain ⟨m, q, hm, rfl, rfl, HQ, rfl⟩ := hrel
    rcases Nat.eq_zero_or_pos m with h | h
    · subst h
      have e : q = L := by have := HQ.out; simpa [ddr] using this
      subst e
      rw [show ((0 : Nat) : Int) = 0 from rfl]
      go_wp2
      go_returns
      exact ⟨rfl, rfl⟩
    · have hm0 : (m : Int) ≠ 0 := by omega
      have hb : (m : Int) ≤ 9223372036854775807 := by omega
      have hdd := dd_step m (m % 10) h rfl
      have hmod : (m : Int).tmod 10 = ((m % 10 : Nat) : Int) := by rw [Int.tmod_eq_emod_of_nonneg (by omega)]; omega
      have hdiv : (m : Int).tdiv 10 = ((m / 10 : Nat) : Int) := by rw [Int.tdiv_eq_ediv_of_nonneg (by omega)]; omega
      have hlt : m / 10 < m := by omega
      have hle : m / 10 ≤ n := by omega
      have h10 : m % 10 < 10 := by omega
      have HQ' : Hid (ddr (m / 10) ++ (UInt8.ofNat (48 + m % 10) :: q) = L) := by rw [← HQ.out, hdd]; simp [Hid]
      have hq : q.length ≤ 64 := by have := congrArg List.length HQ.out; rw [List.length_append] at this; omega
      clear hdd HQ
      generalize m / 10 = m2 at *
      generalize m % 10 = d at *
      go_wp2
      go_roundw
      case rel => exact ⟨m2, _, hle, rfl, by rw [dig_at d h10, one_app], HQ', by first | rfl | trivial⟩
      case measure => simp [intOf]; omega

set_option maxRecDepth 20000 in
set_option maxHeartbeats 2000000 in
theorem decimal_neg (n : Nat) (w : World) (h0 : 0 < n) (h1 : n ≤ 9223372036854775808) : Calls Tryd.prog 43 #[.int .i64 (-(n : Int))] w fun e w' => e = .returned (.string ⟨(Lib.itoa (-(n : Int))).toArray⟩) ∧ w' = w := by
  have hI : Lib.itoa (-(n : Int)) = 45 :: ddr n := by rw [Lib.itoa_neg n h0]; unfold ddr; rw [if_neg (by omega)]
  rw [hI]
  have hn0 : -(n : Int) ≠ 0 := by omega
  have hn1 : -(n : Int) < 0 := by omega
  have hnn : (n : Int) ≤ 9223372036854775808 := by omega
  generalize hN : ddr n = L at *
  have hLL : L.length ≤ 64 := by rw [← hN]; exact dd_len n (by omega)
  have HN := Lib.hid hN
  clear hI hN
  go_enter Tryd.func43, Tryd.ntmps43
  go_wp2
  go_loopw [4, 5] (fun x o wr => ∃ (m : Nat) (q : List UInt8), m ≤ n ∧ x = .int .i64 (-(m : Int)) ∧ o = .string ⟨q.toArray⟩ ∧ Hid (ddr m ++ q = L) ∧ wr = w) (fun x _ _ => (-(intOf x)).toNat)
  case atStart => exact ⟨n, [], Nat.le_refl _, rfl, rfl, Lib.hid (by rw [List.append_nil]; exact HN.out), rfl⟩
  case round =>
    obtain ⟨m, q, hm, rfl, rfl, HQ, rfl⟩ := hrel
    rcases Nat.eq_zero_or_pos m with h | h
    · subst h
      have e : q = L := by have := HQ.out; simpa [ddr] using this
      subst e
      rw [show -((0 : Nat) : Int) = 0 from rfl]
      go_wp2
      go_returns
      exact ⟨by first | rfl | rw [show (⟨#[45]⟩ : ByteArray) ++ ⟨q.toArray⟩ = ⟨(45 :: q).toArray⟩ from one_app 45 q], rfl⟩
    · have hm0 : -(m : Int) ≠ 0 := by omega
      have hb : (m : Int) ≤ 9223372036854775808 := by omega
      have hdd := dd_step m (m % 10) h rfl
      have hmod : (-(m : Int)).tmod 10 = -((m % 10 : Nat) : Int) := by rw [Int.neg_tmod, Int.tmod_eq_emod_of_nonneg (by omega)]; omega
      have hdiv : (-(m : Int)).tdiv 10 = -((m / 10 : Nat) : Int) := by rw [Int.neg_tdiv, Int.tdiv_eq_ediv_of_nonneg (by omega)]; omega
      have hlt : m / 10 < m := by omega
      have hle : m / 10 ≤ n := by omega
      have h10 : m % 10 < 10 := by omega
      have HQ' : Hid (ddr (m / 10) ++ (UInt8.ofNat (48 + m % 10) :: q) = L) := by rw [← HQ.out, hdd]; simp [Hid]
      have hq : q.length ≤ 64 := by have := congrArg List.length HQ.out; rw [List.length_append] at this; omega
      clear hdd HQ
      generalize m / 10 = m2 at *
      generalize m % 10 = d at *
      rcases Nat.eq_zero_or_pos d with hd0 | hd0
      · subst hd0
        have hmod' : (-(m : Int)).tmod 10 = 0 := by rw [hmod]; rfl
        clear hmod
        have hda := dig_at 0 (by decide)
        go_wp2
        go_roundw
        case rel => exact ⟨m2, _, hle, rfl, congrArg Value.string (one_app 48 q), HQ', by first | rfl | trivial⟩
        case measure => simp [intOf]; omega
      · have hdn : -(d : Int) < 0 := by omega
        go_wp2
        go_roundw
        case rel => exact ⟨m2, _, hle, rfl, by rw [dig_at d h10, one_app], HQ', by first | rfl | trivial⟩
        case measure => simp [intOf]; omega
theorem decimal_any (n : Int) (w : World) (h0 : -9223372036854775808 ≤ n) (h1 : n ≤ 9223372036854775807) : Calls Tryd.prog 43 #[.int .i64 n] w fun e w' => e = .returned (.string ⟨(Lib.itoa n).toArray⟩) ∧ w' = w := by
  rcases Int.lt_trichotomy n 0 with h | h | h
  · obtain ⟨k, rfl⟩ : ∃ k : Nat, n = -(k : Int) := ⟨(-n).toNat, by omega⟩
    exact decimal_neg k w (by omega) (by omega)
  · subst h
    have e : Lib.itoa 0 = [48] := by
      rw [show (0 : Int) = ((0 : Nat) : Int) from rfl, Lib.itoa_nonneg, Lib.decDigits_one (by decide)]; rfl
    rw [e]
    go_enter Tryd.func43, Tryd.ntmps43
    go_wp2
    go_returns
    exact ⟨rfl, rfl⟩
  · obtain ⟨k, rfl⟩ : ∃ k : Nat, n = (k : Int) := ⟨n.toNat, by omega⟩
    exact decimal_pos k w (by omega) (by omega)

end Go.Proofs.YtpeiiomimfiebaaDoor
