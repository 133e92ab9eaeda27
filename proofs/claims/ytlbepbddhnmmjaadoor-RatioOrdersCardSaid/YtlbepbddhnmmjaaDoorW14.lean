/-
  The walks of the specification's digits and Text.
-/
import Derived.Test.YtlbepbddhnmmjaaDoorW13
namespace Go.Proofs.YtlbepbddhnmmjaaDoor
open Go.RowKit
set_option linter.unusedVariables false

def figs : ByteArray := ⟨#[48, 49, 50, 51, 52, 53, 54, 55, 56, 57]⟩
theorem fig_at (k : Nat) (h : k < 10) : (⟨#[48, 49, 50, 51, 52, 53, 54, 55, 56, 57]⟩ : ByteArray).extract k (k + 1) = ⟨#[UInt8.ofNat (48 + k)]⟩ := by
  have hall : ∀ j : Fin 10, (⟨#[48, 49, 50, 51, 52, 53, 54, 55, 56, 57]⟩ : ByteArray).extract j.val (j.val + 1) = ⟨#[UInt8.ofNat (48 + j.val)]⟩ := by decide
  exact hall ⟨k, h⟩

theorem decDigits_le (n : Nat) : (Lib.decDigits n).length ≤ n + 1 := by
  induction n using Nat.strongRecOn with
  | ind n ih =>
    rw [Lib.decDigits]
    by_cases h : n < 10
    · rw [dif_pos h]; simp
    · rw [dif_neg h, List.length_append]
      have := ih (n / 10) (by omega)
      simp only [List.length_cons, List.length_nil]
      omega

set_option maxHeartbeats 2000000 in
theorem digits_any (k : Nat) : ∀ (n : Nat) (t : ByteArray) (w : World), n ≤ k → n ≤ 1073741824 → Hid (t = ⟨(Lib.decDigits n).toArray⟩) →
    Calls Tryd.prog 44 #[.int .i64 n] w fun e w' => e = .returned (.string t) ∧ ∃ m, w' = w.drewN m := by
  induction k with
  | zero =>
    intro n t w hk _ ht
    obtain rfl : n = 0 := by omega
    go_enter Tryd.func44, Tryd.ntmps44
    go_wp2_with fail
    go_returns
    exact ⟨by rw [ht.out, Lib.decDigits]; rfl, 0, rfl⟩
  | succ k ih =>
    intro n t w hk hn ht
    by_cases hlt : n < 10
    · have hf := fig_at n hlt
      go_enter Tryd.func44, Tryd.ntmps44
      go_wp2_with fail
      go_returns
      exact ⟨by rw [ht.out, Lib.decDigits, dif_pos hlt]; exact congrArg (fun x => Ending.returned (.string ⟨#[x]⟩)) (by rw [UInt8.ofNat_add]; rfl), 0, rfl⟩
    · obtain ⟨q, hq⟩ : ∃ q : Nat, q = n / 10 := ⟨_, rfl⟩
      obtain ⟨c, hc⟩ : ∃ c : Nat, c = n % 10 := ⟨_, rfl⟩
      have lc : c < 10 := by omega
      have lq : q ≤ 1073741824 := by omega
      have hf := fig_at c lc
      obtain ⟨v, hv⟩ : ∃ v : ByteArray, v = ⟨(Lib.decDigits q).toArray⟩ := ⟨_, rfl⟩
      have hi := fun w => ih q v w (by omega) (by omega) (Lib.hid hv)
      have HT : Hid (t = v ++ ⟨#[UInt8.ofNat (48 + c)]⟩) := Lib.hid (by
        rw [ht.out, Lib.decDigits, dif_neg hlt, hv, ← hq, ← hc]
        exact ByteArray.ext (by rw [ByteArray.data_append]; simp))
      have vz : v.size ≤ 2000000000 := by
        have h := decDigits_le q
        have h2 := Lib.size_eq v
        rw [hv] at h2
        rw [hv]
        have h3 : (⟨(Lib.decDigits q).toArray⟩ : ByteArray).data.toList.length = (Lib.decDigits q).length := by simp
        omega
      have e1 : (n : Int) / 10 = q := by omega
      have e2 : (n : Int).tdiv 10 = q := by rw [Int.tdiv_eq_ediv_of_nonneg (by omega)]; omega
      have e3 : (n : Int) % 10 = c := by omega
      have e4 : (n : Int).tmod 10 = c := by rw [Int.tmod_eq_emod_of_nonneg (by omega)]; omega
      have w1 : IntKind.i64.wrap (q : Int) = q := IntWalk.i64_in _ (by omega)
      have w2 : IntKind.i64.wrap (c : Int) = c := IntWalk.i64_in _ (by omega)
      have w3 : IntKind.i64.wrap ((c : Int) + 1) = (c : Int) + 1 := IntWalk.i64_in _ (by omega)
      have w4 : ((c : Int) + 1).toNat = c + 1 := by omega
      clear hq hc hv ih ht
      go_enter Tryd.func44, Tryd.ntmps44
      go_wp2_with fail
      go_quiet ((go_at_call 44; exact Calls.quiet_of (hi _)))
      go_wp2_with fail
      go_returns
      exact ⟨by rw [HT.out, UInt8.ofNat_add]; rfl, nq, rfl⟩

theorem digits_at (n : Nat) (t : ByteArray) (w : World) (hn : n ≤ 1073741824) (ht : Hid (t = ⟨(Lib.decDigits n).toArray⟩)) :
    Calls Tryd.prog 44 #[.int .i64 n] w fun e w' => e = .returned (.string t) ∧ ∃ m, w' = w.drewN m :=
  digits_any n n t w (Nat.le_refl _) hn ht

set_option maxHeartbeats 4000000 in
theorem rtext_bad (n d : Int) (w : World) (hn0 : -9223372036854775808 ≤ n) (hn1 : n ≤ 9223372036854775807) (hd0 : -9223372036854775808 ≤ d) (hd1 : d ≤ 9223372036854775807) (hv : validB n d = false) :
    Calls Tryd.prog 15 #[.agg #[.int .i64 n, .int .i64 d]] w fun e w' => e = .returned (.string ⟨#[]⟩) ∧ Below w.heap.size w w' := by
  go_enter Tryd.func15, Tryd.ntmps15
  go_wp2_with (go_at_call 13; refine (rvalid_any _ _ _ hn0 hn1 hd0 hd1).mono ?_; rintro e wa ⟨rfl, ba⟩; obtain ⟨a0, a1, asz⟩ := one2 ba)
  go_returns
  exact ⟨rfl, (((Below.refl _ _).alloc (Nat.le_refl _) _).trans (ba.mono (by simp)))⟩

set_option maxHeartbeats 4000000 in
theorem rtext_p1 (n : Int) (a : Nat) (t : ByteArray) (w : World) (hn0 : -9223372036854775808 ≤ n) (hn1 : n ≤ 9223372036854775807) (hv : validB n 1 = true) (hneg : 0 ≤ n) (ha : Hid (a = n.natAbs)) (la : a ≤ 1073741824) (tz : t.size ≤ 2000000000) (ht : Hid (t = ⟨(Lib.decDigits a).toArray⟩)) :
    Calls Tryd.prog 15 #[.agg #[.int .i64 n, .int .i64 1]] w fun e w' => e = .returned (.string (t)) ∧ Below w.heap.size w w' := by
  have hd0 : -9223372036854775808 ≤ (1 : Int) := by omega
  have hd1 : (1 : Int) ≤ 9223372036854775807 := by omega
  go_enter Tryd.func15, Tryd.ntmps15
  go_wp2_with (first | (go_at_call 13; refine (rvalid_any _ _ _ hn0 hn1 hd0 hd1).mono ?_; rintro e wa ⟨rfl, ba⟩; obtain ⟨a0, a1, asz⟩ := one2 ba) | (go_at_call 42; refine (size_at _ a _ ha.out hn0 hn1).mono ?_; rintro e w' ⟨rfl, rfl⟩) | (go_at_call_of 44 (Value.int .i64 a); refine (digits_at a t _ la ht).mono ?_; rintro e w' ⟨rfl, m, rfl⟩))
  all_goals go_returns
  all_goals exact ⟨rfl, by (repeat' (first | with_reducible exact Below.refl _ _ | with_reducible exact Nat.le_refl _ | with_reducible assumption | with_reducible refine below_drewN ?_ _ | with_reducible refine Below.alloc ?_ ?_ _ | with_reducible refine Below.trans ?_ (Below.mono (by assumption) ?_) | (simp; done) | (simp; omega)))⟩

set_option maxHeartbeats 4000000 in
theorem rtext_n1 (n : Int) (a : Nat) (t : ByteArray) (w : World) (hn0 : -9223372036854775808 ≤ n) (hn1 : n ≤ 9223372036854775807) (hv : validB n 1 = true) (hneg : n < 0) (ha : Hid (a = n.natAbs)) (la : a ≤ 1073741824) (tz : t.size ≤ 2000000000) (ht : Hid (t = ⟨(Lib.decDigits a).toArray⟩)) :
    Calls Tryd.prog 15 #[.agg #[.int .i64 n, .int .i64 1]] w fun e w' => e = .returned (.string (⟨#[45]⟩ ++ t)) ∧ Below w.heap.size w w' := by
  have hd0 : -9223372036854775808 ≤ (1 : Int) := by omega
  have hd1 : (1 : Int) ≤ 9223372036854775807 := by omega
  go_enter Tryd.func15, Tryd.ntmps15
  go_wp2_with (first | (go_at_call 13; refine (rvalid_any _ _ _ hn0 hn1 hd0 hd1).mono ?_; rintro e wa ⟨rfl, ba⟩; obtain ⟨a0, a1, asz⟩ := one2 ba) | (go_at_call 42; refine (size_at _ a _ ha.out hn0 hn1).mono ?_; rintro e w' ⟨rfl, rfl⟩) | (go_at_call_of 44 (Value.int .i64 a); refine (digits_at a t _ la ht).mono ?_; rintro e w' ⟨rfl, m, rfl⟩))
  all_goals go_returns
  all_goals exact ⟨rfl, by (repeat' (first | with_reducible exact Below.refl _ _ | with_reducible exact Nat.le_refl _ | with_reducible assumption | with_reducible refine below_drewN ?_ _ | with_reducible refine Below.alloc ?_ ?_ _ | with_reducible refine Below.trans ?_ (Below.mono (by assumption) ?_) | (simp; done) | (simp; omega)))⟩

set_option maxHeartbeats 4000000 in
theorem rtext_p2 (n : Int) (d : Int) (a : Nat) (t : ByteArray) (w : World) (hn0 : -9223372036854775808 ≤ n) (hn1 : n ≤ 9223372036854775807) (hv : validB n d = true) (hneg : 0 ≤ n) (ha : Hid (a = n.natAbs)) (la : a ≤ 1073741824) (tz : t.size ≤ 2000000000) (ht : Hid (t = ⟨(Lib.decDigits a).toArray⟩)) (h1 : (d == 1) = false) (h2 : (d != 1) = true) (b : Nat) (hb : d = b) (u : ByteArray) (uz : u.size ≤ 2000000000) (hu : Hid (u = ⟨(Lib.decDigits b).toArray⟩)) :
    Calls Tryd.prog 15 #[.agg #[.int .i64 n, .int .i64 d]] w fun e w' => e = .returned (.string (t ++ ⟨#[47]⟩ ++ u)) ∧ Below w.heap.size w w' := by
  subst hb
  have lb : b ≤ 1073741824 := by have := valid_bd hv; omega
  have hd0 : -9223372036854775808 ≤ (b : Int) := by omega
  have hd1 : (b : Int) ≤ 9223372036854775807 := by omega
  go_enter Tryd.func15, Tryd.ntmps15
  go_wp2_with (first | (go_at_call 13; refine (rvalid_any _ _ _ hn0 hn1 hd0 hd1).mono ?_; rintro e wa ⟨rfl, ba⟩; obtain ⟨a0, a1, asz⟩ := one2 ba) | (go_at_call 42; refine (size_at _ a _ ha.out hn0 hn1).mono ?_; rintro e w' ⟨rfl, rfl⟩) | (go_at_call_of 44 (Value.int .i64 a); refine (digits_at a t _ la ht).mono ?_; rintro e w' ⟨rfl, m, rfl⟩) | (go_at_call_of 44 (Value.int .i64 b); refine (digits_at b u _ lb hu).mono ?_; rintro e w' ⟨rfl, k, rfl⟩))
  all_goals go_returns
  all_goals exact ⟨rfl, by (repeat' (first | with_reducible exact Below.refl _ _ | with_reducible exact Nat.le_refl _ | with_reducible assumption | with_reducible refine below_drewN ?_ _ | with_reducible refine Below.alloc ?_ ?_ _ | with_reducible refine Below.trans ?_ (Below.mono (by assumption) ?_) | (simp; done) | (simp; omega)))⟩

set_option maxHeartbeats 4000000 in
theorem rtext_n2 (n : Int) (d : Int) (a : Nat) (t : ByteArray) (w : World) (hn0 : -9223372036854775808 ≤ n) (hn1 : n ≤ 9223372036854775807) (hv : validB n d = true) (hneg : n < 0) (ha : Hid (a = n.natAbs)) (la : a ≤ 1073741824) (tz : t.size ≤ 2000000000) (ht : Hid (t = ⟨(Lib.decDigits a).toArray⟩)) (h1 : (d == 1) = false) (h2 : (d != 1) = true) (b : Nat) (hb : d = b) (u : ByteArray) (uz : u.size ≤ 2000000000) (hu : Hid (u = ⟨(Lib.decDigits b).toArray⟩)) :
    Calls Tryd.prog 15 #[.agg #[.int .i64 n, .int .i64 d]] w fun e w' => e = .returned (.string (⟨#[45]⟩ ++ t ++ ⟨#[47]⟩ ++ u)) ∧ Below w.heap.size w w' := by
  subst hb
  have lb : b ≤ 1073741824 := by have := valid_bd hv; omega
  have hd0 : -9223372036854775808 ≤ (b : Int) := by omega
  have hd1 : (b : Int) ≤ 9223372036854775807 := by omega
  go_enter Tryd.func15, Tryd.ntmps15
  go_wp2_with (first | (go_at_call 13; refine (rvalid_any _ _ _ hn0 hn1 hd0 hd1).mono ?_; rintro e wa ⟨rfl, ba⟩; obtain ⟨a0, a1, asz⟩ := one2 ba) | (go_at_call 42; refine (size_at _ a _ ha.out hn0 hn1).mono ?_; rintro e w' ⟨rfl, rfl⟩) | (go_at_call_of 44 (Value.int .i64 a); refine (digits_at a t _ la ht).mono ?_; rintro e w' ⟨rfl, m, rfl⟩) | (go_at_call_of 44 (Value.int .i64 b); refine (digits_at b u _ lb hu).mono ?_; rintro e w' ⟨rfl, k, rfl⟩))
  all_goals go_returns
  all_goals exact ⟨rfl, by (repeat' (first | with_reducible exact Below.refl _ _ | with_reducible exact Nat.le_refl _ | with_reducible assumption | with_reducible refine below_drewN ?_ _ | with_reducible refine Below.alloc ?_ ?_ _ | with_reducible refine Below.trans ?_ (Below.mono (by assumption) ?_) | (simp; done) | (simp; omega)))⟩

end Go.Proofs.YtlbepbddhnmmjaaDoor
