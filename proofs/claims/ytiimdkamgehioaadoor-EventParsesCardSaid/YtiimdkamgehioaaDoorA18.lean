/-
  The walks of the specification's digits, decimal, names and Line.
-/
import Derived.Test.YtiimdkamgehioaaDoorA13
import Derived.Test.YtiimdkamgehioaaDoorA4
import Derived.Test.YtiimdkamgehioaaDoorW15
import Derived.Deep.RegionHeld3
namespace Go.Proofs.YtiimdkamgehioaaDoor
open Go Go.RowKit Go.Joins
set_option linter.unusedVariables false
set_option linter.unusedSimpArgs false

theorem fig_at (k : Nat) (h : k < 10) : (⟨#[48, 49, 50, 51, 52, 53, 54, 55, 56, 57]⟩ : ByteArray).extract k (k + 1) = ⟨#[UInt8.ofNat (48 + k)]⟩ := by
  have hall : ∀ j : Fin 10, (⟨#[48, 49, 50, 51, 52, 53, 54, 55, 56, 57]⟩ : ByteArray).extract j.val (j.val + 1) = ⟨#[UInt8.ofNat (48 + j.val)]⟩ := by decide
  exact hall ⟨k, h⟩

set_option maxHeartbeats 2000000 in
theorem digits_any (k : Nat) : ∀ (n : Nat) (t : ByteArray) (w : World), n ≤ k → n ≤ 9007199254740992 → Hid (t = ⟨(Lib.decDigits n).toArray⟩) →
    Calls Tryd.prog 58 #[.int .i64 n] w fun e w' => e = .returned (.string t) ∧ ∃ m, w' = w.drewN m := by
  induction k with
  | zero =>
    intro n t w hk _ ht
    obtain rfl : n = 0 := by omega
    go_enter Tryd.func58, Tryd.ntmps58
    go_wp2_with fail
    go_returns
    exact ⟨by rw [ht.out, Lib.decDigits]; rfl, 0, rfl⟩
  | succ k ih =>
    intro n t w hk hn ht
    by_cases hlt : n < 10
    · have hf := fig_at n hlt
      go_enter Tryd.func58, Tryd.ntmps58
      go_wp2_with fail
      go_returns
      exact ⟨by rw [ht.out, Lib.decDigits, dif_pos hlt]; exact congrArg (fun x => Ending.returned (.string ⟨#[x]⟩)) (by rw [UInt8.ofNat_add]; rfl), 0, rfl⟩
    · obtain ⟨q, hq⟩ : ∃ q : Nat, q = n / 10 := ⟨_, rfl⟩
      obtain ⟨c, hc⟩ : ∃ c : Nat, c = n % 10 := ⟨_, rfl⟩
      have lc : c < 10 := by omega
      have lq : q ≤ 9007199254740992 := by omega
      have hf := fig_at c lc
      obtain ⟨v, hv⟩ : ∃ v : ByteArray, v = ⟨(Lib.decDigits q).toArray⟩ := ⟨_, rfl⟩
      have hi := fun w => ih q v w (by omega) (by omega) (Lib.hid hv)
      have HT : Hid (t = v ++ ⟨#[UInt8.ofNat (48 + c)]⟩) := Lib.hid (by
        rw [ht.out, Lib.decDigits, dif_neg hlt, hv, ← hq, ← hc]
        exact ByteArray.ext (by rw [ByteArray.data_append]; simp))
      have vz : v.size ≤ 2000000000 := by
        have h := itoa_len (q : Int) (by omega) (by omega)
        rw [Lib.itoa_nonneg] at h
        rw [hv, size_mk]
        omega
      have e1 : (n : Int) / 10 = q := by omega
      have e2 : (n : Int).tdiv 10 = q := by rw [Int.tdiv_eq_ediv_of_nonneg (by omega)]; omega
      have e3 : (n : Int) % 10 = c := by omega
      have e4 : (n : Int).tmod 10 = c := by rw [Int.tmod_eq_emod_of_nonneg (by omega)]; omega
      have w1 : IntKind.i64.wrap (q : Int) = q := IntWalk.i64_in _ (by omega)
      have w2 : IntKind.i64.wrap (c : Int) = c := IntWalk.i64_in _ (by omega)
      have w3 : IntKind.i64.wrap ((c : Int) + 1) = (c : Int) + 1 := IntWalk.i64_in _ (by omega)
      have w4 : ((c : Int) + 1).toNat = c + 1 := by omega
      clear hq hc hv ih ht
      go_enter Tryd.func58, Tryd.ntmps58
      go_wp2_with fail
      go_quiet ((go_at_call 58; exact Calls.quiet_of (hi _)))
      go_wp2_with fail
      go_returns
      exact ⟨by rw [HT.out, UInt8.ofNat_add]; rfl, nq, rfl⟩


theorem itoaB_neg (a : Nat) (h : 1 ≤ a) : (⟨(Lib.itoa (-(a : Int))).toArray⟩ : ByteArray) = (⟨#[45]⟩ : ByteArray) ++ (⟨(Lib.decDigits a).toArray⟩ : ByteArray) := by
  rw [Lib.itoa_neg a h]
  exact ByteArray.ext (by rw [ByteArray.data_append]; simp)
set_option maxHeartbeats 2000000 in
theorem decimal_any (x : Int) (w : World) (h0 : -9007199254740992 ≤ x) (h1 : x ≤ 9007199254740992) :
    Calls Tryd.prog 36 #[.int .i64 x] w fun e w' => e = .returned (.string ⟨(Lib.itoa x).toArray⟩) ∧ Below w.heap.size w w' := by
  rcases Int.lt_or_le x 0 with h | h
  · obtain ⟨a, rfl⟩ : ∃ a : Nat, x = -(a : Int) := ⟨(-x).toNat, by omega⟩
    obtain ⟨tb, ht⟩ : ∃ tb : ByteArray, tb = ⟨(Lib.decDigits a).toArray⟩ := ⟨_, rfl⟩
    have C1 := Lib.hid (fun w => digits_any a a tb w (Nat.le_refl _) (by omega) (Lib.hid ht))
    have HV : Hid ((⟨(Lib.itoa (-(a : Int))).toArray⟩ : ByteArray) = (⟨#[45]⟩ : ByteArray) ++ tb) := Lib.hid (by rw [ht]; exact itoaB_neg a (by omega))
    have tz : tb.size ≤ 21 := by
      have h := itoa_len (a : Int) (by omega) (by omega)
      rw [Lib.itoa_nonneg] at h
      rw [ht, size_mk]
      exact h
    have d1 := decide_eq_true h
    have e1 : - -(a : Int) = a := by omega
    have e2 : IntKind.i64.wrap (a : Int) = a := IntWalk.i64_in _ (by omega)
    clear ht
    go_enter Tryd.func36, Tryd.ntmps36
    go_wp2_with (go_at_call 58; go_must (refine (C1.out _).mono ?_; rintro e1 w1 ⟨rfl, m, rfl⟩))
    go_returns
    exact ⟨by rw [HV.out]; rfl, Go.below_drewN (Below.refl _ _) _⟩
  · obtain ⟨a, rfl⟩ : ∃ a : Nat, x = (a : Int) := ⟨x.toNat, by omega⟩
    obtain ⟨tb, ht⟩ : ∃ tb : ByteArray, tb = ⟨(Lib.decDigits a).toArray⟩ := ⟨_, rfl⟩
    have C1 := Lib.hid (fun w => digits_any a a tb w (Nat.le_refl _) (by omega) (Lib.hid ht))
    have HV : Hid ((⟨(Lib.itoa (a : Int)).toArray⟩ : ByteArray) = tb) := Lib.hid (by rw [ht, Lib.itoa_nonneg])
    have d1 : decide ((a : Int) < 0) = false := decide_eq_false (by omega)
    have d2 : ¬ (a : Int) < 0 := by omega
    clear ht
    go_enter Tryd.func36, Tryd.ntmps36
    go_wp2_with (go_at_call 58; go_must (refine (C1.out _).mono ?_; rintro e1 w1 ⟨rfl, m, rfl⟩))
    go_returns
    exact ⟨by rw [HV.out]; rfl, Go.below_drewN (Below.refl _ _) _⟩
set_option maxHeartbeats 1000000 in
theorem names_any (w : World) : Calls Tryd.prog 35 #[] w fun e w' => e = .returned (.slice (some ⟨w.heap.size, 0, none⟩) 8 8) ∧ w' = w.alloc (.cells nmT.toArray 9) := by
  go_enter Tryd.func35, Tryd.ntmps35
  go_wp2
  go_returns
  exact ⟨rfl, rfl⟩
theorem names_at (w : World) (n : Nat) (h : n < 8) : (w.alloc (.cells nmT.toArray 9)).cell? ⟨w.heap.size, n, none⟩ = some (.string ⟨(nm7 ((n : Int) + 1)).toArray⟩) := by
  rw [(RowAt.new w 9 nmT.toArray).cell n]
  have : n = 0 ∨ n = 1 ∨ n = 2 ∨ n = 3 ∨ n = 4 ∨ n = 5 ∨ n = 6 ∨ n = 7 := by omega
  rcases this with rfl | rfl | rfl | rfl | rfl | rfl | rfl | rfl <;> rfl
theorem held_ln {w W W' : World} {b n : Nat} {f t v a : Int} {s : ByteArray} {u : Int} (h : W.cell? ⟨b, 0, none⟩ = some (.int .i64 ((n : Int) + 1)) ∧ W.cell? ⟨b, 1, none⟩ = some (.int .i64 f) ∧ W.cell? ⟨b, 2, none⟩ = some (.int .i64 t) ∧ W.cell? ⟨b, 3, none⟩ = some (.int .i64 v) ∧ W.cell? ⟨b, 4, none⟩ = some (.int .i64 a) ∧ W.cell? ⟨b, 5, none⟩ = some (.string s) ∧ W.cell? ⟨b, 6, none⟩ = some (.int .i64 u) ∧ Below w.heap.size w W ∧ b < W.heap.size) (hb : Below W.heap.size W W') : W'.cell? ⟨b, 0, none⟩ = some (.int .i64 ((n : Int) + 1)) ∧ W'.cell? ⟨b, 1, none⟩ = some (.int .i64 f) ∧ W'.cell? ⟨b, 2, none⟩ = some (.int .i64 t) ∧ W'.cell? ⟨b, 3, none⟩ = some (.int .i64 v) ∧ W'.cell? ⟨b, 4, none⟩ = some (.int .i64 a) ∧ W'.cell? ⟨b, 5, none⟩ = some (.string s) ∧ W'.cell? ⟨b, 6, none⟩ = some (.int .i64 u) ∧ Below w.heap.size w W' ∧ b < W'.heap.size := by
  obtain ⟨a0, a1, a2, a3, a4, a5, a6, hB, l1⟩ := h
  have hs := hb.size
  exact ⟨(hb.cell l1).trans a0, (hb.cell l1).trans a1, (hb.cell l1).trans a2, (hb.cell l1).trans a3, (hb.cell l1).trans a4, (hb.cell l1).trans a5, (hb.cell l1).trans a6, hB.trans (hb.mono hB.size), by omega⟩
theorem line_bytes (e : Ev) : (⟨(ln7 e).toArray⟩ : ByteArray) = (⟨(nm7 e.k).toArray⟩ : ByteArray) ++ ⟨#[32]⟩ ++ ⟨(Lib.itoa e.f).toArray⟩ ++ ⟨#[32]⟩ ++ ⟨(Lib.itoa e.t).toArray⟩ ++ ⟨#[32]⟩ ++ ⟨(Lib.itoa e.v).toArray⟩ ++ ⟨#[32]⟩ ++ ⟨(Lib.itoa e.a).toArray⟩ ++ ⟨#[32]⟩ ++ ⟨(Lib.itoa e.u).toArray⟩ ++ ⟨#[32]⟩ ++ ⟨(qt e.d).toArray⟩ := by
  refine ByteArray.ext ?_
  simp only [ByteArray.data_append]
  unfold ln7
  simp

end Go.Proofs.YtiimdkamgehioaaDoor
