/-
  The walks of the functions of single characters.
-/
import Derived.Test.YtiimdkamgehioaaDoorM2
import Derived.Test.YtiimdkamgehioaaDoorB1
import Derived.Deep.DeepMust
import Derived.Deep.RegionHeld3
namespace Go.Proofs.YtiimdkamgehioaaDoor
open Go.RowKit
set_option linter.unusedVariables false
set_option linter.unusedSimpArgs false

theorem isLt_t {c : Nat} (h1 : 97 ≤ c) (h2 : c ≤ 122) : isLt c = true := decide_eq_true ⟨h1, h2⟩
theorem isLt_f {c : Nat} (h : c < 97 ∨ 122 < c) : isLt c = false := decide_eq_false (by omega)
theorem isDg_t {c : Nat} (h1 : 48 ≤ c) (h2 : c ≤ 57) : isDg c = true := decide_eq_true ⟨h1, h2⟩
theorem isDg_f {c : Nat} (h : c < 48 ∨ 57 < c) : isDg c = false := decide_eq_false (by omega)
theorem isPr_t {c : Nat} (h1 : 32 ≤ c) (h2 : c ≤ 126) : isPr c = true := decide_eq_true ⟨h1, h2⟩
theorem isPr_f {c : Nat} (h : c < 32 ∨ 126 < c) : isPr c = false := decide_eq_false (by omega)

theorem digit_any (c : Nat) (C : Int) (w : World) (hC : C = (c : Int)) :
    Calls Tryd.prog 123 #[.int .i32 C] w fun e w' => e = .returned (.bool (isDg c)) ∧ w = w' := by
  subst hC
  by_cases h1 : 48 ≤ c
  · by_cases h2 : c ≤ 57
    · rw [isDg_t h1 h2]
      go_enter Tryd.func123, Tryd.ntmps123
      go_wp2
      go_returns
      exact ⟨ret_bool (by first | rfl | (simp; done) | (simp; omega)), rfl⟩
    · rw [isDg_f (by omega)]
      go_enter Tryd.func123, Tryd.ntmps123
      go_wp2
      go_returns
      exact ⟨ret_bool (by first | rfl | (simp; done) | (simp; omega)), rfl⟩
  · rw [isDg_f (by omega)]
    go_enter Tryd.func123, Tryd.ntmps123
    go_wp2
    go_returns
    exact ⟨ret_bool (by first | rfl | (simp; done) | (simp; omega)), rfl⟩

theorem printable_any (c : Nat) (C : Int) (w : World) (hC : C = (c : Int)) :
    Calls Tryd.prog 55 #[.int .i32 C] w fun e w' => e = .returned (.bool (isPr c)) ∧ w = w' := by
  subst hC
  by_cases h1 : 32 ≤ c
  · by_cases h2 : c ≤ 126
    · rw [isPr_t h1 h2]
      go_enter Tryd.func55, Tryd.ntmps55
      go_wp2
      go_returns
      exact ⟨ret_bool (by first | rfl | (simp; done) | (simp; omega)), rfl⟩
    · rw [isPr_f (by omega)]
      go_enter Tryd.func55, Tryd.ntmps55
      go_wp2
      go_returns
      exact ⟨ret_bool (by first | rfl | (simp; done) | (simp; omega)), rfl⟩
  · rw [isPr_f (by omega)]
    go_enter Tryd.func55, Tryd.ntmps55
    go_wp2
    go_returns
    exact ⟨ret_bool (by first | rfl | (simp; done) | (simp; omega)), rfl⟩

theorem hx_dg {c : Nat} (h1 : 48 ≤ c) (h2 : c ≤ 57) : hx c = (c : Int) - 48 := by unfold hx; rw [if_pos ⟨h1, h2⟩]
theorem hx_af {c : Nat} (h1 : 97 ≤ c) (h2 : c ≤ 102) : hx c = (c : Int) - 87 := by unfold hx; rw [if_neg (by omega), if_pos ⟨h1, h2⟩]
theorem hx_no {c : Nat} (h : ¬ (48 ≤ c ∧ c ≤ 57)) (h2 : ¬ (97 ≤ c ∧ c ≤ 102)) : hx c = -1 := by unfold hx; rw [if_neg h, if_neg h2]

theorem digitValue_any (c : Nat) (C : Int) (w : World) (hC : C = (c : Int)) (hc : c ≤ 2147483647) :
    Calls Tryd.prog 116 #[.int .i32 C] w fun e w' => e = .returned (.int .i64 (hx c)) ∧ w = w' := by
  subst hC
  have C1 := fun w => digit_any c c w rfl
  by_cases h1 : 48 ≤ c ∧ c ≤ 57
  · rw [hx_dg h1.1 h1.2]
    rw [isDg_t h1.1 h1.2] at C1
    obtain ⟨h1, h2⟩ := h1
    have H1 := Lib.hid C1
    clear C1
    go_enter Tryd.func116, Tryd.ntmps116
    go_wp2_with (first
      | (go_at_call 123; go_must (refine (H1.out _).mono ?_; rintro e w1 ⟨rfl, rfl⟩)))
    go_returns
    exact ⟨rfl, rfl⟩
  · rw [isDg_f (by omega)] at C1
    have H1 := Lib.hid C1
    clear C1
    by_cases h2 : 97 ≤ c ∧ c ≤ 102
    · rw [hx_af h2.1 h2.2]
      obtain ⟨h3, h4⟩ := h2
      go_enter Tryd.func116, Tryd.ntmps116
      go_wp2_with (first
        | (go_at_call 123; go_must (refine (H1.out _).mono ?_; rintro e w1 ⟨rfl, rfl⟩)))
      go_returns
      exact ⟨ret_int (by omega), rfl⟩
    · rw [hx_no h1 h2]
      have h3 : (c < 97 ∨ 97 ≤ c ∧ 102 < c) := by omega
      rcases h3 with h3 | ⟨h3, h4⟩
      all_goals
        go_enter Tryd.func116, Tryd.ntmps116
        go_wp2_with (first
          | (go_at_call 123; go_must (refine (H1.out _).mono ?_; rintro e w1 ⟨rfl, rfl⟩)))
        go_returns
        exact ⟨rfl, rfl⟩

end Go.Proofs.YtiimdkamgehioaaDoor
