/-
  The walks of the specification's functions of single characters.
-/
import Derived.Test.YtiimdkamgehioaaDoorW1
import Derived.Test.YtiimdkamgehioaaDoorRN
namespace Go.Proofs.YtiimdkamgehioaaDoor
open Go.RowKit
set_option linter.unusedVariables false
set_option linter.unusedSimpArgs false

theorem rdigit_any (c : Nat) (C : Int) (w : World) (hC : C = (c : Int)) :
    Calls Tryd.prog 100 #[.int .u8 C] w fun e w' => e = .returned (.bool (isDg c)) ∧ w = w' := by
  subst hC
  by_cases h1 : 48 ≤ c
  · by_cases h2 : c ≤ 57
    · rw [isDg_t h1 h2]
      go_enter Tryd.func100, Tryd.ntmps100
      go_wp2
      go_returns
      exact ⟨ret_bool (by first | rfl | (simp; done) | (simp; omega)), rfl⟩
    · rw [isDg_f (by omega)]
      go_enter Tryd.func100, Tryd.ntmps100
      go_wp2
      go_returns
      exact ⟨ret_bool (by first | rfl | (simp; done) | (simp; omega)), rfl⟩
  · rw [isDg_f (by omega)]
    go_enter Tryd.func100, Tryd.ntmps100
    go_wp2
    go_returns
    exact ⟨ret_bool (by first | rfl | (simp; done) | (simp; omega)), rfl⟩

theorem rhexa_any (c : Nat) (C : Int) (w : World) (hC : C = (c : Int)) (hc : c < 256) :
    Calls Tryd.prog 76 #[.int .u8 C] w fun e w' => e = .returned (.int .i64 (hx c)) ∧ w = w' := by
  subst hC
  have C1 := fun w => rdigit_any c c w rfl
  by_cases h1 : 48 ≤ c ∧ c ≤ 57
  · rw [hx_dg h1.1 h1.2]
    rw [isDg_t h1.1 h1.2] at C1
    obtain ⟨h1, h2⟩ := h1
    have H1 := Lib.hid C1
    clear C1
    go_enter Tryd.func76, Tryd.ntmps76
    go_wp2_with (first
      | (go_at_call 100; go_must (refine (H1.out _).mono ?_; rintro e w1 ⟨rfl, rfl⟩)))
    go_returns
    exact ⟨rfl, rfl⟩
  · rw [isDg_f (by omega)] at C1
    have H1 := Lib.hid C1
    clear C1
    by_cases h2 : 97 ≤ c ∧ c ≤ 102
    · rw [hx_af h2.1 h2.2]
      obtain ⟨h3, h4⟩ := h2
      go_enter Tryd.func76, Tryd.ntmps76
      go_wp2_with (first
        | (go_at_call 100; go_must (refine (H1.out _).mono ?_; rintro e w1 ⟨rfl, rfl⟩)))
      go_returns
      exact ⟨ret_int (by omega), rfl⟩
    · rw [hx_no h1 h2]
      have h3 : (c < 97 ∨ 97 ≤ c ∧ 102 < c) := by omega
      rcases h3 with h3 | ⟨h3, h4⟩
      all_goals
        go_enter Tryd.func76, Tryd.ntmps76
        go_wp2_with (first
          | (go_at_call 100; go_must (refine (H1.out _).mono ?_; rintro e w1 ⟨rfl, rfl⟩)))
        go_returns
        exact ⟨rfl, rfl⟩

/-! Mark. -/
def mkL : List Nat := [40, 41, 91, 93, 123, 125, 60, 62, 61, 44, 59, 58, 46, 47, 42, 43, 33, 38, 124]
theorem mkC_here {c k : Nat} (hk : k < mkL.length) (h : c = mkL[k]) : mkC c = true := by
  subst h
  exact List.contains_iff_mem.2 (List.getElem_mem hk)
theorem mkC_no {c : Nat} (h : ∀ j (hj : j < mkL.length), c ≠ mkL[j]) : mkC c = false := by
  rw [Bool.eq_false_iff]
  intro e
  have e2 : mkL.contains c = true := e
  obtain ⟨j, hj, hh⟩ := List.mem_iff_getElem.1 (List.contains_iff_mem.1 e2)
  exact h j hj hh.symm
theorem mk_byte (k : Nat) (h : k < 19) : ((⟨#[40, 41, 91, 93, 123, 125, 60, 62, 61, 44, 59, 58, 46, 47, 42, 43, 33, 38, 124]⟩ : ByteArray)[k]'h).toNat = mkL[k]'h := by
  have : ∀ j : Fin 19, ((⟨#[40, 41, 91, 93, 123, 125, 60, 62, 61, 44, 59, 58, 46, 47, 42, 43, 33, 38, 124]⟩ : ByteArray)[j.val]'j.isLt).toNat = mkL[j.val]'j.isLt := by decide
  exact this ⟨k, h⟩

end Go.Proofs.YtiimdkamgehioaaDoor
