/-
  The walks of the specification's functions of single characters.
-/
import Derived.Test.YtpeiiomimfiebaaDoorW1
import Derived.Test.YtpeiiomimfiebaaDoorRN
namespace Go.Proofs.YtpeiiomimfiebaaDoor
open Go.RowKit
set_option linter.unusedVariables false
set_option linter.unusedSimpArgs false

theorem rletter_any (c : Nat) (C : Int) (w : World) (hC : C = (c : Int)) :
    Calls Tryd.prog 55 #[.int .u8 C] w fun e w' => e = .returned (.bool (isLt c)) ∧ w = w' := by
  subst hC
  by_cases h1 : 97 ≤ c
  · by_cases h2 : c ≤ 122
    · rw [isLt_t h1 h2]
      go_enter Tryd.func55, Tryd.ntmps55
      go_wp2
      go_returns
      exact ⟨ret_bool (by first | rfl | (simp; done) | (simp; omega)), rfl⟩
    · rw [isLt_f (by omega)]
      go_enter Tryd.func55, Tryd.ntmps55
      go_wp2
      go_returns
      exact ⟨ret_bool (by first | rfl | (simp; done) | (simp; omega)), rfl⟩
  · rw [isLt_f (by omega)]
    go_enter Tryd.func55, Tryd.ntmps55
    go_wp2
    go_returns
    exact ⟨ret_bool (by first | rfl | (simp; done) | (simp; omega)), rfl⟩

theorem rdigit_any (c : Nat) (C : Int) (w : World) (hC : C = (c : Int)) :
    Calls Tryd.prog 64 #[.int .u8 C] w fun e w' => e = .returned (.bool (isDg c)) ∧ w = w' := by
  subst hC
  by_cases h1 : 48 ≤ c
  · by_cases h2 : c ≤ 57
    · rw [isDg_t h1 h2]
      go_enter Tryd.func64, Tryd.ntmps64
      go_wp2
      go_returns
      exact ⟨ret_bool (by first | rfl | (simp; done) | (simp; omega)), rfl⟩
    · rw [isDg_f (by omega)]
      go_enter Tryd.func64, Tryd.ntmps64
      go_wp2
      go_returns
      exact ⟨ret_bool (by first | rfl | (simp; done) | (simp; omega)), rfl⟩
  · rw [isDg_f (by omega)]
    go_enter Tryd.func64, Tryd.ntmps64
    go_wp2
    go_returns
    exact ⟨ret_bool (by first | rfl | (simp; done) | (simp; omega)), rfl⟩

set_option maxHeartbeats 2000000 in
theorem rinner_any (c : Nat) (C : Int) (w : World) (hC : C = (c : Int)) :
    Calls Tryd.prog 56 #[.int .u8 C] w fun e w' => e = .returned (.bool (isIn c)) ∧ w = w' := by
  subst hC
  have C1 := fun (w : World) (C : Int) (h : C = (c : Int)) => rletter_any c C w h
  have C2 := fun (w : World) (C : Int) (h : C = (c : Int)) => rdigit_any c C w h
  unfold isIn
  generalize isLt c = bl at *
  generalize isDg c = bd at *
  have H1 := Lib.hid C1; have H2 := Lib.hid C2
  clear C1 C2
  by_cases h95 : c = 95
  · have e1 : (c : Int) = 95 := by omega
    cases bl <;> cases bd
    all_goals
      go_enter Tryd.func56, Tryd.ntmps56
      go_wp2_with (first
        | (go_at_call 55; go_must (refine (H1.out _ _ (by omega)).mono ?_; rintro e w1 ⟨rfl, rfl⟩))
        | (go_at_call 64; go_must (refine (H2.out _ _ (by omega)).mono ?_; rintro e w1 ⟨rfl, rfl⟩)))
      go_returns
      exact ⟨ret_bool (by first | rfl | (simp [h95]; done)), rfl⟩
  · have e1 : ((c : Int) == 95) = false := by rw [Bool.eq_false_iff]; simp; omega
    cases bl <;> cases bd
    all_goals
      go_enter Tryd.func56, Tryd.ntmps56
      go_wp2_with (first
        | (go_at_call 55; go_must (refine (H1.out _ _ (by omega)).mono ?_; rintro e w1 ⟨rfl, rfl⟩))
        | (go_at_call 64; go_must (refine (H2.out _ _ (by omega)).mono ?_; rintro e w1 ⟨rfl, rfl⟩)))
      go_returns
      exact ⟨ret_bool (by first | rfl | (simp [h95]; done)), rfl⟩

theorem rhexa_any (c : Nat) (C : Int) (w : World) (hC : C = (c : Int)) (hc : c < 256) :
    Calls Tryd.prog 63 #[.int .u8 C] w fun e w' => e = .returned (.int .i64 (hx c)) ∧ w = w' := by
  subst hC
  have C1 := fun w => rdigit_any c c w rfl
  by_cases h1 : 48 ≤ c ∧ c ≤ 57
  · rw [hx_dg h1.1 h1.2]
    rw [isDg_t h1.1 h1.2] at C1
    obtain ⟨h1, h2⟩ := h1
    have H1 := Lib.hid C1
    clear C1
    go_enter Tryd.func63, Tryd.ntmps63
    go_wp2_with (first
      | (go_at_call 64; go_must (refine (H1.out _).mono ?_; rintro e w1 ⟨rfl, rfl⟩)))
    go_returns
    exact ⟨rfl, rfl⟩
  · rw [isDg_f (by omega)] at C1
    have H1 := Lib.hid C1
    clear C1
    by_cases h2 : 97 ≤ c ∧ c ≤ 102
    · rw [hx_af h2.1 h2.2]
      obtain ⟨h3, h4⟩ := h2
      go_enter Tryd.func63, Tryd.ntmps63
      go_wp2_with (first
        | (go_at_call 64; go_must (refine (H1.out _).mono ?_; rintro e w1 ⟨rfl, rfl⟩)))
      go_returns
      exact ⟨ret_int (by omega), rfl⟩
    · rw [hx_no h1 h2]
      have h3 : (c < 97 ∨ 97 ≤ c ∧ 102 < c) := by omega
      rcases h3 with h3 | ⟨h3, h4⟩
      all_goals
        go_enter Tryd.func63, Tryd.ntmps63
        go_wp2_with (first
          | (go_at_call 64; go_must (refine (H1.out _).mono ?_; rintro e w1 ⟨rfl, rfl⟩)))
        go_returns
        exact ⟨rfl, rfl⟩

/-! Mark. -/
def mkL : List Nat := [40, 41, 91, 93, 123, 125, 60, 62, 61, 44, 59, 58, 46, 47, 42, 43, 33, 38, 124]
theorem mkC_here {c k : Nat} (hk : k < mkL.length) (h : c = mkL[k]) : mkC c = true := by
  subst h
  exact List.contains_iff_mem.2 (List.getElem_mem hk)
theorem mkC_no {c : Nat} (h : ∀ j (hj : j < mkL.length), c ≠ mkL[j]) : mkC c = false := by
  rw [Bool.eq_false_iff]
  intro e
  have e2 : mkL.contains c = true := e
  obtain ⟨j, hj, hh⟩ := List.mem_iff_getElem.1 (List.contains_iff_mem.1 e2)
  exact h j hj hh.symm
theorem mk_byte (k : Nat) (h : k < 19) : ((⟨#[40, 41, 91, 93, 123, 125, 60, 62, 61, 44, 59, 58, 46, 47, 42, 43, 33, 38, 124]⟩ : ByteArray)[k]'h).toNat = mkL[k]'h := by
  have : ∀ j : Fin 19, ((⟨#[40, 41, 91, 93, 123, 125, 60, 62, 61, 44, 59, 58, 46, 47, 42, 43, 33, 38, 124]⟩ : ByteArray)[j.val]'j.isLt).toNat = mkL[j.val]'j.isLt := by decide
  exact this ⟨k, h⟩

set_option maxHeartbeats 1000000 in
theorem rmark_any (c : Nat) (C : Int) (w : World) (hC : C = (c : Int)) :
    Calls Tryd.prog 42 #[.int .u8 C] w fun e w' => e = .returned (.bool (mkC c)) ∧ w = w' := by
  subst hC
  have HY := Lib.hid (fun k hk => @mkC_here c k hk); have HN := Lib.hid (@mkC_no c)
  go_enter Tryd.func42, Tryd.ntmps42
  go_wp2
  go_loop [4] (fun x => ∃ k : Nat, k ≤ 19 ∧ x = .int .i64 k ∧ Hid (∀ j (hj : j < mkL.length), j < k → c ≠ mkL[j])) (fun x => 19 - (intOf x).toNat)
  case atStart => exact ⟨0, by omega, rfl, Lib.hid (fun j hj h => by omega)⟩
  case round =>
    obtain ⟨k, hk, rfl, HK⟩ := hrel
    by_cases hlt : k < 19
    · have hb := mk_byte k hlt
      by_cases hc : mkL[k]'hlt = c
      · have HV := Lib.hid (HY.out k hlt hc.symm)
        have e1 : ((((⟨#[40, 41, 91, 93, 123, 125, 60, 62, 61, 44, 59, 58, 46, 47, 42, 43, 33, 38, 124]⟩ : ByteArray)[k]'hlt).toNat : Int) == (c : Int)) = true := by rw [hb, hc]; simp
        clear hb hc
        go_wp2
        go_returns
        exact ⟨ret_bool HV.out.symm, rfl⟩
      · have HV := Lib.hid (show ∀ j (hj : j < mkL.length), j < k + 1 → c ≠ mkL[j] from fun j hj h => by
          by_cases e : j = k
          · subst e; exact fun e => hc e.symm
          · exact HK.out j hj (by omega))
        have e1 : ((((⟨#[40, 41, 91, 93, 123, 125, 60, 62, 61, 44, 59, 58, 46, 47, 42, 43, 33, 38, 124]⟩ : ByteArray)[k]'hlt).toNat : Int) == (c : Int)) = false := by rw [hb, Bool.eq_false_iff]; simp; omega
        clear hb hc
        go_wp2
        go_round
        case rel => exact ⟨k + 1, by omega, by go_num, HV⟩
        case measure => simp [intOf]; omega
    · have HV := Lib.hid (HN.out (fun j hj => HK.out j hj (by have : mkL.length = 19 := rfl; omega)))
      go_wp2
      go_returns
      exact ⟨ret_bool HV.out.symm, rfl⟩

end Go.Proofs.YtpeiiomimfiebaaDoor
