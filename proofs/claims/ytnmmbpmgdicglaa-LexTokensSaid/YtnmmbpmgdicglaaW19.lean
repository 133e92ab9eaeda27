/-
  The walk of the specification's Unquote.
-/
import Derived.Test.YtnmmbpmgdicglaaW18
namespace Go.Proofs.Ytnmmbpmgdicglaa
open Go.RowKit
set_option linter.unusedVariables false
set_option linter.unusedSimpArgs false

set_option maxRecDepth 20000 in
theorem rquoted_no (s : ByteArray) (w : World) (h : s.size ≤ 0 ∨ ∃ h : 0 < s.size, s[0].toNat ≠ 34) :
    Calls Try.prog 37 #[.string s, .int .i64 0] w fun e w' => e = .returned (.tuple #[.string ⟨#[]⟩, .int .i64 0, .bool false]) ∧ w = w' := by
  rcases h with h | ⟨h0, h1⟩
  · have hs : s = ⟨#[]⟩ := by
      have e := bytes_of s
      rw [empty_toList (by omega)] at e
      exact e.symm
    subst hs
    clear h
    go_enter Try.func37, Try.ntmps37
    go_wp2
    go_returns
    exact ⟨rfl, rfl⟩
  · have l0 : (0 : Int) < s.size := by omega
    have e1 : ((s[0].toNat : Int) != 34) = true := by rw [bne_iff_ne]; omega
    clear h1
    go_enter Try.func37, Try.ntmps37
    go_wp2
    all_goals (go_returns; exact ⟨rfl, rfl⟩)

set_option maxHeartbeats 1000000 in
theorem runquote_any (s : ByteArray) (w : World) (hs : s.size ≤ 140737488351232) :
    Calls Try.prog 19 #[.string s] w fun e w' => e = .returned (unV s.data.toList) ∧ Below w.heap.size w w' := by
  by_cases hq : ∃ h : 0 < s.size, s[0].toNat = 34
  · obtain ⟨h0, h1⟩ := hq
    have C1 := fun w => rquoted_any s 0 w hs h0 h1
    have hu : unq s.data.toList = match qd (s.data.toList.drop 1) with | none => none | some (o, k) => if k = s.size - 1 then some o else none := by
      have e := unq_iff s[0] (s.data.toList.drop 1) h1
      rw [← cons_of h0, List.length_drop, ← size_len] at e
      exact e
    rw [Nat.zero_add] at C1
    clear h1
    cases hq : qd (s.data.toList.drop 1) with
    | none =>
      rw [hq] at hu C1
      have HV := Lib.hid (unV_none hu)
      simp only [quV] at C1
      have H1 := Lib.hid C1
      clear C1 hu hq
      go_enter Try.func19, Try.ntmps19
      go_wp2_with (first
        | (go_at_call 37; go_must (refine (H1.out _).mono ?_; rintro e w1 ⟨rfl, b1⟩)))
      go_returns
      exact ⟨ret_of HV.out.symm, b1⟩
    | some p =>
      obtain ⟨o, k⟩ := p
      rw [hq] at hu C1
      simp only [quV] at C1
      by_cases hk : k = s.size - 1
      · simp only [hk, if_true] at hu
        have HV := Lib.hid (unV_some hu)
        have hks : ((0 + 1 + k : Nat) : Int) = (s.size : Int) := by omega
        rw [hks] at C1
        have H1 := Lib.hid C1
        clear C1 hu hq hk hks
        go_enter Try.func19, Try.ntmps19
        go_wp2_with (first
          | (go_at_call 37; go_must (refine (H1.out _).mono ?_; rintro e w1 ⟨rfl, b1⟩)))
        go_returns
        exact ⟨ret_of HV.out.symm, b1⟩
      · simp only [hk, if_false] at hu
        have HV := Lib.hid (unV_none hu)
        have hks : ¬ ((0 + 1 + k : Nat) : Int) = (s.size : Int) := by omega
        generalize ((0 + 1 + k : Nat) : Int) = K at *
        have hkb : (K != (s.size : Int)) = true := by rw [bne_iff_ne]; exact hks
        have hkb2 : (K == (s.size : Int)) = false := by rw [beq_eq_false_iff_ne]; exact hks
        have H1 := Lib.hid C1
        clear C1 hu hq hk
        go_enter Try.func19, Try.ntmps19
        go_wp2_with (first
          | (go_at_call 37; go_must (refine (H1.out _).mono ?_; rintro e w1 ⟨rfl, b1⟩)))
        go_returns
        exact ⟨ret_of HV.out.symm, b1⟩
  · have C1 := fun w => rquoted_no s w (by
      by_cases h0 : 0 < s.size
      · exact Or.inr ⟨h0, fun e => hq ⟨h0, e⟩⟩
      · exact Or.inl (by omega))
    have hu : unq s.data.toList = none := by
      by_cases h0 : 0 < s.size
      · exact unq_first h0 fun e => hq ⟨h0, e⟩
      · exact unq_short (by omega)
    have HV := Lib.hid (unV_none hu)
    have H1 := Lib.hid C1
    clear C1 hu hq
    go_enter Try.func19, Try.ntmps19
    go_wp2_with (first
      | (go_at_call 37; go_must (refine (H1.out _).mono ?_; rintro e w1 ⟨rfl, rfl⟩)))
    go_returns
    exact ⟨ret_of HV.out.symm, Below.refl _ _⟩

end Go.Proofs.Ytnmmbpmgdicglaa
