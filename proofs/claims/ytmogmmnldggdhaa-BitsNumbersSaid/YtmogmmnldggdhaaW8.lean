/-
  The walks of Run, the program's and the specification's.
-/
import Derived.Test.YtmogmmnldggdhaaW6
namespace Go.Proofs.Ytmogmmnldggdhaa
open Go.RowKit
set_option linter.unusedVariables false
set_option linter.unusedSimpArgs false

set_option maxRecDepth 20000 in
set_option maxHeartbeats 1000000 in
theorem run_any (s : ByteArray) (at_ : Int) (w : World) (hs : s.size ≤ 140737488351232) :
    Calls Try.prog 26 #[.string s, .int .i64 at_] w fun e w' => e = .returned (.int .i64 (ruV s.data.toList at_ : Nat)) ∧ Below w.heap.size w w' := by
  have hlen := size_len s
  have hs' : (s.size : Int) ≤ 140737488351232 := by omega
  by_cases h1 : at_ < 0
  · rw [ruV_bad (.inr (.inl h1))]
    clear hlen
    go_enter Try.func26, Try.ntmps26
    go_wp2
    go_returns
    exact ⟨rfl, Below.refl _ _⟩
  · by_cases h2 : (s.size : Int) ≤ at_
    · rw [ruV_bad (.inr (.inr (by rw [← hlen]; exact h2)))]
      clear hlen
      go_enter Try.func26, Try.ntmps26
      go_wp2
      go_returns
      exact ⟨rfl, Below.refl _ _⟩
    · obtain ⟨a, rfl⟩ : ∃ a : Nat, at_ = a := ⟨at_.toNat, by omega⟩
      have ha : a < s.size := by omega
      have HV := Lib.hid (fun w => valid_any s w hs)
      rcases hok : okB s.data.toList with _ | _
      · rw [hok] at HV
        rw [ruV_bad (.inl hok)]
        clear hok hlen
        go_enter Try.func26, Try.ntmps26
        go_wp2_with (go_at_call 14; go_must (refine (HV.out _).mono ?_; rintro e w1 ⟨rfl, rfl⟩))
        go_returns
        exact ⟨rfl, Below.refl _ _⟩
      · rw [hok] at HV
        rw [ruV_ok hok (by omega)]
        obtain ⟨T, hT⟩ : ∃ T, s.extract a s.size = T := ⟨_, rfl⟩
        have hTl : T.data.toList = s.data.toList.drop a := by
          rw [← hT, Lib.extract_data]
          exact List.take_of_length_le (by rw [List.length_drop, ← hlen]; exact Nat.le_refl _)
        have hTz : T.size = s.size - a := by rw [size_len, hTl, List.length_drop, ← hlen]
        have hT0 : 0 < T.size := by omega
        have hTs : (T.size : Int) ≤ 140737488351232 := by omega
        have HR := Lib.hid (show rn s.data.toList a = rl T[0] T.data.toList by
          have e : T.data.toList = T[0] :: T.data.toList.drop 1 := by
            have := drop_at T 0 hT0
            rwa [List.drop_zero] at this
          unfold rn
          rw [← hTl]
          conv => lhs; rw [e]
          conv => rhs; rw [e])
        have HL := Lib.hid (size_len T)
        clear hok hlen hTl hTz h1 h2
        go_enter Try.func26, Try.ntmps26
        go_wp2_with (go_at_call 14; go_must (refine (HV.out _).mono ?_; rintro e w1 ⟨rfl, rfl⟩))
        go_loopw [25] (fun x wr => ∃ k : Nat, k ≤ T.size ∧ x = .int .i64 k ∧ Hid (k + rl T[0] (T.data.toList.drop k) = rl T[0] T.data.toList) ∧ Below w.heap.size w wr) (fun x _ => T.size - (intOf x).toNat)
        case atStart => exact ⟨0, by omega, rfl, (show _ = _ by rw [List.drop_zero, Nat.zero_add]), Below.refl _ _⟩
        case round =>
          obtain ⟨k, hk, rfl, HC, hb⟩ := hrel
          by_cases he : k = T.size
          · subst he
            have HE := Lib.hid (show T.size = rn s.data.toList a by rw [HR.out, ← HC.out, List.drop_eq_nil_of_le (by rw [← HL.out]; exact Nat.le_refl _)]; rfl)
            go_wp2
            go_returns
            exact ⟨ret_int (by rw [← HE.out]), hb⟩
          · have hlt : k < T.size := by omega
            have HD := Lib.hid (drop_at T k hlt)
            by_cases hc : T[k].toNat = T[0].toNat
            · go_wp2
              go_quiet (fail)
              go_wp2
              go_roundw
              case rel => exact ⟨k + 1, by omega, by go_num, (show _ = _ by rw [← HC.out, HD.out, rl_eq _ (UInt8.toNat_inj.1 hc)]; omega), below_drewN hb _⟩
              case measure => simp [intOf]; omega
            · have HE := Lib.hid (show k = rn s.data.toList a by rw [HR.out, ← HC.out, HD.out, rl_ne _ (fun h => hc (congrArg UInt8.toNat h))]; rfl)
              go_wp2
              go_quiet (fail)
              go_wp2
              go_returns
              exact ⟨ret_int (by rw [← HE.out]), below_drewN hb _⟩

set_option maxRecDepth 20000 in
set_option maxHeartbeats 1000000 in
theorem rrun_any (s : ByteArray) (at_ : Int) (w : World) (hs : s.size ≤ 140737488351232) :
    Calls Try.prog 27 #[.string s, .int .i64 at_] w fun e w' => e = .returned (.int .i64 (ruV s.data.toList at_ : Nat)) ∧ Below w.heap.size w w' := by
  have hlen := size_len s
  have hs' : (s.size : Int) ≤ 140737488351232 := by omega
  have HV := Lib.hid (fun w => rvalid_any s w hs)
  rcases hok : okB s.data.toList with _ | _
  · rw [hok] at HV
    rw [ruV_bad (.inl hok)]
    clear hok hlen
    go_enter Try.func27, Try.ntmps27
    go_wp2_with (go_at_call 15; go_must (refine (HV.out _).mono ?_; rintro e w1 ⟨rfl, rfl⟩))
    go_returns
    exact ⟨rfl, Below.refl _ _⟩
  · rw [hok] at HV
    by_cases h1 : at_ < 0
    · rw [ruV_bad (.inr (.inl h1))]
      clear hok hlen
      go_enter Try.func27, Try.ntmps27
      go_wp2_with (go_at_call 15; go_must (refine (HV.out _).mono ?_; rintro e w1 ⟨rfl, rfl⟩))
      go_returns
      exact ⟨rfl, Below.refl _ _⟩
    · by_cases h2 : (s.size : Int) ≤ at_
      · rw [ruV_bad (.inr (.inr (by rw [← hlen]; exact h2)))]
        clear hok hlen
        go_enter Try.func27, Try.ntmps27
        go_wp2_with (go_at_call 15; go_must (refine (HV.out _).mono ?_; rintro e w1 ⟨rfl, rfl⟩))
        go_returns
        exact ⟨rfl, Below.refl _ _⟩
      · obtain ⟨a, rfl⟩ : ∃ a : Nat, at_ = a := ⟨at_.toNat, by omega⟩
        have ha : a < s.size := by omega
        rw [ruV_ok hok (by omega)]
        have HR := Lib.hid (show rn s.data.toList a = rl s[a] (s.data.toList.drop a) from rn_at (l := s.data.toList) (by rw [← hlen]; exact ha))
        have HL := Lib.hid hlen
        clear hok hlen
        go_enter Try.func27, Try.ntmps27
        go_wp2_with (go_at_call 15; go_must (refine (HV.out _).mono ?_; rintro e w1 ⟨rfl, rfl⟩))
        go_loopw [5] (fun x wr => ∃ k : Nat, a + k ≤ s.size ∧ x = .int .i64 k ∧ Hid (k + rl s[a] (s.data.toList.drop (a + k)) = rl s[a] (s.data.toList.drop a)) ∧ Below w.heap.size w wr) (fun x _ => s.size - a - (intOf x).toNat)
        case atStart => exact ⟨0, by omega, rfl, (show _ = _ by rw [Nat.add_zero, Nat.zero_add]), Below.refl _ _⟩
        case round =>
          obtain ⟨k, hk, rfl, HC, hb⟩ := hrel
          by_cases he : a + k = s.size
          · have HE := Lib.hid (show k = rn s.data.toList a by rw [HR.out, ← HC.out, List.drop_eq_nil_of_le (by rw [← HL.out, he]; exact Nat.le_refl _)]; rfl)
            have hd : decide ((a : Int) + k < s.size) = false := decide_eq_false (by omega)
            go_wp2
            go_quiet (fail)
            go_wp2
            go_returns
            exact ⟨ret_int (by rw [← HE.out]), below_drewN hb _⟩
          · obtain ⟨j, HJ⟩ : ∃ j, Hid (j = a + k) := ⟨_, rfl⟩
            have hlt : j < s.size := by rw [HJ.out]; omega
            have HD := Lib.hid (drop_at s j hlt)
            have hw : IntKind.i64.wrap ((a : Int) + k) = (j : Int) := by rw [IntKind.wrap_i64, HJ.out]; omega
            have hd : decide ((j : Int) < (s.size : Int)) = true := decide_eq_true (by omega)
            by_cases hc : s[j].toNat = s[a].toNat
            · go_wp2
              go_quiet (fail)
              go_wp2
              go_roundw
              case rel => exact ⟨k + 1, by have := HJ.out; omega, by go_num, (show _ = _ by rw [← HC.out, ← HJ.out, HD.out, rl_eq _ (UInt8.toNat_inj.1 hc), show a + (k + 1) = j + 1 by rw [HJ.out]; omega]; omega), below_drewN hb _⟩
              case measure => have := HJ.out; simp [intOf]; omega
            · have HE := Lib.hid (show k = rn s.data.toList a by rw [HR.out, ← HC.out, ← HJ.out, HD.out, rl_ne _ (fun h => hc (congrArg UInt8.toNat h))]; rfl)
              go_wp2
              go_quiet (fail)
              go_wp2
              go_returns
              exact ⟨ret_int (by rw [← HE.out]), below_drewN hb _⟩

end Go.Proofs.Ytmogmmnldggdhaa
