/-
  The walk of the statement BitsRuns.
-/
import Derived.Test.YtmogmmnldggdhaaW9
namespace Go.Proofs.Ytmogmmnldggdhaa
open Go.RowKit
set_option linter.unusedVariables false

set_option maxRecDepth 20000 in
set_option maxHeartbeats 2000000 in
theorem law_runs_out (s : ByteArray) (w : World) (hs : s.size ≤ 140737488351232) (h : 5000 < s.size ∨ okB s.data.toList = false) :
    Calls Try.prog 8 #[.string s] w fun e w' => e = .returned (.bool true) ∧ Below w.heap.size w w' := by
  have hs' : (s.size : Int) ≤ 140737488351232 := by omega
  by_cases hbig : 5000 < s.size
  · go_enter Try.func8, Try.ntmps8
    go_wp2_with (first
      | (go_at_call 9; go_must (refine (lives_any _).mono ?_; rintro e w0 ⟨rfl, b0⟩)))
    go_returns
    exact ⟨rfl, by (repeat' (first | with_reducible exact Below.refl _ _ | with_reducible exact Nat.le_refl _ | with_reducible assumption | with_reducible refine below_drewN ?_ _ | with_reducible refine Below.drew ?_ | with_reducible refine Below.trans ?_ (Below.mono (by assumption) ?_) | with_reducible refine Below.alloc ?_ ?_ _ | with_reducible refine le_alloc ?_ _ | with_reducible refine le_drewN ?_ _ | with_reducible refine le_drew ?_ | with_reducible refine Nat.le_trans ?_ (Below.size (by assumption))))⟩
  · have hok : okB s.data.toList = false := by
      rcases h with h | h
      · omega
      · exact h
    have C1 : ∀ w, Calls Try.prog 14 #[.string s] w fun e w' => e = .returned (.bool false) ∧ w = w' := fun w => by
      have := valid_any s w hs; rwa [hok] at this
    have H1 := Lib.hid C1
    clear C1 h hok hs
    go_enter Try.func8, Try.ntmps8
    go_wp2_with (first
      | (go_at_call 9; go_must (refine (lives_any _).mono ?_; rintro e w0 ⟨rfl, b0⟩))
      | (go_at_call 14; go_must (refine (H1.out _).mono ?_; rintro e w1 ⟨rfl, rfl⟩)))
    go_returns
    exact ⟨rfl, by (repeat' (first | with_reducible exact Below.refl _ _ | with_reducible exact Nat.le_refl _ | with_reducible assumption | with_reducible refine below_drewN ?_ _ | with_reducible refine Below.drew ?_ | with_reducible refine Below.trans ?_ (Below.mono (by assumption) ?_) | with_reducible refine Below.alloc ?_ ?_ _ | with_reducible refine le_alloc ?_ _ | with_reducible refine le_drewN ?_ _ | with_reducible refine le_drew ?_ | with_reducible refine Nat.le_trans ?_ (Below.size (by assumption))))⟩

set_option maxRecDepth 20000 in
set_option maxHeartbeats 2000000 in
theorem law_runs (s : ByteArray) (w : World) (hs : s.size ≤ 5000) (hok : okB s.data.toList = true) :
    Calls Try.prog 8 #[.string s] w fun e w' => e = .returned (.bool true) ∧ Below w.heap.size w w' := by
  have hs' : (s.size : Int) ≤ 5000 := by omega
  have hlen := size_len s
  have C1 : ∀ w, Calls Try.prog 14 #[.string s] w fun e w' => e = .returned (.bool true) ∧ w = w' := fun w => by
    have := valid_any s w (by omega); rwa [hok] at this
  have C2 : ∀ (k : Nat) w, k < s.size → Calls Try.prog 26 #[.string s, .int .i64 k] w fun e w' => e = .returned (.int .i64 (rn s.data.toList k : Nat)) ∧ Below w.heap.size w w' := fun k w hk => by
    have := run_any s k w (by omega); rwa [ruV_ok hok (by omega)] at this
  have C3 : ∀ w, Calls Try.prog 26 #[.string s, .int .i64 s.size] w fun e w' => e = .returned (.int .i64 0) ∧ Below w.heap.size w w' := fun w => by
    have := run_any s s.size w (by omega); rwa [ruV_bad (.inr (.inr (by omega)))] at this
  have C4 : ∀ w, Calls Try.prog 26 #[.string s, .int .i64 (-1)] w fun e w' => e = .returned (.int .i64 0) ∧ Below w.heap.size w w' := fun w => by
    have := run_any s (-1) w (by omega); rwa [ruV_bad (.inr (.inl (by omega)))] at this
  have C5 : ∀ (k : Nat) (hk : k < s.size), 1 ≤ rn s.data.toList k ∧ k + rn s.data.toList k ≤ s.size ∧ (∀ j (_ : k ≤ j) (_ : j < k + rn s.data.toList k) (hj : j < s.size), s[j].toNat = s[k].toNat) ∧ ∀ j (_ : j = k + rn s.data.toList k) (hj : j < s.size), s[j].toNat ≠ s[k].toNat := fun k hk => by
    obtain ⟨h1, h2, h3, h4⟩ := rn_facts (l := s.data.toList) (a := k) (by omega)
    refine ⟨h1, by omega, fun j hkj hj hj' => ?_, fun j hj hj' => ?_⟩
    · obtain ⟨i, rfl⟩ : ∃ i, j = k + i := ⟨j - k, by omega⟩
      exact congrArg UInt8.toNat (h3 i (by omega) (by omega))
    · subst hj
      exact fun e => h4 (by omega) (UInt8.toNat_inj.1 e)
  have H1 := Lib.hid C1; have H2 := Lib.hid C2; have H3 := Lib.hid C3; have H4 := Lib.hid C4; have H5 := Lib.hid C5
  clear C1 C2 C3 C4 C5 hok hs hlen
  go_enter Try.func8, Try.ntmps8
  go_wp2_with (first
    | (go_at_call 9; go_must (refine (lives_any _).mono ?_; rintro e w0 ⟨rfl, b0⟩))
    | (go_at_call 14; go_must (refine (H1.out _).mono ?_; rintro e w1 ⟨rfl, rfl⟩)))
  go_loopw [3] (fun x wr => ∃ k : Nat, k ≤ s.size ∧ x = .int .i64 k ∧ Below w.heap.size w wr) (fun x _ => s.size - (intOf x).toNat)
  case atStart => exact ⟨0, by omega, rfl, b0⟩
  case round =>
    obtain ⟨k, hk, rfl, hb⟩ := hrel
    by_cases he : k = s.size
    · subst he
      go_wp2_with (first
        | (go_at_call_of 26 (Value.int .i64 s.size); go_must (refine (H3.out _).mono ?_; rintro e w3 ⟨rfl, b3⟩))
        | (go_at_call 26; go_must (refine (H4.out _).mono ?_; rintro e w4 ⟨rfl, b4⟩)))
      go_returns
      exact ⟨rfl, (hb.trans (b3.mono hb.size)).trans (b4.mono (hb.trans (b3.mono hb.size)).size)⟩
    · have hlt : k < s.size := by omega
      obtain ⟨hN1, hN2, hN3, hN4⟩ := H5.out k hlt
      have HC := Lib.hid (fun w => H2.out k w hlt)
      generalize rn s.data.toList k = N at hN1 hN2 hN3 hN4 HC
      have HQ := Lib.hid hN3
      have HX := Lib.hid hN4
      clear hN3 hN4
      go_wp2_with (go_at_call 26; go_must (refine (HC.out _).mono ?_; rintro e w1 ⟨rfl, b1⟩))
      have hb1 : Below w.heap.size w w1 := hb.trans (b1.mono hb.size)
      clear b1 hb
      go_loopw [5] (fun y wq => ∃ j : Nat, k ≤ j ∧ j ≤ k + N ∧ y = .int .i64 j ∧ Below w.heap.size w wq) (fun y _ => k + N - (intOf y).toNat)
      case atStart => exact ⟨k, by omega, by omega, rfl, hb1⟩
      case round =>
        clear hb1
        obtain ⟨j, hj0, hj1, rfl, hbq⟩ := hrel
        by_cases hje : j = k + N
        · have HJ := Lib.hid hje
          have hw : IntKind.i64.wrap ((k : Int) + N) = (j : Int) := by rw [IntKind.wrap_i64, HJ.out]; omega
          have hw2 : ((k : Int) + N) = (j : Int) := by omega
          clear hje
          by_cases hlast : j < s.size
          · have hd : decide ((j : Int) < (s.size : Int)) = true := decide_eq_true (by omega)
            have hne := HX.out j HJ.out hlast
            go_wp2
            go_quiet (fail)
            go_wp2
            go_roundw
            case rel => exact ⟨j, by omega, val_int (by have := HJ.out; omega), below_drewN hbq _⟩
            case measure => have := HJ.out; simp [intOf]; omega
          · have hd : decide ((j : Int) < (s.size : Int)) = false := decide_eq_false (by omega)
            go_wp2
            go_quiet (fail)
            go_wp2
            go_roundw
            case rel => exact ⟨j, by have := HJ.out; omega, val_int (by have := HJ.out; omega), below_drewN hbq _⟩
            case measure => have := HJ.out; simp [intOf]; omega
        · have hjl : j < s.size := by omega
          have heq := HQ.out j hj0 (by omega) hjl
          go_wp2
          go_quiet (fail)
          go_wp2
          go_roundw
          case rel => exact ⟨j + 1, by omega, by omega, by go_num, below_drewN hbq _⟩
          case measure => simp [intOf]; omega

end Go.Proofs.Ytmogmmnldggdhaa
