/-
  The walks of Valid, place and appendBits, and of the specification's Valid and turn.
-/
import Derived.Test.YtfbclbolkojjeaaSbM1
import Derived.Test.YtfbclbolkojjeaaSbB1
import Derived.Deep.DeepMust
namespace Go.Proofs.Ytfbclbolkojjeaa
namespace Sb
open Go.RowKit
set_option linter.unusedVariables false
set_option linter.unusedSimpArgs false

theorem okb_long {s : ByteArray} (h : 65536 < s.size) : okB s.data.toList = false := okB_long (by rw [← size_len]; exact h)
theorem okb_bad {s : ByteArray} (j : Nat) (hj : j < s.size) (h : s[j].toNat ≠ 48) (h' : s[j].toNat ≠ 49) : okB s.data.toList = false :=
  okB_bad j (by rw [← size_len]; exact hj) h h'
theorem okb_all {s : ByteArray} (h : s.size ≤ 65536) (h' : ∀ j (hj : j < s.size), s[j].toNat = 48 ∨ s[j].toNat = 49) : okB s.data.toList = true :=
  okB_all (by rw [← size_len]; exact h) fun j hj => h' j (by rw [size_len]; exact hj)

set_option maxHeartbeats 1000000 in
theorem valid_any (s : ByteArray) (w : World) (hs : s.size ≤ 140737488351232) :
    Calls Try.prog 74 #[.string s] w fun e w' => e = .returned (.bool (okB s.data.toList)) ∧ w = w' := by
  have hs' : (s.size : Int) ≤ 140737488351232 := by omega
  by_cases hbig : 65536 < s.size
  · have HB := Lib.hid (okb_long hbig)
    go_enter Try.func74, Try.ntmps74
    go_wp2
    go_returns
    exact ⟨ret_bool HB.out.symm, rfl⟩
  · have HBad := Lib.hid (@okb_bad s)
    have HAll := Lib.hid (okb_all (s := s) (by omega))
    go_enter Try.func74, Try.ntmps74
    go_wp2
    go_loop [9] (fun x => ∃ k : Nat, k ≤ s.size ∧ x = .int .i64 k ∧ Hid (∀ j (hj : j < s.size), j < k → s[j].toNat = 48 ∨ s[j].toNat = 49)) (fun x => s.size - (intOf x).toNat)
    case atStart => exact ⟨0, by omega, rfl, fun j hj h => by omega⟩
    case round =>
      obtain ⟨k, hk, rfl, HC⟩ := hrel
      by_cases he : k = s.size
      · have HT := Lib.hid (HAll.out fun j hj => HC.out j hj (by omega))
        go_wp2
        go_returns
        exact ⟨ret_bool HT.out.symm, rfl⟩
      · have hlt : k < s.size := by omega
        go_wp2
        all_goals first
          | (go_returns
             exact ⟨ret_bool (HBad.out k hlt (by (first | omega | (simp only [beq_iff_eq, beq_eq_false_iff_ne, bne_iff_ne, ne_eq, bne_eq_false_iff_eq] at *; omega))) (by (first | omega | (simp only [beq_iff_eq, beq_eq_false_iff_ne, bne_iff_ne, ne_eq, bne_eq_false_iff_eq] at *; omega)))).symm, rfl⟩)
          | (have hb : s[k].toNat = 48 ∨ s[k].toNat = 49 := by (first | omega | (simp only [beq_iff_eq, beq_eq_false_iff_ne, bne_iff_ne, ne_eq, bne_eq_false_iff_eq] at *; omega))
             go_round
             case rel => exact ⟨k + 1, by omega, by go_num, fun j hj hjk => by
               rcases Nat.lt_or_ge j k with h | h
               · exact HC.out j hj h
               · obtain rfl : j = k := by omega
                 exact hb⟩
             case measure => simp [intOf]; omega)

set_option maxHeartbeats 1000000 in
theorem rvalid_any (s : ByteArray) (w : World) (hs : s.size ≤ 140737488351232) :
    Calls Try.prog 88 #[.string s] w fun e w' => e = .returned (.bool (okB s.data.toList)) ∧ w = w' := by
  have hs' : (s.size : Int) ≤ 140737488351232 := by omega
  by_cases hbig : 65536 < s.size
  · have HB := Lib.hid (okb_long hbig)
    go_enter Try.func88, Try.ntmps88
    go_wp2
    go_returns
    exact ⟨ret_bool HB.out.symm, rfl⟩
  · have HBad := Lib.hid (@okb_bad s)
    have HAll := Lib.hid (okb_all (s := s) (by omega))
    go_enter Try.func88, Try.ntmps88
    go_wp2
    go_loop [3] (fun x => ∃ k : Nat, k ≤ s.size ∧ x = .int .i64 k ∧ Hid (∀ j (hj : j < s.size), j < k → s[j].toNat = 48 ∨ s[j].toNat = 49)) (fun x => s.size - (intOf x).toNat)
    case atStart => exact ⟨0, by omega, rfl, fun j hj h => by omega⟩
    case round =>
      obtain ⟨k, hk, rfl, HC⟩ := hrel
      by_cases he : k = s.size
      · have HT := Lib.hid (HAll.out fun j hj => HC.out j hj (by omega))
        go_wp2
        go_returns
        exact ⟨ret_bool HT.out.symm, rfl⟩
      · have hlt : k < s.size := by omega
        go_wp2
        all_goals first
          | (go_returns
             exact ⟨ret_bool (HBad.out k hlt (by (first | omega | (simp only [beq_iff_eq, beq_eq_false_iff_ne, bne_iff_ne, ne_eq, bne_eq_false_iff_eq] at *; omega))) (by (first | omega | (simp only [beq_iff_eq, beq_eq_false_iff_ne, bne_iff_ne, ne_eq, bne_eq_false_iff_eq] at *; omega)))).symm, rfl⟩)
          | (have hb : s[k].toNat = 48 ∨ s[k].toNat = 49 := by (first | omega | (simp only [beq_iff_eq, beq_eq_false_iff_ne, bne_iff_ne, ne_eq, bne_eq_false_iff_eq] at *; omega))
             go_round
             case rel => exact ⟨k + 1, by omega, by go_num, fun j hj hjk => by
               rcases Nat.lt_or_ge j k with h | h
               · exact HC.out j hj h
               · obtain rfl : j = k := by omega
                 exact hb⟩
             case measure => simp [intOf]; omega)

end Sb
end Go.Proofs.Ytfbclbolkojjeaa
