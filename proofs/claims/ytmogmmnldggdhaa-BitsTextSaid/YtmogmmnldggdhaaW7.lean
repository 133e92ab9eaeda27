/-
  The walks of the specification's Invert, Reverse and Ones, and of Ones and Run, the program's and the specification's.
-/
import Derived.Test.YtmogmmnldggdhaaW6
namespace Go.Proofs.Ytmogmmnldggdhaa
open Go.RowKit
set_option linter.unusedVariables false
set_option linter.unusedSimpArgs false

set_option maxRecDepth 20000 in
set_option maxHeartbeats 1000000 in
theorem rinvert_any (s : ByteArray) (w : World) (hs : s.size ≤ 140737488351232) :
    Calls Try.prog 21 #[.string s] w fun e w' => e = .returned (.string ⟨(ivT s.data.toList).toArray⟩) ∧ Below w.heap.size w w' := by
  have hlen := size_len s
  have hs' : (s.size : Int) ≤ 140737488351232 := by omega
  have HV := Lib.hid (fun w => rvalid_any s w hs)
  rcases hok : okB s.data.toList with _ | _
  · rw [hok] at HV
    rw [ivT_bad hok]
    clear hok hlen
    go_enter Try.func21, Try.ntmps21
    go_wp2_with (go_at_call 15; go_must (refine (HV.out _).mono ?_; rintro e w1 ⟨rfl, rfl⟩))
    go_returns
    exact ⟨rfl, Below.refl _ _⟩
  · rw [hok] at HV
    rw [ivT_ok hok]
    have hn0 : (s.size : Int) ≤ 65536 := by have := okB_len hok; omega
    have HL := Lib.hid hlen
    have HB : Hid (∀ k (hk : k < s.size), s[k].toNat = 48 ∨ s[k].toNat = 49) := fun k hk => okB_mem hok (List.getElem_mem (l := s.data.toList) (by rw [← HL.out]; exact hk))
    clear hok hlen
    go_enter Try.func21, Try.ntmps21
    go_wp2_with (go_at_call 15; go_must (refine (HV.out _).mono ?_; rintro e w1 ⟨rfl, rfl⟩))
    go_loopw [4, 3] (fun x v wr => ∃ k : Nat, k ≤ s.size ∧ x = .int .i64 k ∧ Hid (Row wr w.heap.size v (iv (s.data.toList.take k))) ∧ Below w.heap.size w wr) (fun x _ _ => s.size - (intOf x).toNat)
    case atStart => exact ⟨0, by omega, rfl, by rw [List.take_zero]; exact Row.empty w _ (Nat.le_refl _), ba w _⟩
    case round =>
      obtain ⟨k, hk, rfl, HF, hb⟩ := hrel
      have hsz := hb.size
      obtain ⟨A', N', c', rfl, -⟩ := HF.out.form
      by_cases he : k = s.size
      · subst he
        have kc := HF.out.conv
        rw [List.take_of_length_le (by rw [← HL.out]; exact Nat.le_refl _)] at kc
        go_wp2
        go_returns
        exact ⟨rfl, hb⟩
      · have hlt : k < s.size := by omega
        have hd := HB.out k hlt
        have HY : Hid ((iv (s.data.toList.take k)).length + 1 ≤ 140737488355328) := by
          rw [iv_length, List.length_take_of_le (by rw [← HL.out]; omega)]; show _ ≤ _; omega
        have HI := Lib.hid (iv_one hd).1
        go_wp2_with (at_builtin; go_must (refine wpList_append_new rfl (.tmp 15) (.tmp 20) rfl rfl rfl HF.out hsz (97 - s[k]) (by have := HI.out; omega) HY.out ?_; intro v1 w1 ho1 hb1))
        go_roundw
        case rel => exact ⟨k + 1, by omega, by go_num, by rw [iv_take s k hlt]; exact ho1, hb.trans hb1⟩
        case measure => simp [intOf]; omega

set_option maxHeartbeats 1000000 in
theorem rreverse_any (s : ByteArray) (w : World) (hs : s.size ≤ 140737488351232) :
    Calls Try.prog 23 #[.string s] w fun e w' => e = .returned (.string ⟨(reT s.data.toList).toArray⟩) ∧ Below w.heap.size w w' := by
  have HV := Lib.hid (fun w => rvalid_any s w hs)
  have HT := Lib.hid (fun w => turn_any s w hs)
  rcases hok : okB s.data.toList with _ | _
  · rw [hok] at HV
    rw [reT_bad hok]
    clear hok
    go_enter Try.func23, Try.ntmps23
    go_wp2_with (go_at_call 15; go_must (refine (HV.out _).mono ?_; rintro e w1 ⟨rfl, rfl⟩))
    go_returns
    exact ⟨rfl, Below.refl _ _⟩
  · rw [hok] at HV
    rw [reT_ok hok]
    clear hok
    go_enter Try.func23, Try.ntmps23
    go_wp2_with (first
      | (go_at_call 15; go_must (refine (HV.out _).mono ?_; rintro e w1 ⟨rfl, rfl⟩))
      | (go_at_call 29; go_must (refine (HT.out _).mono ?_; rintro e w1 ⟨rfl, hb1⟩)))
    go_returns
    exact ⟨rfl, hb1⟩

theorem on1_take (s : ByteArray) (k : Nat) (h : k < s.size) : on1 (s.data.toList.take (k + 1)) = on1 (s.data.toList.take k) + (s[k].toNat - 48) := by
  rw [take_snoc s k h, on1_snoc]
theorem on1_take_le (s : ByteArray) (hok : okB s.data.toList = true) (k : Nat) : on1 (s.data.toList.take k) ≤ k := by
  refine Nat.le_trans (on1_le _ fun b hb => okB_mem hok (List.mem_of_mem_take hb)) ?_
  rw [List.length_take]; omega

set_option maxHeartbeats 1000000 in
theorem ones_any (s : ByteArray) (w : World) (hs : s.size ≤ 140737488351232) :
    Calls Try.prog 24 #[.string s] w fun e w' => e = .returned (.int .i64 (onV s.data.toList : Nat)) ∧ w = w' := by
  have hlen := size_len s
  have hs' : (s.size : Int) ≤ 140737488351232 := by omega
  have HV := Lib.hid (fun w => valid_any s w hs)
  rcases hok : okB s.data.toList with _ | _
  · rw [hok] at HV
    rw [onV_bad hok]
    clear hok hlen
    go_enter Try.func24, Try.ntmps24
    go_wp2_with (go_at_call 14; go_must (refine (HV.out _).mono ?_; rintro e w1 ⟨rfl, rfl⟩))
    go_returns
    exact ⟨rfl, rfl⟩
  · rw [hok] at HV
    rw [onV_ok hok]
    have hn0 : (s.size : Int) ≤ 65536 := by have := okB_len hok; omega
    have HL := Lib.hid hlen
    have HB : Hid (∀ k (hk : k < s.size), s[k].toNat = 48 ∨ s[k].toNat = 49) := fun k hk => okB_mem hok (List.getElem_mem (l := s.data.toList) (by rw [← HL.out]; exact hk))
    have HO := Lib.hid (on1_take_le s hok)
    clear hok hlen
    go_enter Try.func24, Try.ntmps24
    go_wp2_with (go_at_call 14; go_must (refine (HV.out _).mono ?_; rintro e w1 ⟨rfl, rfl⟩))
    go_loop [10, 3] (fun x y => ∃ k N : Nat, k ≤ s.size ∧ x = .int .i64 k ∧ y = .int .i64 N ∧ Hid (N = on1 (s.data.toList.take k))) (fun x _ => s.size - (intOf x).toNat)
    case atStart => exact ⟨0, 0, by omega, rfl, rfl, by rw [List.take_zero]; rfl⟩
    case round =>
      obtain ⟨k, N, hk, rfl, rfl, HN⟩ := hrel
      by_cases he : k = s.size
      · subst he
        go_wp2
        go_returns
        exact ⟨ret_int (by rw [HN.out, List.take_of_length_le (by rw [← HL.out]; exact Nat.le_refl _)]), rfl⟩
      · have hlt : k < s.size := by omega
        have hd := HB.out k hlt
        have hN : N ≤ k := by rw [HN.out]; exact HO.out k
        go_wp2
        go_round
        case rel => exact ⟨k + 1, N + (s[k].toNat - 48), by omega, by go_num, val_int (by omega), (show _ = _ by rw [on1_take s k hlt, HN.out])⟩
        case measure => simp [intOf]; omega

set_option maxHeartbeats 1000000 in
theorem rones_any (s : ByteArray) (w : World) (hs : s.size ≤ 140737488351232) :
    Calls Try.prog 25 #[.string s] w fun e w' => e = .returned (.int .i64 (onV s.data.toList : Nat)) ∧ w = w' := by
  have hlen := size_len s
  have hs' : (s.size : Int) ≤ 140737488351232 := by omega
  have HV := Lib.hid (fun w => rvalid_any s w hs)
  rcases hok : okB s.data.toList with _ | _
  · rw [hok] at HV
    rw [onV_bad hok]
    clear hok hlen
    go_enter Try.func25, Try.ntmps25
    go_wp2_with (go_at_call 15; go_must (refine (HV.out _).mono ?_; rintro e w1 ⟨rfl, rfl⟩))
    go_returns
    exact ⟨rfl, rfl⟩
  · rw [hok] at HV
    rw [onV_ok hok]
    have hn0 : (s.size : Int) ≤ 65536 := by have := okB_len hok; omega
    have HL := Lib.hid hlen
    have HB : Hid (∀ k (hk : k < s.size), s[k].toNat = 48 ∨ s[k].toNat = 49) := fun k hk => okB_mem hok (List.getElem_mem (l := s.data.toList) (by rw [← HL.out]; exact hk))
    have HO := Lib.hid (on1_take_le s hok)
    clear hok hlen
    go_enter Try.func25, Try.ntmps25
    go_wp2_with (go_at_call 15; go_must (refine (HV.out _).mono ?_; rintro e w1 ⟨rfl, rfl⟩))
    go_loop [4, 3] (fun x y => ∃ k N : Nat, k ≤ s.size ∧ x = .int .i64 k ∧ y = .int .i64 N ∧ Hid (N = on1 (s.data.toList.take k))) (fun x _ => s.size - (intOf x).toNat)
    case atStart => exact ⟨0, 0, by omega, rfl, rfl, by rw [List.take_zero]; rfl⟩
    case round =>
      obtain ⟨k, N, hk, rfl, rfl, HN⟩ := hrel
      by_cases he : k = s.size
      · subst he
        go_wp2
        go_returns
        exact ⟨ret_int (by rw [HN.out, List.take_of_length_le (by rw [← HL.out]; exact Nat.le_refl _)]), rfl⟩
      · have hlt : k < s.size := by omega
        have hd := HB.out k hlt
        have hN : N ≤ k := by rw [HN.out]; exact HO.out k
        rcases hd with hd | hd
        · go_wp2
          go_round
          case rel => exact ⟨k + 1, N, by omega, by go_num, rfl, (show _ = _ by rw [on1_take s k hlt, HN.out, hd]; omega)⟩
          case measure => simp [intOf]; omega
        · go_wp2
          go_round
          case rel => exact ⟨k + 1, N + 1, by omega, by go_num, val_int (by omega), (show _ = _ by rw [on1_take s k hlt, HN.out, hd])⟩
          case measure => simp [intOf]; omega

end Go.Proofs.Ytmogmmnldggdhaa
