/-
  The walks of the loops over runes: wordLength, gapLength, quotedLength, magnitude.
-/
import Derived.Test.YtpeiiomimfiebaaDoorW1
import Derived.Test.YtpeiiomimfiebaaDoorRN
namespace Go.Proofs.YtpeiiomimfiebaaDoor
open Go.RowKit
set_option linter.unusedVariables false
set_option linter.unusedSimpArgs false

theorem wl_in {s : ByteArray} {pos : Nat} (h : pos < s.size) (hi : isIn s[pos].toNat = true) (hw : wl s.data.toList = pos + wl (s.data.toList.drop pos)) : wl s.data.toList = pos + 1 + wl (s.data.toList.drop (pos + 1)) := by
  rw [drop_at s pos h] at hw
  simp only [wl, hi, if_true] at hw
  omega
theorem wl_out {s : ByteArray} {pos : Nat} (h : pos < s.size) (hi : isIn s[pos].toNat = false) (hw : wl s.data.toList = pos + wl (s.data.toList.drop pos)) : wl s.data.toList = pos := by
  rw [drop_at s pos h] at hw
  simp only [wl, hi] at hw
  simpa using hw
theorem wl_end {s : ByteArray} {pos : Nat} (h : ¬ pos < s.size) (hp : pos ≤ s.size) (hw : wl s.data.toList = pos + wl (s.data.toList.drop pos)) : wl s.data.toList = s.size := by
  rw [drop_end s pos h] at hw
  simp only [wl] at hw
  omega

theorem isIn_of {c : Nat} (h : isLt c = true ∨ isDg c = true ∨ c = 95) : isIn c = true := by unfold isIn; simp only [Bool.or_eq_true, decide_eq_true_eq]; rcases h with h | h | h <;> simp [h]
theorem isIn_no {c : Nat} (h1 : isLt c = false) (h2 : isDg c = false) (h3 : c ≠ 95) : isIn c = false := by unfold isIn; rw [h1, h2, decide_eq_false h3]; rfl

set_option maxHeartbeats 1000000 in
theorem wordLength_any (s : ByteArray) (w : World) (hs : s.size ≤ 140737488351232) :
    Calls Tryd.prog 33 #[.string s] w fun e w' => e = .returned (.int .i64 (wl s.data.toList : Nat)) ∧ Below w.heap.size w w' := by
  have hs' : (s.size : Int) ≤ 140737488351232 := by omega
  go_enter Tryd.func33, Tryd.ntmps33
  go_wp2
  go_loopw [] (fun wr => ∃ pos : Nat, pos ≤ s.size ∧ wr = w.iter s pos ∧ Hid (wl s.data.toList = pos + wl (s.data.toList.drop pos))) (fun wr => s.size - wr.iterPos w.heap.size)
  case atStart => exact ⟨0, by omega, rfl, Lib.hid (by rw [List.drop_zero, Nat.zero_add])⟩
  case round =>
    obtain ⟨pos, hp, rfl, HW⟩ := hrel
    by_cases hlt : pos < s.size
    · have hnx : ∀ ty, (Instr.next (.pointer (some ⟨w.heap.size, 0, none⟩)) true ty).run Tryd.prog (w.iter s pos) = _ := fun ty => run_next_any w s pos ty hlt
      by_cases ha : s[pos].toNat < 128
      · rw [decode_ascii s pos hlt ha] at hnx
        have C1 := fun (w : World) (C : Int) (h : C = (s[pos].toNat : Int)) => letter_any s[pos].toNat C w h
        have C2 := fun (w : World) (C : Int) (h : C = (s[pos].toNat : Int)) => digit_any s[pos].toNat C w h
        have HI := Lib.hid (fun h => wl_in hlt h HW.out)
        have HO := Lib.hid (fun h => wl_out hlt h HW.out)
        generalize s[pos].toNat = c at *
        have HY := Lib.hid (@isIn_of c); have HZ := Lib.hid (@isIn_no c)
        generalize isLt c = bl at *
        generalize isDg c = bd at *
        have H1 := Lib.hid C1; have H2 := Lib.hid C2
        clear C1 C2
        cases bl
        · cases bd
          · by_cases h95 : c = 95
            · have HI2 := Lib.hid (HI.out (HY.out (Or.inr (Or.inr h95))))
              have h95' : (c : Int) = 95 := by omega
              go_wp2_with (first
                | (go_at_call 32; go_must (refine (H1.out _ _ (by omega)).mono ?_; rintro e w1 ⟨rfl, rfl⟩))
                | (go_at_call 38; go_must (refine (H2.out _ _ (by omega)).mono ?_; rintro e w2 ⟨rfl, rfl⟩)))
              go_roundw
              case rel => exact ⟨pos + 1, by omega, rfl, HI2⟩
              case measure => simp only [World.iterPos_iter]; omega
            · have HO2 := Lib.hid (HO.out (HZ.out rfl rfl h95))
              have h95' : ((c : Int) == 95) = false := by rw [Bool.eq_false_iff]; simp; omega
              go_wp2_with (first
                | (go_at_call 32; go_must (refine (H1.out _ _ (by omega)).mono ?_; rintro e w1 ⟨rfl, rfl⟩))
                | (go_at_call 38; go_must (refine (H2.out _ _ (by omega)).mono ?_; rintro e w2 ⟨rfl, rfl⟩)))
              go_returns
              exact ⟨ret_int (by rw [HO2.out]), (Below.refl _ w).alloc (Nat.le_refl _) _⟩
          · have HI2 := Lib.hid (HI.out (HY.out (Or.inr (Or.inl rfl))))
            go_wp2_with (first
              | (go_at_call 32; go_must (refine (H1.out _ _ (by omega)).mono ?_; rintro e w1 ⟨rfl, rfl⟩))
              | (go_at_call 38; go_must (refine (H2.out _ _ (by omega)).mono ?_; rintro e w2 ⟨rfl, rfl⟩)))
            go_roundw
            case rel => exact ⟨pos + 1, by omega, rfl, HI2⟩
            case measure => simp only [World.iterPos_iter]; omega
        · have HI2 := Lib.hid (HI.out (HY.out (Or.inl rfl)))
          go_wp2_with (first
            | (go_at_call 32; go_must (refine (H1.out _ _ (by omega)).mono ?_; rintro e w1 ⟨rfl, rfl⟩)))
          go_roundw
          case rel => exact ⟨pos + 1, by omega, rfl, HI2⟩
          case measure => simp only [World.iterPos_iter]; omega
      · obtain ⟨d1, d2, d3, _⟩ := rune_high s pos hlt (by omega)
        have d4 := decode_le s pos
        have HO2 := Lib.hid (wl_out hlt (isIn_big (by omega)) HW.out)
        generalize (Utf8.decode s pos).1 = c at *
        generalize (Utf8.decode s pos).2 = n at *
        have C1 := fun w C h => letter_any c C w h
        have C2 := fun w C h => digit_any c C w h
        rw [isLt_f (by omega)] at C1
        rw [isDg_f (by omega)] at C2
        have H1 := Lib.hid C1; have H2 := Lib.hid C2
        clear C1 C2
        go_wp2_with (first
          | (go_at_call 32; go_must (refine (H1.out _ _ (by omega)).mono ?_; rintro e w1 ⟨rfl, rfl⟩))
          | (go_at_call 38; go_must (refine (H2.out _ _ (by omega)).mono ?_; rintro e w2 ⟨rfl, rfl⟩)))
        go_returns
        exact ⟨ret_int (by rw [HO2.out]), (Below.refl _ w).alloc (Nat.le_refl _) _⟩
    · have hnx : ∀ ty, (Instr.next (.pointer (some ⟨w.heap.size, 0, none⟩)) true ty).run Tryd.prog (w.iter s pos) = _ := fun ty => run_next_end w s pos ty hlt
      have HE := Lib.hid (wl_end hlt hp HW.out)
      go_wp2
      go_returns
      exact ⟨ret_int (by rw [HE.out]), (Below.refl _ w).alloc (Nat.le_refl _) _⟩

end Go.Proofs.YtpeiiomimfiebaaDoor
