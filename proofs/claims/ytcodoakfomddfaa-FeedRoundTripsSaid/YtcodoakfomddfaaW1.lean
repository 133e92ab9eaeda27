/-
  The walks of the characters' functions, wordLength, Name (the program's and the specification's).
-/
import Derived.Test.YtcodoakfomddfaaM1
import Derived.Test.YtcodoakfomddfaaRN
import Derived.Deep.DeepMust
import Derived.Deep.RegionHeld3
import Derived.BigQuiet
namespace Go.Proofs.Ytcodoakfomddfaa
open Go Go.RowKit
set_option linter.unusedVariables false
set_option linter.unusedSimpArgs false

theorem isLt_t {c : Nat} (h1 : 97 ≤ c) (h2 : c ≤ 122) : isLt c = true := decide_eq_true ⟨h1, h2⟩
theorem isLt_f {c : Nat} (h : c < 97 ∨ 122 < c) : isLt c = false := decide_eq_false (by omega)
theorem isDg_t {c : Nat} (h1 : 48 ≤ c) (h2 : c ≤ 57) : isDg c = true := decide_eq_true ⟨h1, h2⟩
theorem isDg_f {c : Nat} (h : c < 48 ∨ 57 < c) : isDg c = false := decide_eq_false (by omega)

theorem letter_any (c : Nat) (C : Int) (w : World) (hC : C = (c : Int)) :
    Calls Try.prog 63 #[.int .i32 C] w fun e w' => e = .returned (.bool (isLt c)) ∧ w = w' := by
  subst hC
  by_cases h1 : 97 ≤ c
  · by_cases h2 : c ≤ 122
    · rw [isLt_t h1 h2]
      go_enter Try.func63, Try.ntmps63
      go_wp2
      go_returns
      exact ⟨ret_bool (by first | rfl | (simp; done) | (simp; omega)), rfl⟩
    · rw [isLt_f (by omega)]
      go_enter Try.func63, Try.ntmps63
      go_wp2
      go_returns
      exact ⟨ret_bool (by first | rfl | (simp; done) | (simp; omega)), rfl⟩
  · rw [isLt_f (by omega)]
    go_enter Try.func63, Try.ntmps63
    go_wp2
    go_returns
    exact ⟨ret_bool (by first | rfl | (simp; done) | (simp; omega)), rfl⟩

theorem digit_any (c : Nat) (C : Int) (w : World) (hC : C = (c : Int)) :
    Calls Try.prog 76 #[.int .i32 C] w fun e w' => e = .returned (.bool (isDg c)) ∧ w = w' := by
  subst hC
  by_cases h1 : 48 ≤ c
  · by_cases h2 : c ≤ 57
    · rw [isDg_t h1 h2]
      go_enter Try.func76, Try.ntmps76
      go_wp2
      go_returns
      exact ⟨ret_bool (by first | rfl | (simp; done) | (simp; omega)), rfl⟩
    · rw [isDg_f (by omega)]
      go_enter Try.func76, Try.ntmps76
      go_wp2
      go_returns
      exact ⟨ret_bool (by first | rfl | (simp; done) | (simp; omega)), rfl⟩
  · rw [isDg_f (by omega)]
    go_enter Try.func76, Try.ntmps76
    go_wp2
    go_returns
    exact ⟨ret_bool (by first | rfl | (simp; done) | (simp; omega)), rfl⟩

theorem cons_of {s : ByteArray} (h : 0 < s.size) : s.data.toList = s[0] :: s.data.toList.drop 1 := by
  have := drop_at s 0 h
  rwa [List.drop_zero, Nat.zero_add] at this
theorem toList_empty {s : ByteArray} (h : s.size = 0) : s.toList = [] := by rw [ByteArray.toList_eq]; exact empty_toList h
theorem toList_some {s : ByteArray} (h : 0 < s.size) : s.toList.isEmpty = false := by
  rw [ByteArray.toList_eq, List.isEmpty_eq_false_iff]; intro e
  have : s.data.toList.length = 0 := by rw [e]; rfl
  rw [← size_len] at this
  omega

theorem wl_in {s : ByteArray} {pos : Nat} (h : pos < s.size) (hi : isIn s[pos].toNat = true) (hw : wl s.data.toList = pos + wl (s.data.toList.drop pos)) : wl s.data.toList = pos + 1 + wl (s.data.toList.drop (pos + 1)) := by
  rw [drop_at s pos h] at hw
  simp only [wl, hi, if_true] at hw
  omega
theorem wl_out {s : ByteArray} {pos : Nat} (h : pos < s.size) (hi : isIn s[pos].toNat = false) (hw : wl s.data.toList = pos + wl (s.data.toList.drop pos)) : wl s.data.toList = pos := by
  rw [drop_at s pos h] at hw
  simp only [wl, hi] at hw
  simpa using hw
theorem wl_end {s : ByteArray} {pos : Nat} (h : ¬ pos < s.size) (hp : pos ≤ s.size) (hw : wl s.data.toList = pos + wl (s.data.toList.drop pos)) : wl s.data.toList = s.size := by
  rw [drop_end s pos h] at hw
  simp only [wl] at hw
  omega

theorem isIn_of {c : Nat} (h : isLt c = true ∨ isDg c = true ∨ c = 95) : isIn c = true := by unfold isIn; simp only [Bool.or_eq_true, decide_eq_true_eq]; rcases h with h | h | h <;> simp [h]
theorem isIn_no {c : Nat} (h1 : isLt c = false) (h2 : isDg c = false) (h3 : c ≠ 95) : isIn c = false := by unfold isIn; rw [h1, h2, decide_eq_false h3]; rfl

set_option maxHeartbeats 1000000 in
theorem wordLength_any (s : ByteArray) (w : World) (hs : s.size ≤ 140737488351232) :
    Calls Try.prog 64 #[.string s] w fun e w' => e = .returned (.int .i64 (wl s.data.toList : Nat)) ∧ Below w.heap.size w w' := by
  have hs' : (s.size : Int) ≤ 140737488351232 := by omega
  go_enter Try.func64, Try.ntmps64
  go_wp2
  go_loopw [] (fun wr => ∃ pos : Nat, pos ≤ s.size ∧ wr = w.iter s pos ∧ Hid (wl s.data.toList = pos + wl (s.data.toList.drop pos))) (fun wr => s.size - wr.iterPos w.heap.size)
  case atStart => exact ⟨0, by omega, rfl, Lib.hid (by rw [List.drop_zero, Nat.zero_add])⟩
  case round =>
    obtain ⟨pos, hp, rfl, HW⟩ := hrel
    by_cases hlt : pos < s.size
    · have hnx : ∀ ty, (Instr.next (.pointer (some ⟨w.heap.size, 0, none⟩)) true ty).run Try.prog (w.iter s pos) = _ := fun ty => run_next_any w s pos ty hlt
      by_cases ha : s[pos].toNat < 128
      · rw [decode_ascii s pos hlt ha] at hnx
        have C1 := fun (w : World) (C : Int) (h : C = (s[pos].toNat : Int)) => letter_any s[pos].toNat C w h
        have C2 := fun (w : World) (C : Int) (h : C = (s[pos].toNat : Int)) => digit_any s[pos].toNat C w h
        have HI := Lib.hid (fun h => wl_in hlt h HW.out)
        have HO := Lib.hid (fun h => wl_out hlt h HW.out)
        generalize s[pos].toNat = c at *
        have HY := Lib.hid (@isIn_of c); have HZ := Lib.hid (@isIn_no c)
        generalize isLt c = bl at *
        generalize isDg c = bd at *
        have H1 := Lib.hid C1; have H2 := Lib.hid C2
        clear C1 C2
        cases bl
        · cases bd
          · by_cases h95 : c = 95
            · have HI2 := Lib.hid (HI.out (HY.out (Or.inr (Or.inr h95))))
              have h95' : (c : Int) = 95 := by omega
              go_wp2_with (first
                | (go_at_call 63; go_must (refine (H1.out _ _ (by omega)).mono ?_; rintro e w1 ⟨rfl, rfl⟩))
                | (go_at_call 76; go_must (refine (H2.out _ _ (by omega)).mono ?_; rintro e w2 ⟨rfl, rfl⟩)))
              go_roundw
              case rel => exact ⟨pos + 1, by omega, rfl, HI2⟩
              case measure => simp only [World.iterPos_iter]; omega
            · have HO2 := Lib.hid (HO.out (HZ.out rfl rfl h95))
              have h95' : ((c : Int) == 95) = false := by rw [Bool.eq_false_iff]; simp; omega
              go_wp2_with (first
                | (go_at_call 63; go_must (refine (H1.out _ _ (by omega)).mono ?_; rintro e w1 ⟨rfl, rfl⟩))
                | (go_at_call 76; go_must (refine (H2.out _ _ (by omega)).mono ?_; rintro e w2 ⟨rfl, rfl⟩)))
              go_returns
              exact ⟨ret_int (by rw [HO2.out]), (Below.refl _ w).alloc (Nat.le_refl _) _⟩
          · have HI2 := Lib.hid (HI.out (HY.out (Or.inr (Or.inl rfl))))
            go_wp2_with (first
              | (go_at_call 63; go_must (refine (H1.out _ _ (by omega)).mono ?_; rintro e w1 ⟨rfl, rfl⟩))
              | (go_at_call 76; go_must (refine (H2.out _ _ (by omega)).mono ?_; rintro e w2 ⟨rfl, rfl⟩)))
            go_roundw
            case rel => exact ⟨pos + 1, by omega, rfl, HI2⟩
            case measure => simp only [World.iterPos_iter]; omega
        · have HI2 := Lib.hid (HI.out (HY.out (Or.inl rfl)))
          go_wp2_with (first
            | (go_at_call 63; go_must (refine (H1.out _ _ (by omega)).mono ?_; rintro e w1 ⟨rfl, rfl⟩)))
          go_roundw
          case rel => exact ⟨pos + 1, by omega, rfl, HI2⟩
          case measure => simp only [World.iterPos_iter]; omega
      · obtain ⟨d1, d2, d3, _⟩ := rune_high s pos hlt (by omega)
        have d4 := decode_le s pos
        have HO2 := Lib.hid (wl_out hlt (isIn_big (by omega)) HW.out)
        generalize (Utf8.decode s pos).1 = c at *
        generalize (Utf8.decode s pos).2 = n at *
        have C1 := fun w C h => letter_any c C w h
        have C2 := fun w C h => digit_any c C w h
        rw [isLt_f (by omega)] at C1
        rw [isDg_f (by omega)] at C2
        have H1 := Lib.hid C1; have H2 := Lib.hid C2
        clear C1 C2
        go_wp2_with (first
          | (go_at_call 63; go_must (refine (H1.out _ _ (by omega)).mono ?_; rintro e w1 ⟨rfl, rfl⟩))
          | (go_at_call 76; go_must (refine (H2.out _ _ (by omega)).mono ?_; rintro e w2 ⟨rfl, rfl⟩)))
        go_returns
        exact ⟨ret_int (by rw [HO2.out]), (Below.refl _ w).alloc (Nat.le_refl _) _⟩
    · have hnx : ∀ ty, (Instr.next (.pointer (some ⟨w.heap.size, 0, none⟩)) true ty).run Try.prog (w.iter s pos) = _ := fun ty => run_next_end w s pos ty hlt
      have HE := Lib.hid (wl_end hlt hp HW.out)
      go_wp2
      go_returns
      exact ⟨ret_int (by rw [HE.out]), (Below.refl _ w).alloc (Nat.le_refl _) _⟩

theorem nm_empty {s : ByteArray} (h : s.size = 0) : nm s.data.toList = false := by rw [empty_toList h]; rfl
theorem nm_long {s : ByteArray} (h : 16 < s.size) : nm s.data.toList = false := by
  have hl := size_len s
  rw [cons_of (by omega)]
  simp only [nm]
  rw [← cons_of (by omega), ← hl, decide_eq_false (by omega)]; rfl
theorem nm_head {s : ByteArray} (h : 0 < s.size) (h1 : isLt s[0].toNat = false) : nm s.data.toList = false := by
  rw [cons_of h]
  exact nm_letter _ _ h1
theorem nm_word {s : ByteArray} (h : 0 < s.size) (h2 : s.size ≤ 16) (h1 : isLt s[0].toNat = true) : nm s.data.toList = decide (wl s.data.toList = s.size) := by
  have hl := size_len s
  rw [cons_of h]
  simp only [nm]
  rw [← cons_of h, ← hl, decide_eq_true h2, h1]
  simp

set_option maxHeartbeats 1000000 in
theorem name_any (s : ByteArray) (w : World) (hs : s.size ≤ 9223372036854775807) :
    Calls Try.prog 54 #[.string s] w fun e w' => e = .returned (.bool (nm s.data.toList)) ∧ Below w.heap.size w w' := by
  have hs' : (s.size : Int) ≤ 9223372036854775807 := by omega
  by_cases h0 : s.size = 0
  · have he := toList_empty h0
    rw [nm_empty h0]
    clear h0
    go_enter Try.func54, Try.ntmps54
    go_wp2
    go_returns
    exact ⟨rfl, Below.refl _ _⟩
  have hp : 0 < s.size := by omega
  have he := toList_some hp
  have k0 : s[0].toNat < 256 := s[0].toNat_lt
  by_cases h16 : 16 < s.size
  · rw [nm_long h16]
    have h16' : (16 : Int) < s.size := by omega
    clear h0 h16
    go_enter Try.func54, Try.ntmps54
    go_wp2
    go_returns
    exact ⟨rfl, Below.refl _ _⟩
  have h16' : (s.size : Int) ≤ 16 := by omega
  have C1 := fun (w : World) (C : Int) (h : C = (s[0].toNat : Int)) => letter_any s[0].toNat C w h
  rcases h1 : isLt s[0].toNat with _ | _
  · rw [nm_head hp h1]
    rw [h1] at C1
    have H1 := Lib.hid C1
    clear C1 h1 h0 h16
    go_enter Try.func54, Try.ntmps54
    go_wp2_with (first
      | (go_at_call 63; go_must (refine (H1.out _ _ rfl).mono ?_; rintro e w1 ⟨rfl, rfl⟩)))
    go_returns
    exact ⟨rfl, Below.refl _ _⟩
  · rw [nm_word hp (by omega) h1]
    rw [h1] at C1
    have C2 := fun w => wordLength_any s w (by omega)
    generalize wl s.data.toList = N at *
    have H1 := Lib.hid C1; have H2 := Lib.hid C2
    clear C1 C2 h1 h0 h16
    by_cases hN : N = s.size
    · subst hN
      go_enter Try.func54, Try.ntmps54
      go_wp2_with (first
        | (go_at_call 63; go_must (refine (H1.out _ _ rfl).mono ?_; rintro e w1 ⟨rfl, rfl⟩))
        | (go_at_call 64; go_must (refine (H2.out _).mono ?_; rintro e w2 ⟨rfl, b2⟩)))
      go_returns
      exact ⟨ret_bool (by simp), b2⟩
    · have hN' : ((N : Int) == (s.size : Int)) = false := by rw [Bool.eq_false_iff]; simp; omega
      go_enter Try.func54, Try.ntmps54
      go_wp2_with (first
        | (go_at_call 63; go_must (refine (H1.out _ _ rfl).mono ?_; rintro e w1 ⟨rfl, rfl⟩))
        | (go_at_call 64; go_must (refine (H2.out _).mono ?_; rintro e w2 ⟨rfl, b2⟩)))
      go_returns
      exact ⟨ret_bool (by first | (simp [hN]; done) | (simp; omega)), b2⟩


end Go.Proofs.Ytcodoakfomddfaa
