/-
  The walks of the loops over runes: gapLength, quotedLength.
-/
import Derived.Test.YtpeiiomimfiebaaDoorW2
namespace Go.Proofs.YtpeiiomimfiebaaDoor
open Go.RowKit
set_option linter.unusedVariables false
set_option linter.unusedSimpArgs false

theorem gp_10 {s : ByteArray} {pos G : Nat} {cm : Bool} (h : pos < s.size) (hc : s[pos].toNat = 10) (hw : G = pos + gp cm (s.data.toList.drop pos)) : G = pos + 1 + gp false (s.data.toList.drop (pos + 1)) := by
  rw [drop_at s pos h] at hw
  simp only [gp] at hw; rw [if_pos hc] at hw; omega
theorem gp_35 {s : ByteArray} {pos G : Nat} {cm : Bool} (h : pos < s.size) (hc : s[pos].toNat = 35) (hw : G = pos + gp cm (s.data.toList.drop pos)) : G = pos + 1 + gp true (s.data.toList.drop (pos + 1)) := by
  rw [drop_at s pos h] at hw
  simp only [gp] at hw; rw [if_neg (by omega), if_pos hc] at hw; omega
theorem gp_ret {s : ByteArray} {pos G : Nat} (h : pos < s.size) (hc : noGap s[pos].toNat) (hw : G = pos + gp false (s.data.toList.drop pos)) : G = pos := by
  rw [drop_at s pos h, gp_no _ _ hc] at hw; omega
theorem gp_skip {s : ByteArray} {pos G : Nat} {cm : Bool} (h : pos < s.size) (h1 : s[pos].toNat ≠ 10) (h2 : s[pos].toNat ≠ 35) (h3 : cm = true ∨ s[pos].toNat = 32 ∨ s[pos].toNat = 9) (hw : G = pos + gp cm (s.data.toList.drop pos)) : G = pos + 1 + gp cm (s.data.toList.drop (pos + 1)) := by
  rw [drop_at s pos h] at hw
  simp only [gp] at hw; rw [if_neg h1, if_neg h2, if_neg (by rintro ⟨a, b, c⟩; subst a; rcases h3 with h3 | h3 | h3 <;> simp_all)] at hw; omega
theorem gp_rune {s : ByteArray} {pos G n : Nat} (h : pos + n ≤ s.size) (hh : ∀ x ∈ (s.data.toList.drop pos).take n, 128 ≤ x.toNat) (hw : G = pos + gp true (s.data.toList.drop pos)) : G = pos + n + gp true (s.data.toList.drop (pos + n)) := by
  rw [gp_high n _ (by simp; omega) hh, List.drop_drop] at hw
  omega
theorem gp_end {s : ByteArray} {pos G : Nat} {cm : Bool} (h : ¬ pos < s.size) (hp : pos ≤ s.size) (hw : G = pos + gp cm (s.data.toList.drop pos)) : G = s.size := by
  rw [drop_end s pos h] at hw
  simp only [gp] at hw
  omega

set_option maxHeartbeats 1000000 in
theorem gapLength_any (s : ByteArray) (w : World) (hs : s.size ≤ 140737488351232) :
    Calls Tryd.prog 19 #[.string s] w fun e w' => e = .returned (.int .i64 (gp false s.data.toList : Nat)) ∧ Below w.heap.size w w' := by
  have hs' : (s.size : Int) ≤ 140737488351232 := by omega
  generalize hG : gp false s.data.toList = G
  go_enter Tryd.func19, Tryd.ntmps19
  go_wp2
  go_loopw [3] (fun x wr => ∃ (pos : Nat) (cm : Bool), pos ≤ s.size ∧ x = .bool cm ∧ wr = w.iter s pos ∧ Hid (G = pos + gp cm (s.data.toList.drop pos))) (fun _ wr => s.size - wr.iterPos w.heap.size)
  case atStart => exact ⟨0, false, by omega, rfl, rfl, Lib.hid (by rw [List.drop_zero, Nat.zero_add, hG])⟩
  case round =>
    clear hG
    obtain ⟨pos, cm, hp, rfl, rfl, HW⟩ := hrel
    by_cases hlt : pos < s.size
    · have hnx : ∀ ty, (Instr.next (.pointer (some ⟨w.heap.size, 0, none⟩)) true ty).run Tryd.prog (w.iter s pos) = _ := fun ty => run_next_any w s pos ty hlt
      by_cases ha : s[pos].toNat < 128
      · rw [decode_ascii s pos hlt ha] at hnx
        have HA := Lib.hid (fun h => gp_10 hlt h HW.out)
        have HB := Lib.hid (fun h => gp_35 hlt h HW.out)
        have HC := Lib.hid (fun h1 h2 h3 => gp_skip hlt h1 h2 h3 HW.out)
        have HD := Lib.hid (show cm = false → noGap s[pos].toNat → G = pos from fun e h => by subst e; exact gp_ret hlt h HW.out)
        unfold noGap at HD
        generalize s[pos].toNat = c at *
        by_cases c10 : c = 10
        · have HI := Lib.hid (HA.out c10)
          have k1 : (c : Int) = 10 := by omega
          clear HA HB HC HD c10
          go_wp2
          go_roundw
          case rel => exact ⟨pos + 1, false, by omega, rfl, rfl, HI⟩
          case measure => simp only [World.iterPos_iter]; omega
        have k1 : ((c : Int) == 10) = false := by rw [Bool.eq_false_iff]; simp; omega
        by_cases c35 : c = 35
        · have HI := Lib.hid (HB.out c35)
          have k2 : (c : Int) = 35 := by omega
          clear HA HB HC HD c10 c35
          go_wp2
          go_roundw
          case rel => exact ⟨pos + 1, true, by omega, rfl, rfl, HI⟩
          case measure => simp only [World.iterPos_iter]; omega
        have k2 : ((c : Int) == 35) = false := by rw [Bool.eq_false_iff]; simp; omega
        cases cm
        · by_cases c32 : c = 32
          · have HI := Lib.hid (HC.out c10 c35 (Or.inr (Or.inl c32)))
            have k3 : (c : Int) = 32 := by omega
            clear HA HB HC HD c10 c35 c32
            go_wp2
            go_roundw
            case rel => exact ⟨pos + 1, false, by omega, rfl, rfl, HI⟩
            case measure => simp only [World.iterPos_iter]; omega
          have k3 : ((c : Int) != 32) = true := by rw [bne_iff_ne]; omega
          by_cases c9 : c = 9
          · have HI := Lib.hid (HC.out c10 c35 (Or.inr (Or.inr c9)))
            have k4 : (c : Int) = 9 := by omega
            clear HA HB HC HD c10 c35 c32 c9
            go_wp2
            go_roundw
            case rel => exact ⟨pos + 1, false, by omega, rfl, rfl, HI⟩
            case measure => simp only [World.iterPos_iter]; omega
          have k4 : ((c : Int) != 9) = true := by rw [bne_iff_ne]; omega
          have HI := Lib.hid (HD.out rfl ⟨c10, c35, c32, c9⟩)
          clear HA HB HC HD c10 c35 c32 c9
          go_wp2
          go_returns
          exact ⟨ret_int (by rw [HI.out]), (Below.refl _ w).alloc (Nat.le_refl _) _⟩
        · have HI := Lib.hid (HC.out c10 c35 (Or.inl rfl))
          clear HA HB HC HD c10 c35
          go_wp2
          go_roundw
          case rel => exact ⟨pos + 1, true, by omega, rfl, rfl, HI⟩
          case measure => simp only [World.iterPos_iter]; omega
      · obtain ⟨d1, d2, d3, d5⟩ := rune_high s pos hlt (by omega)
        have d4 := decode_le s pos
        cases cm
        · have HI := Lib.hid (gp_ret hlt (by unfold noGap; omega) HW.out)
          generalize (Utf8.decode s pos).1 = c at *
          generalize (Utf8.decode s pos).2 = n at *
          have k1 : ((c : Int) == 10) = false := by rw [Bool.eq_false_iff]; simp; omega
          have k2 : ((c : Int) == 35) = false := by rw [Bool.eq_false_iff]; simp; omega
          have k3 : ((c : Int) != 32) = true := by rw [bne_iff_ne]; omega
          have k4 : ((c : Int) != 9) = true := by rw [bne_iff_ne]; omega
          clear d5
          go_wp2
          go_returns
          exact ⟨ret_int (by rw [HI.out]), (Below.refl _ w).alloc (Nat.le_refl _) _⟩
        · have HI := Lib.hid (gp_rune d3 d5 HW.out)
          generalize (Utf8.decode s pos).1 = c at *
          generalize (Utf8.decode s pos).2 = n at *
          have k1 : ((c : Int) == 10) = false := by rw [Bool.eq_false_iff]; simp; omega
          have k2 : ((c : Int) == 35) = false := by rw [Bool.eq_false_iff]; simp; omega
          clear d5
          go_wp2
          go_roundw
          case rel => exact ⟨pos + n, true, d3, rfl, rfl, HI⟩
          case measure => simp only [World.iterPos_iter]; omega
    · have hnx : ∀ ty, (Instr.next (.pointer (some ⟨w.heap.size, 0, none⟩)) true ty).run Tryd.prog (w.iter s pos) = _ := fun ty => run_next_end w s pos ty hlt
      have HE := Lib.hid (gp_end hlt hp HW.out)
      go_wp2
      go_returns
      exact ⟨ret_int (by rw [HE.out]), (Below.refl _ w).alloc (Nat.le_refl _) _⟩

/-! quotedLength. -/
theorem ql_esc {s : ByteArray} {pos G : Nat} (h : pos < s.size) (hw : G = pos + ql true (s.data.toList.drop pos)) : G = pos + 1 + ql false (s.data.toList.drop (pos + 1)) := by
  rw [drop_at s pos h] at hw
  simp only [ql] at hw; omega
theorem ql_92 {s : ByteArray} {pos G : Nat} (h : pos < s.size) (hc : s[pos].toNat = 92) (hw : G = pos + ql false (s.data.toList.drop pos)) : G = pos + 1 + ql true (s.data.toList.drop (pos + 1)) := by
  rw [drop_at s pos h] at hw
  simp only [ql] at hw; rw [if_pos hc] at hw; omega
theorem ql_34 {s : ByteArray} {pos G : Nat} (h : pos < s.size) (hc : s[pos].toNat = 34) (hw : G = pos + ql false (s.data.toList.drop pos)) : G = pos + 1 := by
  rw [drop_at s pos h] at hw
  simp only [ql] at hw; rw [if_neg (by omega), if_pos hc] at hw; omega
theorem ql_skip {s : ByteArray} {pos G : Nat} (h : pos < s.size) (h1 : s[pos].toNat ≠ 92) (h2 : s[pos].toNat ≠ 34) (hw : G = pos + ql false (s.data.toList.drop pos)) : G = pos + 1 + ql false (s.data.toList.drop (pos + 1)) := by
  rw [drop_at s pos h] at hw
  simp only [ql] at hw; rw [if_neg h1, if_neg h2] at hw; omega
theorem ql_rune {s : ByteArray} {pos G n : Nat} {e : Bool} (hn : 1 ≤ n) (h : pos + n ≤ s.size) (hh : ∀ x ∈ (s.data.toList.drop pos).take n, 128 ≤ x.toNat) (hw : G = pos + ql e (s.data.toList.drop pos)) : G = pos + n + ql false (s.data.toList.drop (pos + n)) := by
  rw [ql_highE e n _ hn (by simp; omega) hh, List.drop_drop] at hw
  omega
theorem ql_end {s : ByteArray} {pos G : Nat} {e : Bool} (h : ¬ pos < s.size) (hp : pos ≤ s.size) (hw : G = pos + ql e (s.data.toList.drop pos)) : G = s.size := by
  rw [drop_end s pos h] at hw
  have : ql e [] = 0 := by cases e <;> rfl
  omega

set_option maxHeartbeats 1000000 in
theorem quotedLength_any (s : ByteArray) (w : World) (hs : s.size ≤ 140737488351232) (h0 : 0 < s.size) (h34 : s[0].toNat = 34) :
    Calls Tryd.prog 37 #[.string s] w fun e w' => e = .returned (.int .i64 ((1 + ql false (s.data.toList.drop 1) : Nat) : Int)) ∧ Below w.heap.size w w' := by
  have hs' : (s.size : Int) ≤ 140737488351232 := by omega
  generalize hG : 1 + ql false (s.data.toList.drop 1) = G
  have HG := Lib.hid hG
  have H34 := Lib.hid h34
  clear hG h34
  go_enter Tryd.func37, Tryd.ntmps37
  go_wp2
  go_loopw [3] (fun x wr => ∃ (pos : Nat) (e : Bool), pos ≤ s.size ∧ x = .bool e ∧ wr = w.iter s pos ∧ Hid (pos = 0 → e = false) ∧ Hid (0 < pos → G = pos + ql e (s.data.toList.drop pos))) (fun _ wr => s.size - wr.iterPos w.heap.size)
  case atStart => exact ⟨0, false, by omega, rfl, rfl, Lib.hid (fun _ => rfl), Lib.hid (fun h => by omega)⟩
  case round =>
    obtain ⟨pos, e, hp, rfl, rfl, HZ, HW⟩ := hrel
    by_cases hz : pos = 0
    · obtain rfl := HZ.out hz
      have hnx : ∀ ty, (Instr.next (.pointer (some ⟨w.heap.size, 0, none⟩)) true ty).run Tryd.prog (w.iter s 0) = _ := fun ty => run_next_any w s 0 ty h0
      rw [decode_ascii s 0 h0 (by have := H34.out; omega), H34.out] at hnx
      subst hz
      go_wp2
      go_roundw
      case rel => exact ⟨0 + 1, false, by omega, rfl, rfl, Lib.hid (fun h => rfl), Lib.hid (fun _ => by rw [← HG.out])⟩
      case measure => simp only [World.iterPos_iter]; omega
    by_cases hlt : pos < s.size
    · have hnx : ∀ ty, (Instr.next (.pointer (some ⟨w.heap.size, 0, none⟩)) true ty).run Tryd.prog (w.iter s pos) = _ := fun ty => run_next_any w s pos ty hlt
      have hpos : (0 : Int) < (pos : Int) := by omega
      by_cases ha : s[pos].toNat < 128
      · rw [decode_ascii s pos hlt ha] at hnx
        cases e
        · have HA := Lib.hid (fun h => ql_92 hlt h (HW.out (by omega)))
          have HB := Lib.hid (fun h => ql_34 hlt h (HW.out (by omega)))
          have HC := Lib.hid (fun h1 h2 => ql_skip hlt h1 h2 (HW.out (by omega)))
          generalize s[pos].toNat = c at *
          by_cases c92 : c = 92
          · have HI := Lib.hid (HA.out c92)
            have k1 : (c : Int) = 92 := by omega
            clear HA HB HC c92
            go_wp2
            go_roundw
            case rel => exact ⟨pos + 1, true, by omega, rfl, rfl, Lib.hid (fun h => by omega), Lib.hid (fun _ => HI.out)⟩
            case measure => simp only [World.iterPos_iter]; omega
          have k1 : ((c : Int) == 92) = false := by rw [Bool.eq_false_iff]; simp; omega
          by_cases c34 : c = 34
          · have HI := Lib.hid (HB.out c34)
            have k2 : (c : Int) = 34 := by omega
            clear HA HB HC c92 c34
            go_wp2
            go_returns
            exact ⟨ret_int (by have := HI.out; omega), (Below.refl _ w).alloc (Nat.le_refl _) _⟩
          have k2 : ((c : Int) == 34) = false := by rw [Bool.eq_false_iff]; simp; omega
          have HI := Lib.hid (HC.out c92 c34)
          clear HA HB HC c92 c34
          go_wp2
          go_roundw
          case rel => exact ⟨pos + 1, false, by omega, rfl, rfl, Lib.hid (fun h => by omega), Lib.hid (fun _ => HI.out)⟩
          case measure => simp only [World.iterPos_iter]; omega
        · have HI := Lib.hid (ql_esc hlt (HW.out (by omega)))
          go_wp2
          go_roundw
          case rel => exact ⟨pos + 1, false, by omega, rfl, rfl, Lib.hid (fun h => by omega), Lib.hid (fun _ => HI.out)⟩
          case measure => simp only [World.iterPos_iter]; omega
      · obtain ⟨d1, d2, d3, d5⟩ := rune_high s pos hlt (by omega)
        have d4 := decode_le s pos
        have HI := Lib.hid (ql_rune d2 d3 d5 (HW.out (by omega)))
        generalize (Utf8.decode s pos).1 = c at *
        generalize (Utf8.decode s pos).2 = n at *
        have k1 : ((c : Int) == 92) = false := by rw [Bool.eq_false_iff]; simp; omega
        have k2 : ((c : Int) == 34) = false := by rw [Bool.eq_false_iff]; simp; omega
        clear d5
        cases e
        all_goals
          go_wp2
          go_roundw
          case rel => exact ⟨pos + n, false, d3, rfl, rfl, Lib.hid (fun h => by omega), Lib.hid (fun _ => HI.out)⟩
          case measure => simp only [World.iterPos_iter]; omega
    · have hnx : ∀ ty, (Instr.next (.pointer (some ⟨w.heap.size, 0, none⟩)) true ty).run Tryd.prog (w.iter s pos) = _ := fun ty => run_next_end w s pos ty hlt
      have HE := Lib.hid (ql_end hlt hp (HW.out (by omega)))
      go_wp2
      go_returns
      exact ⟨ret_int (by rw [HE.out]), (Below.refl _ w).alloc (Nat.le_refl _) _⟩

end Go.Proofs.YtpeiiomimfiebaaDoor
