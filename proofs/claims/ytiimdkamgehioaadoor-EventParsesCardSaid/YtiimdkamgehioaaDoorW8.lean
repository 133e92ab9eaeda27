/-
  The walk of Quote.
-/
import Derived.Test.YtiimdkamgehioaaDoorW7
namespace Go.Proofs.YtiimdkamgehioaaDoor
open Go.RowKit
set_option linter.unusedVariables false
set_option linter.unusedSimpArgs false

theorem qtB_take (s : ByteArray) (k : Nat) (h : k < s.size) : qtB (s.data.toList.take (k + 1)) = qtB (s.data.toList.take k) ++ qt1 s[k] := by
  rw [take_snoc s k h, qtB_snoc]
theorem qtB_bound (s : ByteArray) (k : Nat) (h : k ≤ s.size) : (qtB (s.data.toList.take k)).length ≤ 4 * k := by
  have := (qtB_len (s.data.toList.take k)).2
  rw [List.length_take, ← size_len] at this
  omega
theorem qt1_back {c : UInt8} (h : c.toNat = 34 ∨ c.toNat = 92) : qt1 c = [92, c] := by unfold qt1; rw [if_pos h]
theorem qt1_nl {c : UInt8} (h : c.toNat = 10) : qt1 c = [92, 110] := by unfold qt1; rw [if_neg (by omega), if_pos h]
theorem qt1_pr {c : UInt8} (h1 : ¬ (c.toNat = 34 ∨ c.toNat = 92)) (h2 : c.toNat ≠ 10) (h : isPr c.toNat = true) : qt1 c = [c] := by unfold qt1; rw [if_neg h1, if_neg h2, if_pos h]
theorem qt1_hex {c : UInt8} (h1 : ¬ (c.toNat = 34 ∨ c.toNat = 92)) (h2 : c.toNat ≠ 10) (h : isPr c.toNat = false) : qt1 c = [92, 120, hexd (c.toNat / 16), hexd (c.toNat % 16)] := by unfold qt1; rw [if_neg h1, if_neg h2, if_neg (by rw [h]; simp)]
theorem hexd_at (j : Nat) (h : j < 16) : (⟨#[48, 49, 50, 51, 52, 53, 54, 55, 56, 57, 97, 98, 99, 100, 101, 102]⟩ : ByteArray)[j]'h = hexd j := by
  have : ∀ j : Fin 16, (⟨#[48, 49, 50, 51, 52, 53, 54, 55, 56, 57, 97, 98, 99, 100, 101, 102]⟩ : ByteArray)[j.val]'j.isLt = hexd j.val := by decide
  exact this ⟨j, h⟩

theorem str_of {a b : List UInt8} (h : a = b) : Ending.returned (.string ⟨a.toArray⟩) = .returned (.string ⟨b.toArray⟩) := by rw [h]

set_option maxRecDepth 20000 in
set_option maxHeartbeats 2000000 in
theorem quote_any (s : ByteArray) (w : World) (hs : s.size ≤ 35184372088000) :
    Calls Tryd.prog 33 #[.string s] w fun e w' => e = .returned (.string ⟨(qt s.data.toList).toArray⟩) ∧ Below w.heap.size w w' := by
  have hs' : (s.size : Int) ≤ 35184372088000 := by omega
  go_enter Tryd.func33, Tryd.ntmps33
  go_wp2_with (first
    | (go_at_call 53; go_must (refine (wb_any 34 _ _ (Bld.new w) rfl (by simp) (le_alloc (Nat.le_refl _) _)).mono ?_; rintro e w2 ⟨rfl, hb2, b2, _⟩)))
  have hw2 := ((Below.refl _ w).alloc (Nat.le_refl _) _).trans b2
  clear b2
  go_loopw [9] (fun x wr => ∃ k : Nat, k ≤ s.size ∧ x = .int .i64 k ∧ Bld wr w.heap.size w.heap.size (34 :: qtB (s.data.toList.take k)) ∧ Below w.heap.size w wr) (fun x _ => s.size - (intOf x).toNat)
  case atStart => exact ⟨0, by omega, rfl, hb2, hw2⟩
  case round =>
    clear hb2 hw2
    obtain ⟨k, hk, rfl, hb, hw⟩ := hrel
    have hlen := qtB_bound s k hk
    by_cases hlt : k < s.size
    · have hnx : 34 :: qtB (s.data.toList.take (k + 1)) = (34 :: qtB (s.data.toList.take k)) ++ qt1 s[k] := by rw [qtB_take s k hlt]; rfl
      have hL : (34 :: qtB (s.data.toList.take k)).length ≤ 4 * k + 1 := by simp only [List.length_cons]; omega
      generalize (34 :: qtB (s.data.toList.take k) : List UInt8) = L at *
      have g1 : L.length + 1 ≤ 140737488355328 := by omega
      have g2 : (L ++ [92]).length + 1 ≤ 140737488355328 := by simp only [List.length_append, List.length_cons, List.length_nil]; omega
      have k0 : s[k].toNat < 256 := s[k].toNat_lt
      have C1 := fun (w : World) (C : Int) (h : C = (s[k].toNat : Int)) => printable_any s[k].toNat C w h
      by_cases q1 : s[k].toNat = 34
      · rw [qt1_back (Or.inl q1)] at hnx
        have f1 : ((s[k].toNat : Int) == 34) = true := by rw [q1]; rfl
        have HX := Lib.hid hnx
        clear q1 C1 hnx
        go_wp2_with (first
          | (go_at_call 53; go_must (first | (refine (wb_any s[k] _ _ hb3 rfl g2 hw3.size).mono ?_; rintro e w4 ⟨rfl, hb4, b4, _⟩; have hw4 := hw3.trans b4) | (refine (wb_any 92 _ _ hb rfl g1 hw.size).mono ?_; rintro e w3 ⟨rfl, hb3, b3, _⟩; have hw3 := hw.trans b3))))
        go_roundw
        case rel => exact ⟨k + 1, by omega, by go_num, by rw [HX.out]; simpa using hb4, hw4⟩
        case measure => simp [intOf]; omega
      have f1 : ((s[k].toNat : Int) == 34) = false := by rw [Bool.eq_false_iff]; simp; omega
      by_cases q2 : s[k].toNat = 92
      · rw [qt1_back (Or.inr q2)] at hnx
        have f2 : ((s[k].toNat : Int) == 92) = true := by rw [q2]; rfl
        have HX := Lib.hid hnx
        clear q1 q2 C1 hnx
        go_wp2_with (first
          | (go_at_call 53; go_must (first | (refine (wb_any s[k] _ _ hb3 rfl g2 hw3.size).mono ?_; rintro e w4 ⟨rfl, hb4, b4, _⟩; have hw4 := hw3.trans b4) | (refine (wb_any 92 _ _ hb rfl g1 hw.size).mono ?_; rintro e w3 ⟨rfl, hb3, b3, _⟩; have hw3 := hw.trans b3))))
        go_roundw
        case rel => exact ⟨k + 1, by omega, by go_num, by rw [HX.out]; simpa using hb4, hw4⟩
        case measure => simp [intOf]; omega
      have f2 : ((s[k].toNat : Int) == 92) = false := by rw [Bool.eq_false_iff]; simp; omega
      by_cases q3 : s[k].toNat = 10
      · rw [qt1_nl q3] at hnx
        have f3 : ((s[k].toNat : Int) == 10) = true := by rw [q3]; rfl
        have g3 : L.length + (⟨#[92, 110]⟩ : ByteArray).size ≤ 140737488355328 := by show L.length + 2 ≤ _; omega
        have HX := Lib.hid hnx
        clear q1 q2 q3 C1 hnx
        go_wp2_with (first
          | (go_at_call 54; go_must (refine (ws_any ⟨#[92, 110]⟩ _ hb g3 hw.size).mono ?_; rintro e w4 ⟨rfl, hb4, b4, _⟩; have hw4 := hw.trans b4)))
        go_roundw
        case rel => exact ⟨k + 1, by omega, by go_num, by rw [HX.out]; simpa using hb4, hw4⟩
        case measure => simp [intOf]; omega
      have f3 : ((s[k].toNat : Int) == 10) = false := by rw [Bool.eq_false_iff]; simp; omega
      rcases q4 : isPr s[k].toNat with _ | _
      · rw [qt1_hex (by omega) q3 q4] at hnx
        rw [q4] at C1
        have H1 := Lib.hid C1
        have HX := Lib.hid hnx
        clear q1 q2 q3 q4 C1 hnx
        have g3 : L.length + (⟨#[92, 120]⟩ : ByteArray).size ≤ 140737488355328 := by show L.length + 2 ≤ _; omega
        have g4 : (L ++ [92, 120]).length + 1 ≤ 140737488355328 := by simp only [List.length_append, List.length_cons, List.length_nil]; omega
        have g5 : ∀ x, (L ++ [92, 120] ++ [x]).length + 1 ≤ 140737488355328 := by intro x; simp only [List.length_append, List.length_cons, List.length_nil]; omega
        have HX' := Lib.hid (show 34 :: qtB (s.data.toList.take (k + 1)) = L ++ [92, 120] ++ [(⟨#[48, 49, 50, 51, 52, 53, 54, 55, 56, 57, 97, 98, 99, 100, 101, 102]⟩ : ByteArray)[s[k].toNat / 16]'(by show _ < 16; omega)] ++ [(⟨#[48, 49, 50, 51, 52, 53, 54, 55, 56, 57, 97, 98, 99, 100, 101, 102]⟩ : ByteArray)[s[k].toNat % 16]'(by show _ < 16; omega)] from by rw [HX.out, hexd_at _ (by omega), hexd_at _ (by omega)]; simp)
        clear HX
        go_wp2_with (first
          | (go_at_call 55; go_must (refine (H1.out _ _ rfl).mono ?_; rintro e w1 ⟨rfl, rfl⟩))
          | (go_at_call 54; go_must (refine (ws_any ⟨#[92, 120]⟩ _ hb g3 hw.size).mono ?_; rintro e w3 ⟨rfl, hb3, b3, _⟩; have hw3 := hw.trans b3))
          | (go_at_call 53; go_must (first | (refine (wb_any _ _ _ hb4 rfl (g5 _) hw4.size).mono ?_; rintro e w5 ⟨rfl, hb5, b5, _⟩; have hw5 := hw4.trans b5) | (refine (wb_any _ _ _ hb3 rfl g4 hw3.size).mono ?_; rintro e w4 ⟨rfl, hb4, b4, _⟩; have hw4 := hw3.trans b4))))
        go_roundw
        case rel => exact ⟨k + 1, by omega, by go_num, by rw [HX'.out]; exact hb5, hw5⟩
        case measure => simp [intOf]; omega

      · rw [qt1_pr (by omega) q3 q4] at hnx
        rw [q4] at C1
        have H1 := Lib.hid C1
        have HX := Lib.hid hnx
        clear q1 q2 q3 q4 C1 hnx
        go_wp2_with (first
          | (go_at_call 53; go_must (refine (wb_any s[k] _ _ hb rfl g1 hw.size).mono ?_; rintro e w4 ⟨rfl, hb4, b4, _⟩; have hw4 := hw.trans b4))
          | (go_at_call 55; go_must (refine (H1.out _ _ rfl).mono ?_; rintro e w1 ⟨rfl, rfl⟩)))
        go_roundw
        case rel => exact ⟨k + 1, by omega, by go_num, by rw [HX.out]; simpa using hb4, hw4⟩
        case measure => simp [intOf]; omega
    · have hkk : k = s.size := by omega
      subst hkk
      have e : (34 :: qtB (s.data.toList.take s.size)) ++ [34] = qt s.data.toList := by rw [List.take_of_length_le (by simp)]; rfl
      have hL : (34 :: qtB (s.data.toList.take s.size)).length ≤ 4 * s.size + 1 := by simp only [List.length_cons]; omega
      generalize (34 :: qtB (s.data.toList.take s.size) : List UInt8) = L at *
      have HE := Lib.hid e
      clear e
      go_wp2_with (first
        | (go_at_call 53; go_must (refine (wb_any 34 _ _ hb rfl (by omega) hw.size).mono ?_; rintro e w3 ⟨rfl, hb3, b3, _⟩; have hw3 := hw.trans b3))
        | (go_at_call 56; go_must (refine (str_any _ hb3 hw3.size).mono ?_; rintro e w4 ⟨rfl, b4⟩)))
      go_returns
      exact ⟨str_of HE.out, hw3.trans b4⟩

end Go.Proofs.YtiimdkamgehioaaDoor
