/-
  The walk of the specification's Quote.
-/
import Derived.Test.YtiimdkamgehioaaDoorW8
import Derived.Test.YtiimdkamgehioaaDoorB3
import Derived.StillTailTactics
import Derived.Deep.RegionHeld3
namespace Go.Proofs.YtiimdkamgehioaaDoor
open Go.RowKit
set_option linter.unusedVariables false
set_option linter.unusedSimpArgs false

theorem Row.lit1 (w : World) (B : Nat) (b : UInt8) (y : Int) (hy : y = (b.toNat : Int)) (hB : B ≤ w.heap.size) : Row (w.alloc (.cells #[.int .u8 y] 5)) B (.slice (some ⟨w.heap.size, 0, none⟩) 1 1) [b] := by
  subst hy
  exact World.ownsRow_lit (size := 1) (e := 5) w #[.int .u8 (b.toNat : Int)] 1 hB (by decide) rfl

set_option maxRecDepth 20000 in
set_option maxHeartbeats 4000000 in
theorem rquote_any (s : ByteArray) (w : World) (hs : s.size ≤ 35184372088000) :
    Calls Tryd.prog 37 #[.string s] w fun e w' => e = .returned (.string ⟨(qt s.data.toList).toArray⟩) ∧ Below w.heap.size w w' := by
  have hs' : (s.size : Int) ≤ 35184372088000 := by omega
  go_enter Tryd.func37, Tryd.ntmps37
  go_wp2
  go_loopw [4, 5] (fun v x wr => ∃ (k : Nat) (V : Value), k ≤ s.size ∧ v = V ∧ x = .int .i64 k ∧ Row wr w.heap.size V (34 :: qtB (s.data.toList.take k)) ∧ Below w.heap.size w wr) (fun _ x _ => s.size - (intOf x).toNat)
  case atStart => exact ⟨0, _, by omega, rfl, rfl, Row.lit1 w _ 34 34 rfl (Nat.le_refl _), ba w _⟩
  case round =>
    obtain ⟨k, V, hk, rfl, rfl, hf, hw⟩ := hrel
    obtain ⟨VA, VN, VC, rfl, hVN⟩ := hf.form
    have hlen := qtB_bound s k hk
    have hsz := hw.size
    by_cases hlt : k < s.size
    · have hnx : 34 :: qtB (s.data.toList.take (k + 1)) = (34 :: qtB (s.data.toList.take k)) ++ qt1 s[k] := by rw [qtB_take s k hlt]; rfl
      have hL : (34 :: qtB (s.data.toList.take k)).length ≤ 4 * k + 1 := by simp only [List.length_cons]; omega
      generalize (34 :: qtB (s.data.toList.take k) : List UInt8) = L at *
      have g1 : L.length + 4 ≤ 140737488355328 := by omega
      have k0 : s[k].toNat < 256 := s[k].toNat_lt
      have HF := Lib.hid hf
      clear hf hVN
      by_cases q1 : s[k].toNat = 34
      · rw [qt1_back (Or.inl q1)] at hnx
        have f1 : ((s[k].toNat : Int) == 34) = true := by rw [q1]; rfl
        have HX := Lib.hid hnx
        clear q1 hnx
        go_wp2_with (first
          | (at_builtin; go_must (refine wpList_append_many rfl (.tmp 23) (.tmp 25) rfl rfl rfl rfl HF.out hsz [92, s[k]] rfl (by decide) (by decide) rfl g1 ?_; intro v3 w3 r3 b3)))
        go_roundw
        case rel => exact ⟨k + 1, v3, by omega, rfl, by go_num, by rw [HX.out]; exact r3, hw.trans b3⟩
        case measure => simp [intOf]; omega
      have f1 : ((s[k].toNat : Int) == 34) = false := by rw [Bool.eq_false_iff]; simp; omega
      by_cases q2 : s[k].toNat = 92
      · rw [qt1_back (Or.inr q2)] at hnx
        have f2 : ((s[k].toNat : Int) == 92) = true := by rw [q2]; rfl
        have HX := Lib.hid hnx
        clear q1 q2 hnx
        go_wp2_with (first
          | (at_builtin; go_must (refine wpList_append_many rfl (.tmp 23) (.tmp 25) rfl rfl rfl rfl HF.out hsz [92, s[k]] rfl (by decide) (by decide) rfl g1 ?_; intro v3 w3 r3 b3)))
        go_roundw
        case rel => exact ⟨k + 1, v3, by omega, rfl, by go_num, by rw [HX.out]; exact r3, hw.trans b3⟩
        case measure => simp [intOf]; omega
      have f2 : ((s[k].toNat : Int) == 92) = false := by rw [Bool.eq_false_iff]; simp; omega
      by_cases q3 : s[k].toNat = 10
      · rw [qt1_nl q3] at hnx
        have f3 : ((s[k].toNat : Int) == 10) = true := by rw [q3]; rfl
        have HX := Lib.hid hnx
        clear q1 q2 q3 hnx
        go_wp2_with (first
          | (at_builtin; go_must (refine wpList_append_many rfl (.tmp 29) (.tmp 30) rfl rfl rfl rfl HF.out hsz [92, 110] rfl (by decide) (by decide) rfl g1 ?_; intro v3 w3 r3 b3)))
        go_roundw
        case rel => exact ⟨k + 1, v3, by omega, rfl, by go_num, by rw [HX.out]; exact r3, hw.trans b3⟩
        case measure => simp [intOf]; omega
      have f3 : ((s[k].toNat : Int) == 10) = false := by rw [Bool.eq_false_iff]; simp; omega
      by_cases q5 : 32 ≤ s[k].toNat
      · by_cases q6 : s[k].toNat ≤ 126
        · rw [qt1_pr (by omega) q3 (isPr_t q5 q6)] at hnx
          have HX := Lib.hid hnx
          clear q1 q2 q3 hnx
          go_wp2_with (first
            | (at_builtin; go_must (refine wpList_append_many rfl (.tmp 49) (.tmp 51) rfl rfl rfl rfl HF.out hsz [s[k]] rfl (by decide) (by decide) rfl g1 ?_; intro v3 w3 r3 b3)))
          go_roundw
          case rel => exact ⟨k + 1, v3, by omega, rfl, by go_num, by rw [HX.out]; exact r3, hw.trans b3⟩
          case measure => simp [intOf]; omega
        · rw [qt1_hex (by omega) q3 (isPr_f (by omega))] at hnx
          obtain ⟨j1, hj1⟩ : ∃ j1, s[k].toNat / 16 = j1 := ⟨_, rfl⟩
          obtain ⟨j2, hj2⟩ : ∃ j2, s[k].toNat % 16 = j2 := ⟨_, rfl⟩
          have l1 : j1 < 16 := by omega
          have l2 : j2 < 16 := by omega
          have HX := Lib.hid (show 34 :: qtB (s.data.toList.take (k + 1)) = L ++ [92, 120, (⟨#[48, 49, 50, 51, 52, 53, 54, 55, 56, 57, 97, 98, 99, 100, 101, 102]⟩ : ByteArray)[j1]'(by show _ < 16; omega), (⟨#[48, 49, 50, 51, 52, 53, 54, 55, 56, 57, 97, 98, 99, 100, 101, 102]⟩ : ByteArray)[j2]'(by show _ < 16; omega)] from by rw [hnx, hexd_at _ l1, hexd_at _ l2, hj1, hj2])
          have t1 : IntKind.u8.wrap ((s[k].toNat : Int) / 16) = (j1 : Int) := by simp only [IntKind.wrap, IntKind.bits, IntKind.signed, Bool.false_and, Bool.false_eq_true, if_false]; omega
          have t2 : (s[k].toNat : Int).tmod 16 = (j2 : Int) := by rw [Int.tmod_eq_emod_of_nonneg (by omega)]; omega
          have i1 : (0 : Int) ≤ (j1 : Int) ∧ (j1 : Int) < 16 := by omega
          have i2 : (0 : Int) ≤ (j2 : Int) ∧ (j2 : Int) < 16 := by omega
          have i3 : (j1 : Int) < 16 := by omega
          have i4 : (j2 : Int) < 16 := by omega
          clear q1 q2 q3 hnx hj1
          have hdr : Below w.heap.size w wr.drew := hw.drew
          go_wp2
          go_region_held3 (fun w' => Below w.heap.size w w') (first | assumption | exact hdr | exact Below.alloc (by assumption) (Below.size (by assumption)) _ | go_keep)
            ((refine step_append_many (by rfl) (.tmp 38) (.tmp 47) (by rfl) (by rfl) (by rfl) (by rfl) HF.out.drew hdr.size [92, 120, (⟨#[48, 49, 50, 51, 52, 53, 54, 55, 56, 57, 97, 98, 99, 100, 101, 102]⟩ : ByteArray)[j1], (⟨#[48, 49, 50, 51, 52, 53, 54, 55, 56, 57, 97, 98, 99, 100, 101, 102]⟩ : ByteArray)[j2]] (by rfl) (by decide) (by decide) (by rfl) g1 ?_; intro v3 w3 r3 b3; have hw3 := hdr.trans b3))
          all_goals
            go_wp2
            go_roundw
            case rel => exact ⟨k + 1, v3, by omega, rfl, by go_num, by rw [HX.out]; exact r3, hw3⟩
            case measure => simp [intOf]; omega
      · rw [qt1_hex (by omega) q3 (isPr_f (by omega))] at hnx
        obtain ⟨j1, hj1⟩ : ∃ j1, s[k].toNat / 16 = j1 := ⟨_, rfl⟩
        obtain ⟨j2, hj2⟩ : ∃ j2, s[k].toNat % 16 = j2 := ⟨_, rfl⟩
        have l1 : j1 < 16 := by omega
        have l2 : j2 < 16 := by omega
        have HX := Lib.hid (show 34 :: qtB (s.data.toList.take (k + 1)) = L ++ [92, 120, (⟨#[48, 49, 50, 51, 52, 53, 54, 55, 56, 57, 97, 98, 99, 100, 101, 102]⟩ : ByteArray)[j1]'(by show _ < 16; omega), (⟨#[48, 49, 50, 51, 52, 53, 54, 55, 56, 57, 97, 98, 99, 100, 101, 102]⟩ : ByteArray)[j2]'(by show _ < 16; omega)] from by rw [hnx, hexd_at _ l1, hexd_at _ l2, hj1, hj2])
        have t1 : IntKind.u8.wrap ((s[k].toNat : Int) / 16) = (j1 : Int) := by simp only [IntKind.wrap, IntKind.bits, IntKind.signed, Bool.false_and, Bool.false_eq_true, if_false]; omega
        have t2 : (s[k].toNat : Int).tmod 16 = (j2 : Int) := by rw [Int.tmod_eq_emod_of_nonneg (by omega)]; omega
        have i1 : (0 : Int) ≤ (j1 : Int) ∧ (j1 : Int) < 16 := by omega
        have i2 : (0 : Int) ≤ (j2 : Int) ∧ (j2 : Int) < 16 := by omega
        have i3 : (j1 : Int) < 16 := by omega
        have i4 : (j2 : Int) < 16 := by omega
        clear q1 q2 q3 hnx hj1
        have hdr : Below w.heap.size w wr.drew := hw.drew
        go_wp2
        go_region_held3 (fun w' => Below w.heap.size w w') (first | assumption | exact hdr | exact Below.alloc (by assumption) (Below.size (by assumption)) _ | go_keep)
          ((refine step_append_many (by rfl) (.tmp 38) (.tmp 47) (by rfl) (by rfl) (by rfl) (by rfl) HF.out.drew hdr.size [92, 120, (⟨#[48, 49, 50, 51, 52, 53, 54, 55, 56, 57, 97, 98, 99, 100, 101, 102]⟩ : ByteArray)[j1], (⟨#[48, 49, 50, 51, 52, 53, 54, 55, 56, 57, 97, 98, 99, 100, 101, 102]⟩ : ByteArray)[j2]] (by rfl) (by decide) (by decide) (by rfl) g1 ?_; intro v3 w3 r3 b3; have hw3 := hdr.trans b3))
        all_goals
          go_wp2
          go_roundw
          case rel => exact ⟨k + 1, v3, by omega, rfl, by go_num, by rw [HX.out]; exact r3, hw3⟩
          case measure => simp [intOf]; omega
    · have hkk : k = s.size := by omega
      subst hkk
      have e : (34 :: qtB (s.data.toList.take s.size)) ++ [34] = qt s.data.toList := by rw [List.take_of_length_le (by simp)]; rfl
      have hL : (34 :: qtB (s.data.toList.take s.size)).length ≤ 4 * s.size + 1 := by simp only [List.length_cons]; omega
      generalize (34 :: qtB (s.data.toList.take s.size) : List UInt8) = L at *
      have HE := Lib.hid e
      have HF := Lib.hid hf
      have g1 : L.length + 4 ≤ 140737488355328 := by omega
      clear e hf hVN
      go_wp2_with (first
        | (at_builtin; go_must (refine wpList_append_many rfl (.tmp 53) (.tmp 54) rfl rfl rfl rfl HF.out hsz [34] rfl (by decide) (by decide) rfl g1 ?_; intro v3 w3 r3 b3; have hcv := r3.conv)))
      go_returns
      exact ⟨str_of HE.out, hw.trans b3⟩

end Go.Proofs.YtiimdkamgehioaaDoor
