/-
  The walk of the statement CheckLimits.
-/
import Derived.Test.YtljbhbpddokelaaDoorL8
import Derived.Deep.RegionHeld3
namespace Go.Proofs.YtljbhbpddokelaaDoor
open Go.RowKit
set_option linter.unusedVariables false
set_option linter.unusedSimpArgs false

theorem zs_append (m n : Nat) : zs m ++ zs n = zs (m + n) := by simp [zs, List.replicate_append_replicate]
theorem zs_length (n : Nat) : (zs n).length = n := by simp [zs]
theorem zs_ob (n : Nat) : ob (zs n) = true := by
  unfold ob; rw [List.all_eq_true]
  intro b hb
  obtain rfl := List.eq_of_mem_replicate hb
  rfl
theorem zs_bad (n : Nat) : ob (zs n ++ [50]) = false := by
  rcases h : ob (zs n ++ [50]) with _ | _
  · rfl
  · unfold ob at h
    rw [List.all_eq_true] at h
    exact absurd (h 50 (by simp)) (by decide)
theorem zs_crc (n : Nat) : crI 8 7 0 0 false (zs n) = 0 := by
  have h : ∀ b ∈ bs (zs n), b = 0 := by
    intro b hb
    simp only [bs, List.mem_map] at hb
    obtain ⟨x, hx, rfl⟩ := hb
    obtain rfl := List.eq_of_mem_replicate hx
    rfl
  show rvI (rgn 8 7 0 (bs (zs n))) 8 false ^^^ 0 = 0
  rw [rgn_zeros _ h]; rfl
theorem rt_crc8 : rt 8 7 0 0 = true := by kernel_rfl
theorem rt_none : rt 0 0 0 0 = false := by kernel_rfl

set_option maxRecDepth 20000 in
set_option maxHeartbeats 2000000 in
theorem law_limits_out (m : Int) (w : World) (hE : Env w) (h : m < 0 ∨ 3 < m) :
    Calls Tryd.prog 7 #[.int .i64 m] w fun e w' => e = .returned (.bool true) ∧ Below w.heap.size w w' := by
  rcases h with h | h
  · go_enter Tryd.func7, Tryd.ntmps7
    go_wp2_with (first
      | (go_at_call 17; go_must (refine (awake_any _ (by repeat' (first | with_reducible assumption | with_reducible refine Env.below ?_ (by assumption) | refine Env.below ?_ (ba _ _)))).mono ?_; rintro e w0 ⟨rfl, b0⟩)))
    go_returns
    exact ⟨rfl, by (repeat' (first | with_reducible exact Below.refl _ _ | with_reducible exact Nat.le_refl _ | with_reducible assumption | with_reducible refine Go.below_drewN ?_ _ | with_reducible refine Below.drew ?_ | with_reducible refine Below.trans ?_ (Below.mono (by assumption) ?_) | with_reducible refine Below.alloc ?_ ?_ _ | with_reducible refine le_alloc ?_ _ | with_reducible refine le_drewN ?_ _ | with_reducible refine le_drew ?_ | with_reducible refine Nat.le_trans ?_ (Below.size (by assumption))))⟩
  · go_enter Tryd.func7, Tryd.ntmps7
    go_wp2_with (first
      | (go_at_call 17; go_must (refine (awake_any _ (by repeat' (first | with_reducible assumption | with_reducible refine Env.below ?_ (by assumption) | refine Env.below ?_ (ba _ _)))).mono ?_; rintro e w0 ⟨rfl, b0⟩)))
    go_returns
    exact ⟨rfl, by (repeat' (first | with_reducible exact Below.refl _ _ | with_reducible exact Nat.le_refl _ | with_reducible assumption | with_reducible refine Go.below_drewN ?_ _ | with_reducible refine Below.drew ?_ | with_reducible refine Below.trans ?_ (Below.mono (by assumption) ?_) | with_reducible refine Below.alloc ?_ ?_ _ | with_reducible refine le_alloc ?_ _ | with_reducible refine le_drewN ?_ _ | with_reducible refine le_drew ?_ | with_reducible refine Nat.le_trans ?_ (Below.size (by assumption))))⟩

set_option maxRecDepth 20000 in
set_option maxHeartbeats 2000000 in
theorem law_limits (m : Nat) (w : World) (hE : Env w) (hm : m ≤ 3) :
    Calls Tryd.prog 7 #[.int .i64 m] w fun e w' => e = .returned (.bool true) ∧ Below w.heap.size w w' := by
  have C0 := fun w => zeros_any 256 w (by omega)
  have C1 := fun w => zeros_any m w (by omega)
  have z0 : (⟨(zs 256).toArray⟩ : ByteArray).size = 256 := by rw [size_mk, zs_length]
  have z1 : (⟨(zs m).toArray⟩ : ByteArray).size = m := by rw [size_mk, zs_length]
  have l0 : (⟨(zs 256).toArray⟩ : ByteArray).data.toList = zs 256 := toList_mk _
  have l1 : (⟨(zs m).toArray⟩ : ByteArray).data.toList = zs m := toList_mk _
  rw [show ((256 : Nat) : Int) = 256 by rfl] at C0
  generalize (⟨(zs 256).toArray⟩ : ByteArray) = F at *
  generalize (⟨(zs m).toArray⟩ : ByteArray) = G at *
  have CB := fun (T : ByteArray) w (h : T.size ≤ 70000) => bits_any 8 7 0 0 false T w (by omega)
  have CN := fun (T : ByteArray) w (h : T.size ≤ 70000) => bits_any 0 0 0 0 false T w (by omega)
  have CY := fun (T : ByteArray) w (h : T.size ≤ 70000) => bytes_any 8 7 0 0 false T w (by omega)
  have H0 := Lib.hid C0; have H1 := Lib.hid C1; have HB := Lib.hid CB; have HN := Lib.hid CN; have HY := Lib.hid CY
  have L0 := Lib.hid l0; have L1 := Lib.hid l1
  clear C0 C1 CB CN CY l0 l1
  go_enter Tryd.func7, Tryd.ntmps7
  go_wp2_with (first
    | (go_at_call_of 28 (Value.int .i64 256); go_must (refine (H0.out _).mono ?_; rintro e w0 ⟨rfl, rfl⟩)))
  go_loop [5, 4] (fun x y => ∃ (k : Nat) (T : ByteArray), k ≤ 256 ∧ x = .int .i64 k ∧ y = .string T ∧ T.size = 256 * k ∧ Hid (T.data.toList = zs (256 * k))) (fun x _ => 256 - (intOf x).toNat)
  case atStart => exact ⟨0, ⟨#[]⟩, by omega, rfl, rfl, rfl, rfl⟩
  case round =>
    obtain ⟨k, T, hk, rfl, rfl, hT, HT⟩ := hrel
    by_cases he : k = 256
    · subst he
      have hTG : (T ++ G).size = 65536 + m := by rw [app_size, hT, z1]
      have lTG : (T ++ G).data.toList = zs (65536 + m) := by rw [app_list, HT.out, L1.out, zs_append]
      have hz : ¬ 9223372036854775807 < T.size + m := by omega
      have hT2 : (T ++ G ++ ⟨#[50]⟩).size = 65537 + m := by rw [app_size, hTG]; show 65536 + m + 1 = _; omega
      have lT2 : (T ++ G ++ ⟨#[50]⟩).data.toList = zs (65536 + m) ++ [50] := by rw [app_list, lTG]
      have lX : ((T ++ G).extract 0 (8192 + m)).data.toList = zs (8192 + m) := by
        rw [extract_take _ _ (by omega), lTG]
        simp only [zs, List.take_replicate]
        congr 1; omega
      have hX : ((T ++ G).extract 0 (8192 + m)).size = 8192 + m := by rw [size_len, lX, zs_length]
      have B1 := fun w => HB.out (T ++ G) w (by omega)
      have B2 := fun w => HN.out (T ++ G) w (by omega)
      have B3 := fun w => HB.out (T ++ G ++ ⟨#[50]⟩) w (by omega)
      have B4 := fun w => HY.out ((T ++ G).extract 0 (8192 + m)) w (by omega)
      rw [lTG] at B1 B2
      rw [lT2, (bi_syn (R := false) rt_crc8 (zs_bad _)).1, (bi_syn (R := false) rt_crc8 (zs_bad _)).2] at B3
      rw [(bi_arg (R := false) (l := zs (65536 + m)) rt_none).1, (bi_arg (R := false) (l := zs (65536 + m)) rt_none).2] at B2
      rw [lX] at B4
      clear lX lT2
      obtain ⟨X, eX⟩ : ∃ X, (T ++ G).extract 0 (8192 + m) = X := ⟨_, rfl⟩
      rw [eX] at B4
      clear hX hT2
      obtain ⟨J, hJ⟩ : ∃ J, 8192 + m = J := ⟨_, rfl⟩
      rw [hJ] at eX
      have hw : IntKind.i64.wrap (8192 + (m : Int)) = (J : Int) := by rw [IntKind.wrap_i64]; omega
      have hz2 : ¬ 9223372036854775807 < (T ++ G).size + 1 := by omega
      have hl : (J : Int) ≤ ((T ++ G).size : Int) := by omega
      have hl1 : (J : Int) ≤ (T.size : Int) + (G.size : Int) := by omega
      have hl2 : (J : Int) ≤ 65536 + (m : Int) := by omega
      have hl3 : (0 : Int) ≤ (J : Int) := by omega
      have hl4 : J ≤ (T ++ G).size := by omega
      have hl5 : (J : Int) ≤ ((256 * 256 : Nat) : Int) + (m : Int) := by omega
      have HJ := Lib.hid hJ
      rcases Nat.eq_zero_or_pos m with hm0 | hm0
      · have hnz : ¬ 0 < (m : Int) := by omega
        rw [(bi_ok (R := false) rt_crc8 (zs_ob _) (by rw [zs_length]; omega)).1, (bi_ok (R := false) rt_crc8 (zs_ob _) (by rw [zs_length]; omega)).2, zs_crc] at B1
        rw [(by_ok (R := false) (l := zs (8192 + m)) rt_crc8 (by rw [zs_length]; omega)).1] at B4
        generalize byV 8 7 0 0 false (zs (8192 + m)) = M at *
        clear hm0 hJ
        unfold crV two at B1 B2 B3 B4
        have K1 := Lib.hid B1; have K2 := Lib.hid B2; have K3 := Lib.hid B3; have K4 : Hid (∀ w Y, Y = X → _) := fun w Y (hY : Y = X) => hY ▸ B4 w
        have ET := Lib.hid eX
        clear B1 B2 B3 B4 HB HN HY H0 L0 L1 HT lTG eX
        go_wp2_with (first
          | (go_at_call 28; go_must (refine (H1.out _).mono ?_; rintro e w0 ⟨rfl, rfl⟩))
          | (go_at_call_of 18 (Value.agg #[.int .i64 8, .int .i64 7, .int .i64 0, .int .i64 0, .bool false]); (with_reducible refine (K1.out _).mono ?_); rintro e w1 ⟨rfl, b1⟩; have e1 := (hE.below (ba w _)).below b1; obtain ⟨c1_0, c1_1, c1_2, c1_3, c1_4, c1_5⟩ := (At5.new _ _ _ _ _ _ _).below b1; have s1 := ((Below.refl _ _).alloc (Nat.le_refl _) _).trans (b1.mono (le_alloc (Nat.le_refl _) _)))
          | (go_at_call_of 18 (Value.agg #[.int .i64 0, .int .i64 0, .int .i64 0, .int .i64 0, .bool false]); (with_reducible refine (K2.out _).mono ?_); rintro e w2 ⟨rfl, b2⟩; have e2 := e1.below b2; obtain ⟨c2_0, c2_1, c2_2, c2_3, c2_4, c2_5⟩ := At5.below ⟨c1_0, c1_1, c1_2, c1_3, c1_4, c1_5⟩ b2; have s2 := s1.trans (b2.mono s1.size))
          | (go_at_call_of 18 (Value.agg #[.int .i64 8, .int .i64 7, .int .i64 0, .int .i64 0, .bool false]); (with_reducible refine (K3.out _).mono ?_); rintro e w3 ⟨rfl, b3⟩; have e3 := e2.below b3; obtain ⟨c3_0, c3_1, c3_2, c3_3, c3_4, c3_5⟩ := At5.below ⟨c2_0, c2_1, c2_2, c2_3, c2_4, c2_5⟩ b3; have s3 := s2.trans (b3.mono s2.size)))
        have hS := s3.drew
        have hEd : Env w3.drew := e3
        go_region_held3 (fun w' => w'.cell? ⟨w.heap.size, 0, none⟩ = some (.int .i64 8) ∧ w'.cell? ⟨w.heap.size, 1, none⟩ = some (.int .i64 7) ∧ w'.cell? ⟨w.heap.size, 2, none⟩ = some (.int .i64 0) ∧ w'.cell? ⟨w.heap.size, 3, none⟩ = some (.int .i64 0) ∧ w'.cell? ⟨w.heap.size, 4, none⟩ = some (.bool false) ∧ Env w' ∧ Below w.heap.size w w' ∧ w.heap.size < w'.heap.size) (first | exact ⟨c3_0, c3_1, c3_2, c3_3, c3_4, hEd, hS, c3_5⟩ | assumption | go_keep)
          (first
            | (go_at_call 20; refine (K4.out _ _ ET.out).mono ?_; rintro e w4 ⟨rfl, b4⟩; have h4 := held6 (by assumption) b4))
        all_goals (rename_i hh; have e7 : Env _ := hh.2.2.2.2.2.1; have s7 := hh.2.2.2.2.2.2.1; clear hh)
        all_goals go_wp2_with (first
          | (go_at_call 17; go_must (refine (awake_any _ e7).mono ?_; rintro e w8 ⟨rfl, b8⟩)))
        all_goals go_returns
        all_goals exact ⟨rfl, s7.trans (b8.mono s7.size)⟩
      · have hnz : 0 < (m : Int) := by omega
        rw [(bi_lim (R := false) rt_crc8 (zs_ob _) (by rw [zs_length]; omega)).1, (bi_lim (R := false) rt_crc8 (zs_ob _) (by rw [zs_length]; omega)).2] at B1
        rw [(by_lim (R := false) (l := zs (8192 + m)) rt_crc8 (by rw [zs_length]; omega)).1, (by_lim (R := false) (l := zs (8192 + m)) rt_crc8 (by rw [zs_length]; omega)).2] at B4
        clear hJ
        unfold crV two at B1 B2 B3 B4
        have K1 := Lib.hid B1; have K2 := Lib.hid B2; have K3 := Lib.hid B3; have K4 : Hid (∀ w Y, Y = X → _) := fun w Y (hY : Y = X) => hY ▸ B4 w
        have ET := Lib.hid eX
        clear B1 B2 B3 B4 HB HN HY H0 L0 L1 HT lTG eX
        go_wp2_with (first
          | (go_at_call 28; go_must (refine (H1.out _).mono ?_; rintro e w0 ⟨rfl, rfl⟩))
          | (go_at_call_of 18 (Value.agg #[.int .i64 8, .int .i64 7, .int .i64 0, .int .i64 0, .bool false]); (with_reducible refine (K1.out _).mono ?_); rintro e w1 ⟨rfl, b1⟩; have e1 := (hE.below (ba w _)).below b1; obtain ⟨c1_0, c1_1, c1_2, c1_3, c1_4, c1_5⟩ := (At5.new _ _ _ _ _ _ _).below b1; have s1 := ((Below.refl _ _).alloc (Nat.le_refl _) _).trans (b1.mono (le_alloc (Nat.le_refl _) _)))
          | (go_at_call_of 18 (Value.agg #[.int .i64 0, .int .i64 0, .int .i64 0, .int .i64 0, .bool false]); (with_reducible refine (K2.out _).mono ?_); rintro e w2 ⟨rfl, b2⟩; have e2 := e1.below b2; obtain ⟨c2_0, c2_1, c2_2, c2_3, c2_4, c2_5⟩ := At5.below ⟨c1_0, c1_1, c1_2, c1_3, c1_4, c1_5⟩ b2; have s2 := s1.trans (b2.mono s1.size))
          | (go_at_call_of 18 (Value.agg #[.int .i64 8, .int .i64 7, .int .i64 0, .int .i64 0, .bool false]); (with_reducible refine (K3.out _).mono ?_); rintro e w3 ⟨rfl, b3⟩; have e3 := e2.below b3; obtain ⟨c3_0, c3_1, c3_2, c3_3, c3_4, c3_5⟩ := At5.below ⟨c2_0, c2_1, c2_2, c2_3, c2_4, c2_5⟩ b3; have s3 := s2.trans (b3.mono s2.size)))
        have hS := s3.drew
        have hEd : Env w3.drew := e3
        go_region_held3 (fun w' => w'.cell? ⟨w.heap.size, 0, none⟩ = some (.int .i64 8) ∧ w'.cell? ⟨w.heap.size, 1, none⟩ = some (.int .i64 7) ∧ w'.cell? ⟨w.heap.size, 2, none⟩ = some (.int .i64 0) ∧ w'.cell? ⟨w.heap.size, 3, none⟩ = some (.int .i64 0) ∧ w'.cell? ⟨w.heap.size, 4, none⟩ = some (.bool false) ∧ Env w' ∧ Below w.heap.size w w' ∧ w.heap.size < w'.heap.size) (first | exact ⟨c3_0, c3_1, c3_2, c3_3, c3_4, hEd, hS, c3_5⟩ | assumption | go_keep)
          (first
            | (go_at_call 20; refine (K4.out _ _ ET.out).mono ?_; rintro e w4 ⟨rfl, b4⟩; have h4 := held6 (by assumption) b4))
        all_goals (rename_i hh; have e7 : Env _ := hh.2.2.2.2.2.1; have s7 := hh.2.2.2.2.2.2.1; clear hh)
        all_goals go_wp2_with (first
          | (go_at_call 17; go_must (refine (awake_any _ e7).mono ?_; rintro e w8 ⟨rfl, b8⟩)))
        all_goals go_returns
        all_goals exact ⟨rfl, s7.trans (b8.mono s7.size)⟩
    · have hlt : k < 256 := by omega
      have hz : ¬ 9223372036854775807 < T.size + 256 := by omega
      go_wp2
      go_round
      case rel => exact ⟨k + 1, _, by omega, by go_num, rfl, by rw [app_size, hT, z0]; omega, by rw [app_list, HT.out, L0.out, zs_append]; exact rfl⟩
      case measure => simp [intOf]; omega

end Go.Proofs.YtljbhbpddokelaaDoor
