/-
  The walk of the statement CheckParts.
-/
import Derived.Test.YtljbhbpddokelaaDoorW13
import Derived.Test.YtljbhbpddokelaaDoorW14
import Derived.Deep.RegionHeld3
namespace Go.Proofs.YtljbhbpddokelaaDoor
open Go.RowKit
set_option linter.unusedVariables false
set_option linter.unusedSimpArgs false

theorem held6 {w0 w w' : World} {b : Nat} {W P I X : Int} {R : Bool} (h : w.cell? ⟨b, 0, none⟩ = some (.int .i64 W) ∧ w.cell? ⟨b, 1, none⟩ = some (.int .i64 P) ∧ w.cell? ⟨b, 2, none⟩ = some (.int .i64 I) ∧ w.cell? ⟨b, 3, none⟩ = some (.int .i64 X) ∧ w.cell? ⟨b, 4, none⟩ = some (.bool R) ∧ Env w ∧ Below w0.heap.size w0 w ∧ b < w.heap.size) (hb : Below w.heap.size w w') : w'.cell? ⟨b, 0, none⟩ = some (.int .i64 W) ∧ w'.cell? ⟨b, 1, none⟩ = some (.int .i64 P) ∧ w'.cell? ⟨b, 2, none⟩ = some (.int .i64 I) ∧ w'.cell? ⟨b, 3, none⟩ = some (.int .i64 X) ∧ w'.cell? ⟨b, 4, none⟩ = some (.bool R) ∧ Env w' ∧ Below w0.heap.size w0 w' ∧ b < w'.heap.size := by
  obtain ⟨h0, h1, h2, h3, h4, he, hw, hl⟩ := h
  obtain ⟨g0, g1, g2, g3, g4, g5⟩ := At5.below ⟨h0, h1, h2, h3, h4, hl⟩ hb
  exact ⟨g0, g1, g2, g3, g4, he.below hb, hw.trans (hb.mono hw.size), g5⟩
theorem by_is_bi {W P I X : Int} {R : Bool} {l : List UInt8} (h : l.length ≤ 8192) : biE W P I X (fb l (!R)) = byE W P I X l ∧ biV W P I X R (fb l (!R)) = byV W P I X R l := by
  rcases h1 : rt W P I X with _ | _
  · obtain ⟨a1, a2⟩ := bi_arg (R := R) (l := fb l (!R)) h1
    obtain ⟨b1, b2⟩ := by_arg (R := R) (l := l) h1
    exact ⟨by rw [a1, b1], by rw [a2, b2]⟩
  · obtain ⟨a1, a2⟩ := bi_ok (R := R) (l := fb l (!R)) h1 (fb_ob _ _) (by rw [fb_length]; omega)
    obtain ⟨b1, b2⟩ := by_ok (R := R) (l := l) h1 h
    exact ⟨by rw [a1, b1], by rw [a2, b2]⟩

set_option maxRecDepth 20000 in
set_option maxHeartbeats 2000000 in
theorem law_parts (W P I X : Int) (R : Bool) (a b : ByteArray) (w : World) (hE : Env w) (ha : a.size ≤ 140737488351232) (hb : b.size ≤ 140737488351232) :
    Calls Tryd.prog 10 #[crV W P I X R, .string a, .string b] w fun e w' => e = .returned (.bool true) ∧ Below w.heap.size w w' := by
  have ha' : (a.size : Int) ≤ 140737488351232 := by omega
  have hb' : (b.size : Int) ≤ 140737488351232 := by omega
  by_cases g1 : 100 < a.size
  · unfold crV
    go_enter Tryd.func10, Tryd.ntmps10
    go_wp2_with (first
      | (go_at_call 17; go_must (refine (awake_any _ (by repeat' (first | with_reducible assumption | with_reducible refine Env.below ?_ (by assumption) | refine Env.below ?_ (ba _ _)))).mono ?_; rintro e w0 ⟨rfl, b0⟩)))
    go_returns
    exact ⟨rfl, by (repeat' (first | with_reducible exact Below.refl _ _ | with_reducible exact Nat.le_refl _ | with_reducible assumption | with_reducible refine Go.below_drewN ?_ _ | with_reducible refine Below.drew ?_ | with_reducible refine Below.trans ?_ (Below.mono (by assumption) ?_) | with_reducible refine Below.alloc ?_ ?_ _ | with_reducible refine le_alloc ?_ _ | with_reducible refine le_drewN ?_ _ | with_reducible refine le_drew ?_ | with_reducible refine Nat.le_trans ?_ (Below.size (by assumption))))⟩
  by_cases g2 : 100 < b.size
  · unfold crV
    go_enter Tryd.func10, Tryd.ntmps10
    go_wp2_with (first
      | (go_at_call 17; go_must (refine (awake_any _ (by repeat' (first | with_reducible assumption | with_reducible refine Env.below ?_ (by assumption) | refine Env.below ?_ (ba _ _)))).mono ?_; rintro e w0 ⟨rfl, b0⟩)))
    go_returns
    exact ⟨rfl, by (repeat' (first | with_reducible exact Below.refl _ _ | with_reducible exact Nat.le_refl _ | with_reducible assumption | with_reducible refine Go.below_drewN ?_ _ | with_reducible refine Below.drew ?_ | with_reducible refine Below.trans ?_ (Below.mono (by assumption) ?_) | with_reducible refine Below.alloc ?_ ?_ _ | with_reducible refine le_alloc ?_ _ | with_reducible refine le_drewN ?_ _ | with_reducible refine le_drew ?_ | with_reducible refine Nat.le_trans ?_ (Below.size (by assumption))))⟩
  have la := size_len a
  have lb := size_len b
  have lab : (a ++ b).size = a.size + b.size := app_size a b
  have C1 := fun w => bytes_any W P I X R a w ha
  have C2 := fun w => fromBytes_any a (!R) w ha
  rw [show fbT a.data.toList (!R) = fb a.data.toList (!R) by unfold fbT; rw [if_pos (by omega)]] at C2
  have C3 := fun w => bits_any W P I X R ⟨(fb a.data.toList (!R)).toArray⟩ w (by rw [size_mk, fb_length]; omega)
  rw [toList_mk, (by_is_bi (R := R) (l := a.data.toList) (by omega)).1, (by_is_bi (R := R) (l := a.data.toList) (by omega)).2] at C3
  have D1 := fun w => carry_any a w ha
  have D2 := fun w => carry_any b w hb
  have D3 := fun w => carry_any (a ++ b) w (by omega)
  have D4 := fun w => sum_any a w ha
  have D5 := fun w => sum_any b w hb
  have D6 := fun w => sum_any (a ++ b) w (by omega)
  have D7 := fun w => xor_any a w ha
  have D8 := fun w => xor_any b w hb
  have D9 := fun w => xor_any (a ++ b) w (by omega)
  rw [app_list, sN_append] at D3 D6
  rw [app_list, xN_append] at D9
  have hc := cN_two (sN a.data.toList) (sN b.data.toList)
  have hc1 := cN_le (sN a.data.toList)
  have hc2 := cN_le (sN b.data.toList)
  have hs : (sN a.data.toList + sN b.data.toList) % 256 = (sN a.data.toList % 256 + sN b.data.toList % 256) % 256 := by omega
  have hx1 := xN_lt a.data.toList
  have hx2 := xN_lt b.data.toList
  unfold crV two at *
  generalize byV W P I X R a.data.toList = M at *
  generalize byE W P I X a.data.toList = E at *
  generalize (⟨(fb a.data.toList (!R)).toArray⟩ : ByteArray) = T at *
  have hJ : 255 - cN (sN a.data.toList + sN b.data.toList) = if (255 - cN (sN a.data.toList)) + (255 - cN (sN b.data.toList)) < 255 then (255 - cN (sN a.data.toList)) + (255 - cN (sN b.data.toList)) else (255 - cN (sN a.data.toList)) + (255 - cN (sN b.data.toList)) - 255 := by
    rw [hc]; split <;> split <;> omega
  have hJ1 : 255 - cN (sN a.data.toList) ≤ 255 := by omega
  have hJ2 : 255 - cN (sN b.data.toList) ≤ 255 := by omega
  clear hc hc1 hc2
  generalize 255 - cN (sN a.data.toList + sN b.data.toList) = K at *
  generalize 255 - cN (sN a.data.toList) = K1 at *
  generalize 255 - cN (sN b.data.toList) = K2 at *
  have hS1 : sN a.data.toList % 256 < 256 := Nat.mod_lt _ (by omega)
  have hS2 : sN b.data.toList % 256 < 256 := Nat.mod_lt _ (by omega)
  rw [hs] at D6
  clear hs
  generalize sN a.data.toList % 256 = S1 at *
  generalize sN b.data.toList % 256 = S2 at *
  obtain ⟨S3, hS3⟩ : ∃ S3, (S1 + S2) % 256 = S3 := ⟨_, rfl⟩
  rw [hS3] at D6
  have q1 : ((S3 : Int) == ((S1 : Int) + S2) % 256) = true := by rw [beq_iff_eq]; omega
  generalize xN a.data.toList = X1 at *
  generalize xN b.data.toList = X2 at *
  have hx := xor_i64 X1 X2 (by omega) (by omega)
  generalize X1 ^^^ X2 = XX at *
  generalize hAB : a ++ b = AB at *
  have hz : ¬ 9223372036854775807 < a.size + b.size := by omega
  have H1 := Lib.hid C1; have H2 := Lib.hid C2; have H3 := Lib.hid C3
  have G1 := Lib.hid D1; have G2 := Lib.hid D2; have G3 := Lib.hid D3; have G4 := Lib.hid D4; have G5 := Lib.hid D5; have G6 := Lib.hid D6; have G7 := Lib.hid D7; have G8 := Lib.hid D8; have G9 := Lib.hid D9
  clear C1 C2 C3 D1 D2 D3 D4 D5 D6 D7 D8 D9 la lb lab ha hb
  by_cases hK : K1 + K2 < 255
  · rw [if_pos hK] at hJ
    have q2 : ((K : Int) == 255 - (255 - (K1 : Int) + (255 - (K2 : Int)) - 255)) = true := by rw [beq_iff_eq]; omega
    clear hJ hS3
    go_enter Tryd.func10, Tryd.ntmps10
    go_wp2_with (first
      | (go_at_call 20; go_must (refine (H1.out _).mono ?_; rintro e w1 ⟨rfl, b1⟩; have e1 := (hE.below (ba w _)).below b1; obtain ⟨c1_0, c1_1, c1_2, c1_3, c1_4, c1_5⟩ := (At5.new _ _ _ _ _ _ _).below b1; have s1 := ((Below.refl _ _).alloc (Nat.le_refl _) _).trans (b1.mono (le_alloc (Nat.le_refl _) _)))))
    have hS := s1.drew
    have hEd : Env w1.drew := e1
    go_region_held3 (fun w' => w'.cell? ⟨w.heap.size, 0, none⟩ = some (.int .i64 W) ∧ w'.cell? ⟨w.heap.size, 1, none⟩ = some (.int .i64 P) ∧ w'.cell? ⟨w.heap.size, 2, none⟩ = some (.int .i64 I) ∧ w'.cell? ⟨w.heap.size, 3, none⟩ = some (.int .i64 X) ∧ w'.cell? ⟨w.heap.size, 4, none⟩ = some (.bool R) ∧ Env w' ∧ Below w.heap.size w w' ∧ w.heap.size < w'.heap.size) (first | exact ⟨c1_0, c1_1, c1_2, c1_3, c1_4, hEd, hS, c1_5⟩ | assumption | go_keep)
      (first
        | (go_at_call 32; refine (H2.out _).mono ?_; rintro e w2 ⟨rfl, b2⟩; have h2 := held6 (by assumption) b2)
        | (go_at_call_of 18 (Value.string T); refine (H3.out _).mono ?_; rintro e w3 ⟨rfl, b3⟩; have h3 := held6 (by assumption) b3))
    all_goals (rename_i hh; have e7 : Env _ := hh.2.2.2.2.2.1; have s7 := hh.2.2.2.2.2.2.1; clear hh)
    all_goals go_wp2_with (first
      | (go_at_call_of 26 (Value.string a); go_must (refine (G1.out _).mono ?_; rintro e w0 ⟨rfl, rfl⟩))
      | (go_at_call_of 26 (Value.string b); go_must (refine (G2.out _).mono ?_; rintro e w0 ⟨rfl, rfl⟩))
      | (go_at_call_of 26 (Value.string AB); go_must (refine (G3.out _).mono ?_; rintro e w0 ⟨rfl, rfl⟩))
      | (go_at_call_of 22 (Value.string a); go_must (refine (G4.out _).mono ?_; rintro e w0 ⟨rfl, rfl⟩))
      | (go_at_call_of 22 (Value.string b); go_must (refine (G5.out _).mono ?_; rintro e w0 ⟨rfl, rfl⟩))
      | (go_at_call_of 22 (Value.string AB); go_must (refine (G6.out _).mono ?_; rintro e w0 ⟨rfl, rfl⟩))
      | (go_at_call_of 24 (Value.string a); go_must (refine (G7.out _).mono ?_; rintro e w0 ⟨rfl, rfl⟩))
      | (go_at_call_of 24 (Value.string b); go_must (refine (G8.out _).mono ?_; rintro e w0 ⟨rfl, rfl⟩))
      | (go_at_call_of 24 (Value.string AB); go_must (refine (G9.out _).mono ?_; rintro e w0 ⟨rfl, rfl⟩))
      | (go_at_call 17; go_must (refine (awake_any _ e7).mono ?_; rintro e w8 ⟨rfl, b8⟩)))
    all_goals go_returns
    all_goals exact ⟨rfl, s7.trans (b8.mono s7.size)⟩
  · rw [if_neg hK] at hJ
    have q2 : ((K : Int) == 255 - (255 - (K1 : Int) + (255 - (K2 : Int)))) = true := by rw [beq_iff_eq]; omega
    clear hJ hS3
    go_enter Tryd.func10, Tryd.ntmps10
    go_wp2_with (first
      | (go_at_call 20; go_must (refine (H1.out _).mono ?_; rintro e w1 ⟨rfl, b1⟩; have e1 := (hE.below (ba w _)).below b1; obtain ⟨c1_0, c1_1, c1_2, c1_3, c1_4, c1_5⟩ := (At5.new _ _ _ _ _ _ _).below b1; have s1 := ((Below.refl _ _).alloc (Nat.le_refl _) _).trans (b1.mono (le_alloc (Nat.le_refl _) _)))))
    have hS := s1.drew
    have hEd : Env w1.drew := e1
    go_region_held3 (fun w' => w'.cell? ⟨w.heap.size, 0, none⟩ = some (.int .i64 W) ∧ w'.cell? ⟨w.heap.size, 1, none⟩ = some (.int .i64 P) ∧ w'.cell? ⟨w.heap.size, 2, none⟩ = some (.int .i64 I) ∧ w'.cell? ⟨w.heap.size, 3, none⟩ = some (.int .i64 X) ∧ w'.cell? ⟨w.heap.size, 4, none⟩ = some (.bool R) ∧ Env w' ∧ Below w.heap.size w w' ∧ w.heap.size < w'.heap.size) (first | exact ⟨c1_0, c1_1, c1_2, c1_3, c1_4, hEd, hS, c1_5⟩ | assumption | go_keep)
      (first
        | (go_at_call 32; refine (H2.out _).mono ?_; rintro e w2 ⟨rfl, b2⟩; have h2 := held6 (by assumption) b2)
        | (go_at_call_of 18 (Value.string T); refine (H3.out _).mono ?_; rintro e w3 ⟨rfl, b3⟩; have h3 := held6 (by assumption) b3))
    all_goals (rename_i hh; have e7 : Env _ := hh.2.2.2.2.2.1; have s7 := hh.2.2.2.2.2.2.1; clear hh)
    all_goals go_wp2_with (first
      | (go_at_call_of 26 (Value.string a); go_must (refine (G1.out _).mono ?_; rintro e w0 ⟨rfl, rfl⟩))
      | (go_at_call_of 26 (Value.string b); go_must (refine (G2.out _).mono ?_; rintro e w0 ⟨rfl, rfl⟩))
      | (go_at_call_of 26 (Value.string AB); go_must (refine (G3.out _).mono ?_; rintro e w0 ⟨rfl, rfl⟩))
      | (go_at_call_of 22 (Value.string a); go_must (refine (G4.out _).mono ?_; rintro e w0 ⟨rfl, rfl⟩))
      | (go_at_call_of 22 (Value.string b); go_must (refine (G5.out _).mono ?_; rintro e w0 ⟨rfl, rfl⟩))
      | (go_at_call_of 22 (Value.string AB); go_must (refine (G6.out _).mono ?_; rintro e w0 ⟨rfl, rfl⟩))
      | (go_at_call_of 24 (Value.string a); go_must (refine (G7.out _).mono ?_; rintro e w0 ⟨rfl, rfl⟩))
      | (go_at_call_of 24 (Value.string b); go_must (refine (G8.out _).mono ?_; rintro e w0 ⟨rfl, rfl⟩))
      | (go_at_call_of 24 (Value.string AB); go_must (refine (G9.out _).mono ?_; rintro e w0 ⟨rfl, rfl⟩))
      | (go_at_call 17; go_must (refine (awake_any _ e7).mono ?_; rintro e w8 ⟨rfl, b8⟩)))
    all_goals go_returns
    all_goals exact ⟨rfl, s7.trans (b8.mono s7.size)⟩

end Go.Proofs.YtljbhbpddokelaaDoor
