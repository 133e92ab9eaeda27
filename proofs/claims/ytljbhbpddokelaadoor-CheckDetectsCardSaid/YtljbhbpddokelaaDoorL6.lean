/-
  The walk of the statement CheckDetects.
-/
import Derived.Test.YtljbhbpddokelaaDoorW13
import Derived.Test.YtljbhbpddokelaaDoorW15
namespace Go.Proofs.YtljbhbpddokelaaDoor
open Go.RowKit
set_option linter.unusedVariables false
set_option linter.unusedSimpArgs false

theorem At5.box2 (w : World) (W P I X : Int) (R : Bool) (T : TypeId) (o : Obj) (n : Nat) : At5 (((w.alloc (.cells #[.int .i64 W, .int .i64 P, .int .i64 I, .int .i64 X, .bool R] T)).alloc o).drewN n) w.heap.size W P I X R :=
  (At5.new w W P I X R T).below (Go.below_drewN (ba _ o) n)
theorem env_box2 {w : World} (h : Env w) (o o' : Obj) (n : Nat) : Env (((w.alloc o).alloc o').drewN n) := (h.below (ba w o)).below (Go.below_drewN (ba _ o') n)
theorem below_box2 (w : World) (o o' : Obj) (n : Nat) : Below w.heap.size w (((w.alloc o).alloc o').drewN n) := Go.below_drewN (((Below.refl _ _).alloc (Nat.le_refl _) o).alloc (le_alloc (Nat.le_refl _) o) o') n

set_option maxRecDepth 20000 in
set_option maxHeartbeats 2000000 in
theorem law_detects (W P I X : Int) (R : Bool) (s : ByteArray) (a b : Int) (w : World) (hE : Env w) (hs : s.size ≤ 140737488351232) (hb1 : b ≤ 9223372036854775807) :
    Calls Tryd.prog 8 #[crV W P I X R, .string s, .agg #[.int .i64 a, .int .i64 b]] w fun e w' => e = .returned (.bool true) ∧ Below w.heap.size w w' := by
  have hs' : (s.size : Int) ≤ 140737488351232 := by omega
  have C0 := fun w => rright_any W P I X R w
  have CS := fun w => sound_any s w (by omega)
  unfold crV at C0 ⊢
  have HS := Lib.hid CS
  rcases h1 : rt W P I X with _ | _
  · rw [h1] at C0
    have H0 := Lib.hid C0
    clear C0 h1 CS
    go_enter Tryd.func8, Tryd.ntmps8
    go_wp2
    go_quiet (fail)
    go_wp2_with (first
      | (go_at_call 16; go_must (refine (H0.out _).mono ?_; rintro e w1 ⟨rfl, b1⟩; have e1 := (env_box2 hE _ _ _).below b1; obtain ⟨c1_0, c1_1, c1_2, c1_3, c1_4, c1_5⟩ := (At5.box2 w _ _ _ _ _ _ _ _).below b1; have s1 := (below_box2 w _ _ _).trans (b1.mono (below_box2 w _ _ _).size)))
      | (go_at_call 17; go_must (refine (awake_any _ e1).mono ?_; rintro e w2 ⟨rfl, b2⟩)))
    go_returns
    exact ⟨rfl, s1.trans (b2.mono s1.size)⟩
  rw [h1] at C0
  by_cases h2 : 200 < s.size
  · have H0 := Lib.hid C0
    clear C0 h1 CS
    go_enter Tryd.func8, Tryd.ntmps8
    go_wp2
    go_quiet (fail)
    go_wp2_with (first
      | (go_at_call 16; go_must (refine (H0.out _).mono ?_; rintro e w1 ⟨rfl, b1⟩; have e1 := (env_box2 hE _ _ _).below b1; obtain ⟨c1_0, c1_1, c1_2, c1_3, c1_4, c1_5⟩ := (At5.box2 w _ _ _ _ _ _ _ _).below b1; have s1 := (below_box2 w _ _ _).trans (b1.mono (below_box2 w _ _ _).size)))
      | (go_at_call 17; go_must (refine (awake_any _ e1).mono ?_; rintro e w2 ⟨rfl, b2⟩)))
    go_returns
    exact ⟨rfl, s1.trans (b2.mono s1.size)⟩
  rcases h3 : ob s.data.toList with _ | _
  · rw [h3] at CS
    have H0 := Lib.hid C0
    have HS := Lib.hid CS
    clear C0 h1 CS h3
    go_enter Tryd.func8, Tryd.ntmps8
    go_wp2
    go_quiet (fail)
    go_wp2_with (first
      | (go_at_call 16; go_must (refine (H0.out _).mono ?_; rintro e w1 ⟨rfl, b1⟩; have e1 := (env_box2 hE _ _ _).below b1; obtain ⟨c1_0, c1_1, c1_2, c1_3, c1_4, c1_5⟩ := (At5.box2 w _ _ _ _ _ _ _ _).below b1; have s1 := (below_box2 w _ _ _).trans (b1.mono (below_box2 w _ _ _).size)))
      | (go_at_call 29; go_must (refine (HS.out _).mono ?_; rintro e w0 ⟨rfl, rfl⟩))
      | (go_at_call 17; go_must (refine (awake_any _ e1).mono ?_; rintro e w2 ⟨rfl, b2⟩)))
    go_returns
    exact ⟨rfl, s1.trans (b2.mono s1.size)⟩
  rw [h3] at CS
  by_cases h4 : a < 0
  · have H0 := Lib.hid C0
    have HS := Lib.hid CS
    clear C0 h1 CS h3
    go_enter Tryd.func8, Tryd.ntmps8
    go_wp2
    go_quiet (fail)
    go_wp2_with (first
      | (go_at_call 16; go_must (refine (H0.out _).mono ?_; rintro e w1 ⟨rfl, b1⟩; have e1 := (env_box2 hE _ _ _).below b1; obtain ⟨c1_0, c1_1, c1_2, c1_3, c1_4, c1_5⟩ := (At5.box2 w _ _ _ _ _ _ _ _).below b1; have s1 := (below_box2 w _ _ _).trans (b1.mono (below_box2 w _ _ _).size)))
      | (go_at_call 29; go_must (refine (HS.out _).mono ?_; rintro e w0 ⟨rfl, rfl⟩))
      | (go_at_call 17; go_must (refine (awake_any _ e1).mono ?_; rintro e w2 ⟨rfl, b2⟩)))
    go_returns
    exact ⟨rfl, s1.trans (b2.mono s1.size)⟩
  by_cases h5 : (s.size : Int) ≤ a
  · have H0 := Lib.hid C0
    have HS := Lib.hid CS
    clear C0 h1 CS h3
    go_enter Tryd.func8, Tryd.ntmps8
    go_wp2
    go_quiet (fail)
    go_wp2_with (first
      | (go_at_call 16; go_must (refine (H0.out _).mono ?_; rintro e w1 ⟨rfl, b1⟩; have e1 := (env_box2 hE _ _ _).below b1; obtain ⟨c1_0, c1_1, c1_2, c1_3, c1_4, c1_5⟩ := (At5.box2 w _ _ _ _ _ _ _ _).below b1; have s1 := (below_box2 w _ _ _).trans (b1.mono (below_box2 w _ _ _).size)))
      | (go_at_call 29; go_must (refine (HS.out _).mono ?_; rintro e w0 ⟨rfl, rfl⟩))
      | (go_at_call 17; go_must (refine (awake_any _ e1).mono ?_; rintro e w2 ⟨rfl, b2⟩)))
    go_returns
    exact ⟨rfl, s1.trans (b2.mono s1.size)⟩
  by_cases h6 : b < 0
  · have H0 := Lib.hid C0
    have HS := Lib.hid CS
    clear C0 h1 CS h3
    go_enter Tryd.func8, Tryd.ntmps8
    go_wp2
    go_quiet (fail)
    go_wp2_with (first
      | (go_at_call 16; go_must (refine (H0.out _).mono ?_; rintro e w1 ⟨rfl, b1⟩; have e1 := (env_box2 hE _ _ _).below b1; obtain ⟨c1_0, c1_1, c1_2, c1_3, c1_4, c1_5⟩ := (At5.box2 w _ _ _ _ _ _ _ _).below b1; have s1 := (below_box2 w _ _ _).trans (b1.mono (below_box2 w _ _ _).size)))
      | (go_at_call 29; go_must (refine (HS.out _).mono ?_; rintro e w0 ⟨rfl, rfl⟩))
      | (go_at_call 17; go_must (refine (awake_any _ e1).mono ?_; rintro e w2 ⟨rfl, b2⟩)))
    go_returns
    exact ⟨rfl, s1.trans (b2.mono s1.size)⟩
  obtain ⟨V, p, i, x, rfl, rfl, rfl, rfl, hV, hp, hi, hx, ho⟩ := rt_nat h1
  obtain ⟨a, rfl⟩ : ∃ k : Nat, a = k := ⟨a.toNat, by omega⟩
  obtain ⟨b, rfl⟩ : ∃ k : Nat, b = k := ⟨b.toNat, by omega⟩
  have hlen := size_len s
  have hbt := ob_mem h3
  have CF := fun w => flip_any s a b (V + 1) w hs (by omega) (by omega) (by omega)
  rw [show ((V + 1 : Nat) : Int) = (V : Int) + 1 by omega] at CF
  have C1 := fun w => bits_any ((V : Int) + 1) p i x R s w hs
  have C2 := fun w => bits_any ((V : Int) + 1) p i x R ⟨(fl a b (V + 1) s.data.toList).toArray⟩ w (by rw [size_mk, fl_length]; omega)
  obtain ⟨e1, e2⟩ := bi_ok (R := R) h1 h3 (by omega)
  have hfb : ob (fl a b (V + 1) s.data.toList) = true := by
    unfold ob; rw [List.all_eq_true]; exact fun y hy => (isBit_iff y).2 (fl_bits hbt y hy)
  obtain ⟨f1, f2⟩ := bi_ok (R := R) h1 hfb (by rw [fl_length]; omega)
  rw [toList_mk, f1, f2, crI_nat] at C2
  rw [e1, e2, crI_nat] at C1
  have hMN : (hits a b (V + 1) s.size = false → cr (V + 1) p i x R s.data.toList = cr (V + 1) p i x R (fl a b (V + 1) s.data.toList)) ∧ (hits a b (V + 1) s.size = true → cr (V + 1) p i x R s.data.toList ≠ cr (V + 1) p i x R (fl a b (V + 1) s.data.toList)) := by
    rw [hlen]
    refine ⟨fun h => by rw [fl_none h], fun h e => fl_some hbt h ?_⟩
    exact cr_burst (by omega) hp ho hi (fl_length _ _ _ _).symm hbt (fl_bits hbt) a (fun j g1 g2 hj => fl_same j g1 g2 hj) e
  unfold crV two at *
  generalize cr (V + 1) p i x R s.data.toList = M at *
  generalize cr (V + 1) p i x R (fl a b (V + 1) s.data.toList) = N at *
  generalize hits a b (V + 1) s.size = A at *
  generalize (⟨(fl a b (V + 1) s.data.toList).toArray⟩ : ByteArray) = T at *
  have H0 := Lib.hid C0; have HS := Lib.hid CS; have HF := Lib.hid CF; have H1 := Lib.hid C1; have H2 := Lib.hid C2
  clear C0 CS CF C1 C2 h1 h3 hlen hbt e1 e2 hfb f1 f2 hp hi hx ho
  have h7 : (a : Int) < (s.size : Int) := by omega
  cases A
  · obtain rfl := hMN.1 rfl
    clear hMN
    go_enter Tryd.func8, Tryd.ntmps8
    go_wp2
    go_quiet (fail)
    go_wp2_with (first
      | (go_at_call 16; go_must (refine (H0.out _).mono ?_; rintro e w1 ⟨rfl, b1⟩; have e1 := (env_box2 hE _ _ _).below b1; obtain ⟨c1_0, c1_1, c1_2, c1_3, c1_4, c1_5⟩ := (At5.box2 w _ _ _ _ _ _ _ _).below b1; have s1 := (below_box2 w _ _ _).trans (b1.mono (below_box2 w _ _ _).size)))
      | (go_at_call 29; go_must (refine (HS.out _).mono ?_; rintro e w0 ⟨rfl, rfl⟩))
      | (go_at_call 30; go_must (refine (HF.out _).mono ?_; rintro e w0 ⟨rfl, rfl⟩))
      | (go_at_call_of 18 (Value.string s); go_must (refine (H1.out _).mono ?_; rintro e w2 ⟨rfl, b2⟩; have e2 := e1.below b2; have s2 := s1.trans (b2.mono s1.size); obtain ⟨c2_0, c2_1, c2_2, c2_3, c2_4, c2_5⟩ := At5.below ⟨c1_0, c1_1, c1_2, c1_3, c1_4, c1_5⟩ b2))
      | (go_at_call_of 18 (Value.string T); go_must (refine (H2.out _).mono ?_; rintro e w3 ⟨rfl, b3⟩; have e3 := e2.below b3; have s3 := s2.trans (b3.mono s2.size)))
      | (go_at_call 17; go_must (refine (awake_any _ e3).mono ?_; rintro e w4 ⟨rfl, b4⟩)))
    go_returns
    exact ⟨rfl, s3.trans (b4.mono s3.size)⟩
  · have hne := hMN.2 rfl
    clear hMN
    have hn2 : (M : Int) ≠ (N : Int) := by omega
    have hn3 : ((M : Int) != (N : Int)) = true := by rw [bne_iff_ne]; exact hn2
    clear hne
    go_enter Tryd.func8, Tryd.ntmps8
    go_wp2
    go_quiet (fail)
    go_wp2_with (first
      | (go_at_call 16; go_must (refine (H0.out _).mono ?_; rintro e w1 ⟨rfl, b1⟩; have e1 := (env_box2 hE _ _ _).below b1; obtain ⟨c1_0, c1_1, c1_2, c1_3, c1_4, c1_5⟩ := (At5.box2 w _ _ _ _ _ _ _ _).below b1; have s1 := (below_box2 w _ _ _).trans (b1.mono (below_box2 w _ _ _).size)))
      | (go_at_call 29; go_must (refine (HS.out _).mono ?_; rintro e w0 ⟨rfl, rfl⟩))
      | (go_at_call 30; go_must (refine (HF.out _).mono ?_; rintro e w0 ⟨rfl, rfl⟩))
      | (go_at_call_of 18 (Value.string s); go_must (refine (H1.out _).mono ?_; rintro e w2 ⟨rfl, b2⟩; have e2 := e1.below b2; have s2 := s1.trans (b2.mono s1.size); obtain ⟨c2_0, c2_1, c2_2, c2_3, c2_4, c2_5⟩ := At5.below ⟨c1_0, c1_1, c1_2, c1_3, c1_4, c1_5⟩ b2))
      | (go_at_call_of 18 (Value.string T); go_must (refine (H2.out _).mono ?_; rintro e w3 ⟨rfl, b3⟩; have e3 := e2.below b3; have s3 := s2.trans (b3.mono s2.size)))
      | (go_at_call 17; go_must (refine (awake_any _ e3).mono ?_; rintro e w4 ⟨rfl, b4⟩)))
    go_returns
    exact ⟨rfl, s3.trans (b4.mono s3.size)⟩

end Go.Proofs.YtljbhbpddokelaaDoor
