/-
  The walk of the statement CheckLinear.
-/
import Derived.Test.YtljbhbpddokelaaDoorW13
import Derived.Test.YtljbhbpddokelaaDoorW15
import Derived.Deep.RegionHeld3
namespace Go.Proofs.YtljbhbpddokelaaDoor
open Go.RowKit
set_option linter.unusedVariables false
set_option linter.unusedSimpArgs false

/-- Three strings in a block. -/
def At3 (w : World) (b : Nat) (x y z : ByteArray) : Prop :=
  w.cell? ⟨b, 0, none⟩ = some (.string x) ∧ w.cell? ⟨b, 1, none⟩ = some (.string y) ∧ w.cell? ⟨b, 2, none⟩ = some (.string z) ∧ b < w.heap.size
theorem At3.new (w : World) (x y z : ByteArray) (T : TypeId) : At3 (w.alloc (.cells #[.string x, .string y, .string z] T)) w.heap.size x y z :=
  ⟨by go_simp, by go_simp, by go_simp, by rw [World.size_alloc]; omega⟩
theorem At3.below {w w' : World} {b : Nat} {x y z : ByteArray} (h : At3 w b x y z) (hb : Below w.heap.size w w') : At3 w' b x y z := by
  obtain ⟨h0, h1, h2, h5⟩ := h
  exact ⟨by rw [hb.cell h5]; exact h0, by rw [hb.cell h5]; exact h1, by rw [hb.cell h5]; exact h2, Nat.lt_of_lt_of_le h5 hb.size⟩
theorem At3.box2 (w : World) (x y z : ByteArray) (T : TypeId) (o : Obj) : At3 ((w.alloc o).alloc (.cells #[.string x, .string y, .string z] T)) (w.heap.size + 1) x y z := by
  have h := At3.new (w.alloc o) x y z T
  rwa [World.size_alloc] at h

theorem held8 {w0 w w' : World} {b : Nat} {W P I X : Int} {R : Bool} {x y z : ByteArray} (h : w.cell? ⟨b, 0, none⟩ = some (.int .i64 W) ∧ w.cell? ⟨b, 1, none⟩ = some (.int .i64 P) ∧ w.cell? ⟨b, 2, none⟩ = some (.int .i64 I) ∧ w.cell? ⟨b, 3, none⟩ = some (.int .i64 X) ∧ w.cell? ⟨b, 4, none⟩ = some (.bool R) ∧ w.cell? ⟨b + 1, 0, none⟩ = some (.string x) ∧ w.cell? ⟨b + 1, 1, none⟩ = some (.string y) ∧ w.cell? ⟨b + 1, 2, none⟩ = some (.string z) ∧ Env w ∧ Below w0.heap.size w0 w ∧ b + 1 < w.heap.size) (hb : Below w.heap.size w w') : w'.cell? ⟨b, 0, none⟩ = some (.int .i64 W) ∧ w'.cell? ⟨b, 1, none⟩ = some (.int .i64 P) ∧ w'.cell? ⟨b, 2, none⟩ = some (.int .i64 I) ∧ w'.cell? ⟨b, 3, none⟩ = some (.int .i64 X) ∧ w'.cell? ⟨b, 4, none⟩ = some (.bool R) ∧ w'.cell? ⟨b + 1, 0, none⟩ = some (.string x) ∧ w'.cell? ⟨b + 1, 1, none⟩ = some (.string y) ∧ w'.cell? ⟨b + 1, 2, none⟩ = some (.string z) ∧ Env w' ∧ Below w0.heap.size w0 w' ∧ b + 1 < w'.heap.size := by
  obtain ⟨h0, h1, h2, h3, h4, k0, k1, k2, he, hw, hl⟩ := h
  obtain ⟨g0, g1, g2, g3, g4, g5⟩ := At5.below ⟨h0, h1, h2, h3, h4, by omega⟩ hb
  obtain ⟨m0, m1, m2, m3⟩ := At3.below ⟨k0, k1, k2, hl⟩ hb
  exact ⟨g0, g1, g2, g3, g4, m0, m1, m2, he.below hb, hw.trans (hb.mono hw.size), m3⟩

set_option maxRecDepth 20000 in
set_option maxHeartbeats 2000000 in
theorem law_linear (W P I X : Int) (R : Bool) (a b c : ByteArray) (w : World) (hE : Env w) (ha : a.size ≤ 9223372036854775807) (hb : b.size ≤ 9223372036854775807) (hc : c.size ≤ 9223372036854775807) :
    Calls Tryd.prog 9 #[crV W P I X R, .agg #[.string a, .string b, .string c]] w fun e w' => e = .returned (.bool true) ∧ Below w.heap.size w w' := by
  have ha' : (a.size : Int) ≤ 9223372036854775807 := by omega
  have hb' : (b.size : Int) ≤ 9223372036854775807 := by omega
  have hc' : (c.size : Int) ≤ 9223372036854775807 := by omega
  have C0 := fun w => rright_any W P I X R w
  unfold crV at C0 ⊢
  rcases h1 : rt W P I X with _ | _
  · rw [h1] at C0
    have H0 := Lib.hid C0
    clear C0 h1
    go_enter Tryd.func9, Tryd.ntmps9
    go_wp2_with (first
      | (go_at_call 16; go_must (refine (H0.out _).mono ?_; rintro e w1 ⟨rfl, b1⟩; have e1 := ((hE.below (ba w _)).below (ba _ _)).below b1; obtain ⟨c1_0, c1_1, c1_2, c1_3, c1_4, c1_5⟩ := ((At5.new w _ _ _ _ _ _).below (ba _ _)).below b1; obtain ⟨d1_0, d1_1, d1_2, d1_3⟩ := (At3.box2 w _ _ _ _ _).below b1; have s1 := (((Below.refl _ _).alloc (Nat.le_refl _) _).alloc (le_alloc (Nat.le_refl _) _) _).trans (b1.mono (le_alloc (le_alloc (Nat.le_refl _) _) _))))
      | (go_at_call 17; go_must (refine (awake_any _ e1).mono ?_; rintro e w2 ⟨rfl, b2⟩)))
    go_returns
    exact ⟨rfl, s1.trans (b2.mono s1.size)⟩
  rw [h1] at C0
  by_cases h2 : 200 < a.size
  · have H0 := Lib.hid C0
    clear C0 h1
    go_enter Tryd.func9, Tryd.ntmps9
    go_wp2_with (first
      | (go_at_call 16; go_must (refine (H0.out _).mono ?_; rintro e w1 ⟨rfl, b1⟩; have e1 := ((hE.below (ba w _)).below (ba _ _)).below b1; obtain ⟨c1_0, c1_1, c1_2, c1_3, c1_4, c1_5⟩ := ((At5.new w _ _ _ _ _ _).below (ba _ _)).below b1; obtain ⟨d1_0, d1_1, d1_2, d1_3⟩ := (At3.box2 w _ _ _ _ _).below b1; have s1 := (((Below.refl _ _).alloc (Nat.le_refl _) _).alloc (le_alloc (Nat.le_refl _) _) _).trans (b1.mono (le_alloc (le_alloc (Nat.le_refl _) _) _))))
      | (go_at_call 17; go_must (refine (awake_any _ e1).mono ?_; rintro e w2 ⟨rfl, b2⟩)))
    go_returns
    exact ⟨rfl, s1.trans (b2.mono s1.size)⟩
  by_cases h3 : ¬ a.size = b.size
  · have H0 := Lib.hid C0
    have g3 : ((a.size : Int) != (b.size : Int)) = true := by rw [bne_iff_ne]; omega
    clear C0 h1
    go_enter Tryd.func9, Tryd.ntmps9
    go_wp2_with (first
      | (go_at_call 16; go_must (refine (H0.out _).mono ?_; rintro e w1 ⟨rfl, b1⟩; have e1 := ((hE.below (ba w _)).below (ba _ _)).below b1; obtain ⟨c1_0, c1_1, c1_2, c1_3, c1_4, c1_5⟩ := ((At5.new w _ _ _ _ _ _).below (ba _ _)).below b1; obtain ⟨d1_0, d1_1, d1_2, d1_3⟩ := (At3.box2 w _ _ _ _ _).below b1; have s1 := (((Below.refl _ _).alloc (Nat.le_refl _) _).alloc (le_alloc (Nat.le_refl _) _) _).trans (b1.mono (le_alloc (le_alloc (Nat.le_refl _) _) _))))
      | (go_at_call 17; go_must (refine (awake_any _ e1).mono ?_; rintro e w2 ⟨rfl, b2⟩)))
    go_returns
    exact ⟨rfl, s1.trans (b2.mono s1.size)⟩
  have h3 := Classical.not_not.1 h3
  by_cases h4 : ¬ a.size = c.size
  · have H0 := Lib.hid C0
    have g4 : ((a.size : Int) != (c.size : Int)) = true := by rw [bne_iff_ne]; omega
    clear C0 h1
    go_enter Tryd.func9, Tryd.ntmps9
    go_wp2_with (first
      | (go_at_call 16; go_must (refine (H0.out _).mono ?_; rintro e w1 ⟨rfl, b1⟩; have e1 := ((hE.below (ba w _)).below (ba _ _)).below b1; obtain ⟨c1_0, c1_1, c1_2, c1_3, c1_4, c1_5⟩ := ((At5.new w _ _ _ _ _ _).below (ba _ _)).below b1; obtain ⟨d1_0, d1_1, d1_2, d1_3⟩ := (At3.box2 w _ _ _ _ _).below b1; have s1 := (((Below.refl _ _).alloc (Nat.le_refl _) _).alloc (le_alloc (Nat.le_refl _) _) _).trans (b1.mono (le_alloc (le_alloc (Nat.le_refl _) _) _))))
      | (go_at_call 17; go_must (refine (awake_any _ e1).mono ?_; rintro e w2 ⟨rfl, b2⟩)))
    go_returns
    exact ⟨rfl, s1.trans (b2.mono s1.size)⟩
  have h4 := Classical.not_not.1 h4
  have CA := fun w => sound_any a w (by omega)
  have CB := fun w => sound_any b w (by omega)
  have CC := fun w => sound_any c w (by omega)
  rcases h5 : ob a.data.toList with _ | _
  · rw [h5] at CA
    have H0 := Lib.hid C0; have HA := Lib.hid CA; have HB := Lib.hid CB; have HC := Lib.hid CC
    have g3 : (b.size : Int) = (a.size : Int) := by omega
    have g4 : (c.size : Int) = (a.size : Int) := by omega
    clear C0 h1 CA CB CC h5
    go_enter Tryd.func9, Tryd.ntmps9
    go_wp2_with (first
      | (go_at_call 16; go_must (refine (H0.out _).mono ?_; rintro e w1 ⟨rfl, b1⟩; have e1 := ((hE.below (ba w _)).below (ba _ _)).below b1; obtain ⟨c1_0, c1_1, c1_2, c1_3, c1_4, c1_5⟩ := ((At5.new w _ _ _ _ _ _).below (ba _ _)).below b1; obtain ⟨d1_0, d1_1, d1_2, d1_3⟩ := (At3.box2 w _ _ _ _ _).below b1; have s1 := (((Below.refl _ _).alloc (Nat.le_refl _) _).alloc (le_alloc (Nat.le_refl _) _) _).trans (b1.mono (le_alloc (le_alloc (Nat.le_refl _) _) _))))
      | (go_at_call_of 29 (Value.string a); go_must (refine (HA.out _).mono ?_; rintro e w0 ⟨rfl, rfl⟩))
      | (go_at_call_of 29 (Value.string b); go_must (refine (HB.out _).mono ?_; rintro e w0 ⟨rfl, rfl⟩))
      | (go_at_call_of 29 (Value.string c); go_must (refine (HC.out _).mono ?_; rintro e w0 ⟨rfl, rfl⟩))
      | (go_at_call 17; go_must (refine (awake_any _ e1).mono ?_; rintro e w2 ⟨rfl, b2⟩)))
    go_returns
    exact ⟨rfl, s1.trans (b2.mono s1.size)⟩
  rw [h5] at CA
  rcases h6 : ob b.data.toList with _ | _
  · rw [h6] at CB
    have H0 := Lib.hid C0; have HA := Lib.hid CA; have HB := Lib.hid CB; have HC := Lib.hid CC
    have g3 : (b.size : Int) = (a.size : Int) := by omega
    have g4 : (c.size : Int) = (a.size : Int) := by omega
    clear C0 h1 CA CB CC h5 h6
    go_enter Tryd.func9, Tryd.ntmps9
    go_wp2_with (first
      | (go_at_call 16; go_must (refine (H0.out _).mono ?_; rintro e w1 ⟨rfl, b1⟩; have e1 := ((hE.below (ba w _)).below (ba _ _)).below b1; obtain ⟨c1_0, c1_1, c1_2, c1_3, c1_4, c1_5⟩ := ((At5.new w _ _ _ _ _ _).below (ba _ _)).below b1; obtain ⟨d1_0, d1_1, d1_2, d1_3⟩ := (At3.box2 w _ _ _ _ _).below b1; have s1 := (((Below.refl _ _).alloc (Nat.le_refl _) _).alloc (le_alloc (Nat.le_refl _) _) _).trans (b1.mono (le_alloc (le_alloc (Nat.le_refl _) _) _))))
      | (go_at_call_of 29 (Value.string a); go_must (refine (HA.out _).mono ?_; rintro e w0 ⟨rfl, rfl⟩))
      | (go_at_call_of 29 (Value.string b); go_must (refine (HB.out _).mono ?_; rintro e w0 ⟨rfl, rfl⟩))
      | (go_at_call_of 29 (Value.string c); go_must (refine (HC.out _).mono ?_; rintro e w0 ⟨rfl, rfl⟩))
      | (go_at_call 17; go_must (refine (awake_any _ e1).mono ?_; rintro e w2 ⟨rfl, b2⟩)))
    go_returns
    exact ⟨rfl, s1.trans (b2.mono s1.size)⟩
  rw [h6] at CB
  rcases h7 : ob c.data.toList with _ | _
  · rw [h7] at CC
    have H0 := Lib.hid C0; have HA := Lib.hid CA; have HB := Lib.hid CB; have HC := Lib.hid CC
    have g3 : (b.size : Int) = (a.size : Int) := by omega
    have g4 : (c.size : Int) = (a.size : Int) := by omega
    clear C0 h1 CA CB CC h5 h6 h7
    go_enter Tryd.func9, Tryd.ntmps9
    go_wp2_with (first
      | (go_at_call 16; go_must (refine (H0.out _).mono ?_; rintro e w1 ⟨rfl, b1⟩; have e1 := ((hE.below (ba w _)).below (ba _ _)).below b1; obtain ⟨c1_0, c1_1, c1_2, c1_3, c1_4, c1_5⟩ := ((At5.new w _ _ _ _ _ _).below (ba _ _)).below b1; obtain ⟨d1_0, d1_1, d1_2, d1_3⟩ := (At3.box2 w _ _ _ _ _).below b1; have s1 := (((Below.refl _ _).alloc (Nat.le_refl _) _).alloc (le_alloc (Nat.le_refl _) _) _).trans (b1.mono (le_alloc (le_alloc (Nat.le_refl _) _) _))))
      | (go_at_call_of 29 (Value.string a); go_must (refine (HA.out _).mono ?_; rintro e w0 ⟨rfl, rfl⟩))
      | (go_at_call_of 29 (Value.string b); go_must (refine (HB.out _).mono ?_; rintro e w0 ⟨rfl, rfl⟩))
      | (go_at_call_of 29 (Value.string c); go_must (refine (HC.out _).mono ?_; rintro e w0 ⟨rfl, rfl⟩))
      | (go_at_call 17; go_must (refine (awake_any _ e1).mono ?_; rintro e w2 ⟨rfl, b2⟩)))
    go_returns
    exact ⟨rfl, s1.trans (b2.mono s1.size)⟩
  rw [h7] at CC
  obtain ⟨V, p, i, x, rfl, rfl, rfl, rfl, hV, hp, hi, hx, ho⟩ := rt_nat h1
  have la := size_len a
  have lb := size_len b
  have lc := size_len c
  have CM := fun w => mixed_any a b c w (by omega) h3.symm h4.symm h5 h6 h7
  have mb := mx_bits a.data.toList b.data.toList c.data.toList
  have mo : ob (mx a.data.toList b.data.toList c.data.toList) = true := by
    unfold ob; rw [List.all_eq_true]; exact fun y hy => (isBit_iff y).2 (mb y hy)
  have C1 := fun w => bits_any ((V : Int) + 1) p i x R a w (by omega)
  have C2 := fun w => bits_any ((V : Int) + 1) p i x R b w (by omega)
  have C3 := fun w => bits_any ((V : Int) + 1) p i x R c w (by omega)
  have C4 := fun w => bits_any ((V : Int) + 1) p i x R ⟨(mx a.data.toList b.data.toList c.data.toList).toArray⟩ w (by rw [size_mk, mx_length]; omega)
  obtain ⟨e1, f1⟩ := bi_ok (R := R) h1 h5 (by omega)
  obtain ⟨e2, f2⟩ := bi_ok (R := R) h1 h6 (by omega)
  obtain ⟨e3, f3⟩ := bi_ok (R := R) h1 h7 (by omega)
  obtain ⟨e4, f4⟩ := bi_ok (R := R) h1 mo (by rw [mx_length]; omega)
  rw [e1, f1, crI_nat] at C1
  rw [e2, f2, crI_nat] at C2
  rw [e3, f3, crI_nat] at C3
  rw [toList_mk, e4, f4, crI_nat, cr_three (by omega) hp hi (by omega) (by omega) (ob_mem h5) (ob_mem h6) (ob_mem h7) (bs_mx (by omega) (by omega) (ob_mem h5) (ob_mem h6) (ob_mem h7))] at C4
  have k1 := lt32 hV (cr_lt (R := R) a.data.toList hp hi hx)
  have k2 := lt32 hV (cr_lt (R := R) b.data.toList hp hi hx)
  have k3 := lt32 hV (cr_lt (R := R) c.data.toList hp hi hx)
  unfold crV two at *
  generalize cr (V + 1) p i x R a.data.toList = K at *
  generalize cr (V + 1) p i x R b.data.toList = M at *
  generalize cr (V + 1) p i x R c.data.toList = N at *
  have x1 := xor_i64 K M (by omega) (by omega)
  have k4 : K ^^^ M < 4294967296 := Nat.xor_lt_two_pow (n := 32) k1 k2
  have x2 := xor_i64 (K ^^^ M) N (by omega) (by omega)
  generalize K ^^^ M = KM at *
  generalize KM ^^^ N = Z at *
  generalize (⟨(mx a.data.toList b.data.toList c.data.toList).toArray⟩ : ByteArray) = T at *
  have H0 := Lib.hid C0; have HA := Lib.hid CA; have HB := Lib.hid CB; have HC := Lib.hid CC; have HM := Lib.hid CM; have H1 := Lib.hid C1; have H2 := Lib.hid C2; have H3 := Lib.hid C3; have H4 := Lib.hid C4
  have g3 : (b.size : Int) = (a.size : Int) := by omega
  have g4 : (c.size : Int) = (a.size : Int) := by omega
  clear C0 CA CB CC CM C1 C2 C3 C4 h1 h5 h6 h7 la lb lc mb mo e1 f1 e2 f2 e3 f3 e4 f4 hp hi hx ho k1 k2 k3 k4
  go_enter Tryd.func9, Tryd.ntmps9
  go_wp2_with (first
    | (go_at_call 16; go_must (refine (H0.out _).mono ?_; rintro e w1 ⟨rfl, b1⟩; have e1 := ((hE.below (ba w _)).below (ba _ _)).below b1; obtain ⟨c1_0, c1_1, c1_2, c1_3, c1_4, c1_5⟩ := ((At5.new w _ _ _ _ _ _).below (ba _ _)).below b1; obtain ⟨d1_0, d1_1, d1_2, d1_3⟩ := (At3.box2 w _ _ _ _ _).below b1; have s1 := (((Below.refl _ _).alloc (Nat.le_refl _) _).alloc (le_alloc (Nat.le_refl _) _) _).trans (b1.mono (le_alloc (le_alloc (Nat.le_refl _) _) _))))
    | (go_at_call_of 29 (Value.string a); go_must (refine (HA.out _).mono ?_; rintro e w0 ⟨rfl, rfl⟩))
    | (go_at_call_of 29 (Value.string b); go_must (refine (HB.out _).mono ?_; rintro e w0 ⟨rfl, rfl⟩))
    | (go_at_call_of 29 (Value.string c); go_must (refine (HC.out _).mono ?_; rintro e w0 ⟨rfl, rfl⟩))
    | (go_at_call_of 18 (Value.string a); go_must (refine (H1.out _).mono ?_; rintro e w2 ⟨rfl, b2⟩; have e2 := e1.below b2; have s2 := s1.trans (b2.mono s1.size); obtain ⟨c2_0, c2_1, c2_2, c2_3, c2_4, c2_5⟩ := At5.below ⟨c1_0, c1_1, c1_2, c1_3, c1_4, c1_5⟩ b2; obtain ⟨d2_0, d2_1, d2_2, d2_3⟩ := At3.below ⟨d1_0, d1_1, d1_2, d1_3⟩ b2))
    | (go_at_call_of 18 (Value.string b); go_must (refine (H2.out _).mono ?_; rintro e w3 ⟨rfl, b3⟩; have e3 := e2.below b3; have s3 := s2.trans (b3.mono s2.size); obtain ⟨c3_0, c3_1, c3_2, c3_3, c3_4, c3_5⟩ := At5.below ⟨c2_0, c2_1, c2_2, c2_3, c2_4, c2_5⟩ b3; obtain ⟨d3_0, d3_1, d3_2, d3_3⟩ := At3.below ⟨d2_0, d2_1, d2_2, d2_3⟩ b3))
    | (go_at_call_of 18 (Value.string c); go_must (refine (H3.out _).mono ?_; rintro e w4 ⟨rfl, b4⟩; have e4 := e3.below b4; have s4 := s3.trans (b4.mono s3.size); obtain ⟨c4_0, c4_1, c4_2, c4_3, c4_4, c4_5⟩ := At5.below ⟨c3_0, c3_1, c3_2, c3_3, c3_4, c3_5⟩ b4; obtain ⟨d4_0, d4_1, d4_2, d4_3⟩ := At3.below ⟨d3_0, d3_1, d3_2, d3_3⟩ b4)))
  have hS := s4.drew
  have hEd : Env w4.drew := e4
  go_region_held3 (fun w' => w'.cell? ⟨w.heap.size, 0, none⟩ = some (.int .i64 ((V : Int) + 1)) ∧ w'.cell? ⟨w.heap.size, 1, none⟩ = some (.int .i64 p) ∧ w'.cell? ⟨w.heap.size, 2, none⟩ = some (.int .i64 i) ∧ w'.cell? ⟨w.heap.size, 3, none⟩ = some (.int .i64 x) ∧ w'.cell? ⟨w.heap.size, 4, none⟩ = some (.bool R) ∧ w'.cell? ⟨w.heap.size + 1, 0, none⟩ = some (.string a) ∧ w'.cell? ⟨w.heap.size + 1, 1, none⟩ = some (.string b) ∧ w'.cell? ⟨w.heap.size + 1, 2, none⟩ = some (.string c) ∧ Env w' ∧ Below w.heap.size w w' ∧ w.heap.size + 1 < w'.heap.size) (first | exact ⟨c4_0, c4_1, c4_2, c4_3, c4_4, d4_0, d4_1, d4_2, hEd, hS, d4_3⟩ | assumption | go_keep)
    (first
      | (go_at_call 31; refine (HM.out _).mono ?_; rintro e w6 ⟨rfl, b6⟩; have h6 := held8 (by assumption) b6)
      | (go_at_call_of 18 (Value.string T); refine (H4.out _).mono ?_; rintro e w7 ⟨rfl, b7⟩; have h7 := held8 (by assumption) b7))
  all_goals (rename_i hh; have e7 : Env _ := hh.2.2.2.2.2.2.2.2.1; have s7 := hh.2.2.2.2.2.2.2.2.2.1; clear hh)
  all_goals go_wp2_with (first
    | (go_at_call 17; go_must (refine (awake_any _ e7).mono ?_; rintro e w8 ⟨rfl, b8⟩)))
  all_goals go_returns
  all_goals exact ⟨rfl, s7.trans (b8.mono s7.size)⟩

end Go.Proofs.YtljbhbpddokelaaDoor
