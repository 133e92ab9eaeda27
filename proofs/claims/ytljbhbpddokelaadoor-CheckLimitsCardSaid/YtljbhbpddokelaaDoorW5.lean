/-
  The walks of fits and Right, the program's and the specification's; a description among a function's arguments.
-/
import Derived.Test.YtljbhbpddokelaaDoorM4
import Derived.Test.YtljbhbpddokelaaDoorB1
namespace Go.Proofs.YtljbhbpddokelaaDoor
open Go.RowKit
set_option linter.unusedVariables false
set_option linter.unusedSimpArgs false

/-- A description as the model holds it. -/
def crV (W P I X : Int) (R : Bool) : Value := .agg #[.int .i64 W, .int .i64 P, .int .i64 I, .int .i64 X, .bool R]
/-- Five cells of a block. -/
def At5 (w : World) (b : Nat) (W P I X : Int) (R : Bool) : Prop :=
  w.cell? ⟨b, 0, none⟩ = some (.int .i64 W) ∧ w.cell? ⟨b, 1, none⟩ = some (.int .i64 P) ∧ w.cell? ⟨b, 2, none⟩ = some (.int .i64 I) ∧ w.cell? ⟨b, 3, none⟩ = some (.int .i64 X) ∧ w.cell? ⟨b, 4, none⟩ = some (.bool R) ∧ b < w.heap.size
theorem At5.new (w : World) (W P I X : Int) (R : Bool) (T : TypeId) : At5 (w.alloc (.cells #[.int .i64 W, .int .i64 P, .int .i64 I, .int .i64 X, .bool R] T)) w.heap.size W P I X R :=
  ⟨by go_simp, by go_simp, by go_simp, by go_simp, by go_simp, by rw [World.size_alloc]; omega⟩
theorem At5.below {w w' : World} {b : Nat} {W P I X : Int} {R : Bool} (h : At5 w b W P I X R) (hb : Below w.heap.size w w') : At5 w' b W P I X R := by
  obtain ⟨h0, h1, h2, h3, h4, h5⟩ := h
  exact ⟨by rw [hb.cell h5]; exact h0, by rw [hb.cell h5]; exact h1, by rw [hb.cell h5]; exact h2, by rw [hb.cell h5]; exact h3, by rw [hb.cell h5]; exact h4, Nat.lt_of_lt_of_le h5 hb.size⟩

/-- A number of so many bits. -/
def ft (n W : Int) : Bool := decide (0 ≤ n ∧ n < 2 ^ W.toNat)
/-- A valid description. -/
def rt (W P I X : Int) : Bool := decide (1 ≤ W ∧ W ≤ 32) && ft P W && ft I W && ft X W && decide (P % 2 = 1)

theorem shl_1 {V : Nat} (h : V ≤ 62) : wrap64 (2 ^ V) = ((2 ^ V : Nat) : Int) ∧ 1 ≤ 2 ^ V ∧ 2 ^ V ≤ 4611686018427387904 := by
  have h2 : 2 ^ V ≤ 2 ^ 62 := Nat.pow_le_pow_right (by omega) h
  have h0 : 1 ≤ 2 ^ V := Nat.two_pow_pos V
  have h1 : (2 : Int) ^ V = ((2 ^ V : Nat) : Int) := by simp
  refine ⟨?_, h0, h2⟩
  rw [h1]
  generalize 2 ^ V = P at *
  unfold wrap64
  omega
theorem ft_nat (n : Int) (V : Nat) : ft n V = decide (0 ≤ n ∧ n < ((2 ^ V : Nat) : Int)) := by
  unfold ft; simp

set_option maxHeartbeats 1000000 in
theorem fits_any (n : Int) (V : Nat) (w : World) (hV : V ≤ 32) :
    Calls Tryd.prog 33 #[.int .i64 n, .int .i64 V] w fun e w' => e = .returned (.bool (ft n V)) ∧ w = w' := by
  obtain ⟨hw, hp0, hp1⟩ := shl_1 (V := V) (by omega)
  rw [ft_nat]
  generalize 2 ^ V = P at *
  go_enter Tryd.func33, Tryd.ntmps33
  go_wp2
  all_goals
    go_returns
    exact ⟨ret_bool (by first | rfl | (simp; omega) | (simp [*])), rfl⟩

theorem odd_tmod {P : Int} (h : 0 ≤ P) : Int.tmod P 2 = P % 2 := Int.tmod_eq_emod_of_nonneg h

set_option maxRecDepth 20000 in
set_option maxHeartbeats 1000000 in
theorem right_any (W P I X : Int) (R : Bool) (w : World) :
    Calls Tryd.prog 15 #[crV W P I X R] w fun e w' => e = .returned (.bool (rt W P I X)) ∧ Below w.heap.size w w' := by
  unfold crV
  by_cases h0 : W < 1
  · rw [show rt W P I X = false by unfold rt; rw [decide_eq_false (by omega)]; rfl]
    go_enter Tryd.func15, Tryd.ntmps15
    go_wp2
    go_returns
    exact ⟨rfl, ba w _⟩
  by_cases h1 : 32 < W
  · rw [show rt W P I X = false by unfold rt; rw [decide_eq_false (by omega)]; rfl]
    go_enter Tryd.func15, Tryd.ntmps15
    go_wp2
    go_returns
    exact ⟨rfl, ba w _⟩
  obtain ⟨V, rfl⟩ : ∃ V : Nat, W = V := ⟨W.toNat, by omega⟩
  have hV : V ≤ 32 := by omega
  have C1 := fun w => fits_any P V w hV
  have C2 := fun w => fits_any I V w hV
  have C3 := fun w => fits_any X V w hV
  have hodd : ft P V = true → Int.tmod P 2 = P % 2 := fun h => odd_tmod (by rw [ft_nat] at h; simp at h; omega)
  have hr : rt V P I X = (ft P V && ft I V && ft X V && decide (P % 2 = 1)) := by
    unfold rt; rw [decide_eq_true (by omega), Bool.true_and]
  rw [hr]
  clear hr
  generalize ft P V = a at *
  generalize ft I V = b at *
  generalize ft X V = c at *
  have H1 := Lib.hid C1; have H2 := Lib.hid C2; have H3 := Lib.hid C3
  clear C1 C2 C3
  cases a
  · clear hodd
    go_enter Tryd.func15, Tryd.ntmps15
    go_wp2_with (first
          | (go_at_call_of 33 (Value.int .i64 P); go_must (refine (H1.out _).mono ?_; rintro e w1 ⟨rfl, rfl⟩))
          | (go_at_call_of 33 (Value.int .i64 I); go_must (refine (H2.out _).mono ?_; rintro e w1 ⟨rfl, rfl⟩))
          | (go_at_call_of 33 (Value.int .i64 X); go_must (refine (H3.out _).mono ?_; rintro e w1 ⟨rfl, rfl⟩)))
    go_returns
    exact ⟨ret_bool (by simp), ba w _⟩
  have hodd := hodd rfl
  cases b
  · go_enter Tryd.func15, Tryd.ntmps15
    go_wp2_with (first
          | (go_at_call_of 33 (Value.int .i64 P); go_must (refine (H1.out _).mono ?_; rintro e w1 ⟨rfl, rfl⟩))
          | (go_at_call_of 33 (Value.int .i64 I); go_must (refine (H2.out _).mono ?_; rintro e w1 ⟨rfl, rfl⟩))
          | (go_at_call_of 33 (Value.int .i64 X); go_must (refine (H3.out _).mono ?_; rintro e w1 ⟨rfl, rfl⟩)))
    go_returns
    exact ⟨ret_bool (by simp), ba w _⟩
  cases c
  · go_enter Tryd.func15, Tryd.ntmps15
    go_wp2_with (first
          | (go_at_call_of 33 (Value.int .i64 P); go_must (refine (H1.out _).mono ?_; rintro e w1 ⟨rfl, rfl⟩))
          | (go_at_call_of 33 (Value.int .i64 I); go_must (refine (H2.out _).mono ?_; rintro e w1 ⟨rfl, rfl⟩))
          | (go_at_call_of 33 (Value.int .i64 X); go_must (refine (H3.out _).mono ?_; rintro e w1 ⟨rfl, rfl⟩)))
    go_returns
    exact ⟨ret_bool (by simp), ba w _⟩
  go_enter Tryd.func15, Tryd.ntmps15
  go_wp2_with (first
        | (go_at_call_of 33 (Value.int .i64 P); go_must (refine (H1.out _).mono ?_; rintro e w1 ⟨rfl, rfl⟩))
        | (go_at_call_of 33 (Value.int .i64 I); go_must (refine (H2.out _).mono ?_; rintro e w1 ⟨rfl, rfl⟩))
        | (go_at_call_of 33 (Value.int .i64 X); go_must (refine (H3.out _).mono ?_; rintro e w1 ⟨rfl, rfl⟩)))
  all_goals
    go_returns
    exact ⟨ret_bool (by simp only [hodd, Bool.true_and]; rfl), ba w _⟩

set_option maxRecDepth 20000 in
set_option maxHeartbeats 2000000 in
theorem rright_any (W P I X : Int) (R : Bool) (w : World) :
    Calls Tryd.prog 16 #[crV W P I X R] w fun e w' => e = .returned (.bool (rt W P I X)) ∧ Below w.heap.size w w' := by
  unfold crV
  by_cases h0 : W < 1
  · rw [show rt W P I X = false by unfold rt; rw [decide_eq_false (by omega)]; rfl]
    go_enter Tryd.func16, Tryd.ntmps16
    go_wp2
    go_returns
    exact ⟨rfl, ba w _⟩
  by_cases h1 : 32 < W
  · rw [show rt W P I X = false by unfold rt; rw [decide_eq_false (by omega)]; rfl]
    go_enter Tryd.func16, Tryd.ntmps16
    go_wp2
    go_returns
    exact ⟨rfl, ba w _⟩
  obtain ⟨V, rfl⟩ : ∃ V : Nat, W = V := ⟨W.toNat, by omega⟩
  obtain ⟨hw, hp0, hp1⟩ := shl_1 (V := V) (by omega)
  have hr : rt V P I X = (ft P V && ft I V && ft X V && decide (P % 2 = 1)) := by
    unfold rt; rw [decide_eq_true (by omega), Bool.true_and]
  rw [hr, ft_nat, ft_nat, ft_nat]
  clear hr
  obtain ⟨M, hM⟩ : ∃ M, 2 ^ V = M := ⟨_, rfl⟩
  rw [hM] at hw hp0 hp1 ⊢
  clear hM
  have no : ∀ (a b c d : Bool), (a = false ∨ b = false ∨ c = false) → (a && b && c && d) = false := by decide
  have yes : ∀ (a b c d : Bool), a = true → b = true → c = true → (a && b && c && d) = d := by decide
  by_cases a0 : P < 0
  · rw [no _ _ _ _ (.inl (decide_eq_false (by omega)))]
    go_enter Tryd.func16, Tryd.ntmps16
    go_wp2
    go_returns
    exact ⟨rfl, ba w _⟩
  by_cases a1 : (M : Int) ≤ P
  · rw [no _ _ _ _ (.inl (decide_eq_false (by omega)))]
    go_enter Tryd.func16, Tryd.ntmps16
    go_wp2
    go_returns
    exact ⟨rfl, ba w _⟩
  by_cases b0 : I < 0
  · rw [no _ _ _ _ (.inr (.inl (decide_eq_false (by omega))))]
    go_enter Tryd.func16, Tryd.ntmps16
    go_wp2
    go_returns
    exact ⟨rfl, ba w _⟩
  by_cases b1 : (M : Int) ≤ I
  · rw [no _ _ _ _ (.inr (.inl (decide_eq_false (by omega))))]
    go_enter Tryd.func16, Tryd.ntmps16
    go_wp2
    go_returns
    exact ⟨rfl, ba w _⟩
  by_cases c0 : X < 0
  · rw [no _ _ _ _ (.inr (.inr (decide_eq_false (by omega))))]
    go_enter Tryd.func16, Tryd.ntmps16
    go_wp2
    go_returns
    exact ⟨rfl, ba w _⟩
  by_cases c1 : (M : Int) ≤ X
  · rw [no _ _ _ _ (.inr (.inr (decide_eq_false (by omega))))]
    go_enter Tryd.func16, Tryd.ntmps16
    go_wp2
    go_returns
    exact ⟨rfl, ba w _⟩
  rw [yes _ _ _ _ (decide_eq_true (by omega)) (decide_eq_true (by omega)) (decide_eq_true (by omega))]
  have hodd := odd_tmod (P := P) (by omega)
  clear no yes
  go_enter Tryd.func16, Tryd.ntmps16
  go_wp2
  all_goals
    go_returns
    exact ⟨ret_bool (by first | (simp only [hodd]; rfl) | rfl), ba w _⟩

end Go.Proofs.YtljbhbpddokelaaDoor
