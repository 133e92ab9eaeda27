/-
  The walks of the specification's Common, and of Meets.
-/
import Derived.Test.YtpeiiomimfiebaaW1
namespace Go.Proofs.Ytpeiiomimfiebaa
open Go Go.RowKit Go.Joins
set_option linter.unusedVariables false
set_option linter.unusedSimpArgs false

set_option maxRecDepth 20000 in
set_option maxHeartbeats 1000000 in
theorem refCommon_xy (x y u z : Int) (w : World) : Calls Try.prog 11 #[.agg #[.int .i64 x, .int .i64 y], .agg #[.int .i64 u, .int .i64 z]] w fun e w' => e = .returned (prV (cm (x, y) (u, z))) ∧ Below w.heap.size w w' := by
  have C1 := Lib.hid refValid_xy
  obtain ⟨p, hp, hp1, hp2⟩ : ∃ p, max x u = p ∧ (x < u → p = u) ∧ (¬ x < u → p = x) := ⟨max x u, rfl, by omega, by omega⟩
  obtain ⟨q, hq, hq1, hq2⟩ : ∃ q, min y z = q ∧ (z < y → q = z) ∧ (¬ z < y → q = y) := ⟨min y z, rfl, by omega, by omega⟩
  have N1 := cm_no (x, y) (u, z); have Y1 := cm_yes (x, y) (u, z)
  simp only [hp, hq] at N1 Y1
  have fin : ∀ r, cm (x, y) (u, z) = r → Calls Try.prog 11 #[.agg #[.int .i64 x, .int .i64 y], .agg #[.int .i64 u, .int .i64 z]] w (fun e w' => e = .returned (prV r) ∧ Below w.heap.size w w') → Calls Try.prog 11 #[.agg #[.int .i64 x, .int .i64 y], .agg #[.int .i64 u, .int .i64 z]] w fun e w' => e = .returned (prV (cm (x, y) (u, z))) ∧ Below w.heap.size w w' := fun r h hc => by rw [h]; exact hc
  clear hp hq
  by_cases hx : x < u <;> by_cases hz : z < y
  · obtain rfl := (hp1 hx).symm
    obtain rfl := (hq1 hz).symm
    clear hp1 hp2 hq1 hq2
    cases h1 : vl (x, y) with
    | false =>
      refine fin _ (N1 (.inl h1)) ?_
      clear fin N1 Y1
      go_enter Try.func11, Try.ntmps11
      go_wp2_with (first
        | (go_at_call 13; go_must (refine (C1.out _ _ _).mono ?_; rintro e1 w1 ⟨rfl, rfl⟩)))
      all_goals
        go_returns
        exact ⟨by first | rfl | simp [prV, spV, spC, *] | (simp [prV, spV, spC]; omega), (by repeat' (first | with_reducible exact Below.refl _ _ | with_reducible exact Nat.le_refl _ | with_reducible assumption | with_reducible refine below_drewN ?_ _ | with_reducible refine Below.drew ?_ | with_reducible refine Below.trans ?_ (Below.mono (by assumption) ?_) | with_reducible refine Below.alloc ?_ ?_ _ | with_reducible refine Below.setCell ?_ ?_ _ | with_reducible refine le_setCell ?_ _ _ | with_reducible refine le_alloc ?_ _ | with_reducible refine le_drewN ?_ _ | with_reducible refine le_drew ?_ | with_reducible refine Nat.le_trans ?_ (Below.size (by assumption)) | (simp only [World.size_alloc, World.size_setCell]; omega)))⟩
    | true =>
    cases h2 : vl (u, z) with
    | false =>
      refine fin _ (N1 (.inr (.inl h2))) ?_
      clear fin N1 Y1
      go_enter Try.func11, Try.ntmps11
      go_wp2_with (first
        | (go_at_call 13; go_must (refine (C1.out _ _ _).mono ?_; rintro e1 w1 ⟨rfl, rfl⟩)))
      all_goals
        go_returns
        exact ⟨by first | rfl | simp [prV, spV, spC, *] | (simp [prV, spV, spC]; omega), (by repeat' (first | with_reducible exact Below.refl _ _ | with_reducible exact Nat.le_refl _ | with_reducible assumption | with_reducible refine below_drewN ?_ _ | with_reducible refine Below.drew ?_ | with_reducible refine Below.trans ?_ (Below.mono (by assumption) ?_) | with_reducible refine Below.alloc ?_ ?_ _ | with_reducible refine Below.setCell ?_ ?_ _ | with_reducible refine le_setCell ?_ _ _ | with_reducible refine le_alloc ?_ _ | with_reducible refine le_drewN ?_ _ | with_reducible refine le_drew ?_ | with_reducible refine Nat.le_trans ?_ (Below.size (by assumption)) | (simp only [World.size_alloc, World.size_setCell]; omega)))⟩
    | true =>
    cases h3 : vl (u, z) with
    | false =>
      exact absurd (h2.symm.trans h3) (by decide)
    | true =>
      refine fin _ (Y1 h1 h2 h3) ?_
      clear fin N1 Y1
      go_enter Try.func11, Try.ntmps11
      go_wp2_with (first
        | (go_at_call 13; go_must (refine (C1.out _ _ _).mono ?_; rintro e1 w1 ⟨rfl, rfl⟩)))
      all_goals
        go_returns
        exact ⟨by first | rfl | simp [prV, spV, spC, *] | (simp [prV, spV, spC]; omega), (by repeat' (first | with_reducible exact Below.refl _ _ | with_reducible exact Nat.le_refl _ | with_reducible assumption | with_reducible refine below_drewN ?_ _ | with_reducible refine Below.drew ?_ | with_reducible refine Below.trans ?_ (Below.mono (by assumption) ?_) | with_reducible refine Below.alloc ?_ ?_ _ | with_reducible refine Below.setCell ?_ ?_ _ | with_reducible refine le_setCell ?_ _ _ | with_reducible refine le_alloc ?_ _ | with_reducible refine le_drewN ?_ _ | with_reducible refine le_drew ?_ | with_reducible refine Nat.le_trans ?_ (Below.size (by assumption)) | (simp only [World.size_alloc, World.size_setCell]; omega)))⟩
  · obtain rfl := (hp1 hx).symm
    obtain rfl := (hq2 hz).symm
    clear hp1 hp2 hq1 hq2
    cases h1 : vl (x, y) with
    | false =>
      refine fin _ (N1 (.inl h1)) ?_
      clear fin N1 Y1
      go_enter Try.func11, Try.ntmps11
      go_wp2_with (first
        | (go_at_call 13; go_must (refine (C1.out _ _ _).mono ?_; rintro e1 w1 ⟨rfl, rfl⟩)))
      all_goals
        go_returns
        exact ⟨by first | rfl | simp [prV, spV, spC, *] | (simp [prV, spV, spC]; omega), (by repeat' (first | with_reducible exact Below.refl _ _ | with_reducible exact Nat.le_refl _ | with_reducible assumption | with_reducible refine below_drewN ?_ _ | with_reducible refine Below.drew ?_ | with_reducible refine Below.trans ?_ (Below.mono (by assumption) ?_) | with_reducible refine Below.alloc ?_ ?_ _ | with_reducible refine Below.setCell ?_ ?_ _ | with_reducible refine le_setCell ?_ _ _ | with_reducible refine le_alloc ?_ _ | with_reducible refine le_drewN ?_ _ | with_reducible refine le_drew ?_ | with_reducible refine Nat.le_trans ?_ (Below.size (by assumption)) | (simp only [World.size_alloc, World.size_setCell]; omega)))⟩
    | true =>
    cases h2 : vl (u, z) with
    | false =>
      refine fin _ (N1 (.inr (.inl h2))) ?_
      clear fin N1 Y1
      go_enter Try.func11, Try.ntmps11
      go_wp2_with (first
        | (go_at_call 13; go_must (refine (C1.out _ _ _).mono ?_; rintro e1 w1 ⟨rfl, rfl⟩)))
      all_goals
        go_returns
        exact ⟨by first | rfl | simp [prV, spV, spC, *] | (simp [prV, spV, spC]; omega), (by repeat' (first | with_reducible exact Below.refl _ _ | with_reducible exact Nat.le_refl _ | with_reducible assumption | with_reducible refine below_drewN ?_ _ | with_reducible refine Below.drew ?_ | with_reducible refine Below.trans ?_ (Below.mono (by assumption) ?_) | with_reducible refine Below.alloc ?_ ?_ _ | with_reducible refine Below.setCell ?_ ?_ _ | with_reducible refine le_setCell ?_ _ _ | with_reducible refine le_alloc ?_ _ | with_reducible refine le_drewN ?_ _ | with_reducible refine le_drew ?_ | with_reducible refine Nat.le_trans ?_ (Below.size (by assumption)) | (simp only [World.size_alloc, World.size_setCell]; omega)))⟩
    | true =>
    cases h3 : vl (u, y) with
    | false =>
      refine fin _ (N1 (.inr (.inr h3))) ?_
      clear fin N1 Y1
      go_enter Try.func11, Try.ntmps11
      go_wp2_with (first
        | (go_at_call 13; go_must (refine (C1.out _ _ _).mono ?_; rintro e1 w1 ⟨rfl, rfl⟩)))
      all_goals
        go_returns
        exact ⟨by first | rfl | simp [prV, spV, spC, *] | (simp [prV, spV, spC]; omega), (by repeat' (first | with_reducible exact Below.refl _ _ | with_reducible exact Nat.le_refl _ | with_reducible assumption | with_reducible refine below_drewN ?_ _ | with_reducible refine Below.drew ?_ | with_reducible refine Below.trans ?_ (Below.mono (by assumption) ?_) | with_reducible refine Below.alloc ?_ ?_ _ | with_reducible refine Below.setCell ?_ ?_ _ | with_reducible refine le_setCell ?_ _ _ | with_reducible refine le_alloc ?_ _ | with_reducible refine le_drewN ?_ _ | with_reducible refine le_drew ?_ | with_reducible refine Nat.le_trans ?_ (Below.size (by assumption)) | (simp only [World.size_alloc, World.size_setCell]; omega)))⟩
    | true =>
      refine fin _ (Y1 h1 h2 h3) ?_
      clear fin N1 Y1
      go_enter Try.func11, Try.ntmps11
      go_wp2_with (first
        | (go_at_call 13; go_must (refine (C1.out _ _ _).mono ?_; rintro e1 w1 ⟨rfl, rfl⟩)))
      all_goals
        go_returns
        exact ⟨by first | rfl | simp [prV, spV, spC, *] | (simp [prV, spV, spC]; omega), (by repeat' (first | with_reducible exact Below.refl _ _ | with_reducible exact Nat.le_refl _ | with_reducible assumption | with_reducible refine below_drewN ?_ _ | with_reducible refine Below.drew ?_ | with_reducible refine Below.trans ?_ (Below.mono (by assumption) ?_) | with_reducible refine Below.alloc ?_ ?_ _ | with_reducible refine Below.setCell ?_ ?_ _ | with_reducible refine le_setCell ?_ _ _ | with_reducible refine le_alloc ?_ _ | with_reducible refine le_drewN ?_ _ | with_reducible refine le_drew ?_ | with_reducible refine Nat.le_trans ?_ (Below.size (by assumption)) | (simp only [World.size_alloc, World.size_setCell]; omega)))⟩
  · obtain rfl := (hp2 hx).symm
    obtain rfl := (hq1 hz).symm
    clear hp1 hp2 hq1 hq2
    cases h1 : vl (x, y) with
    | false =>
      refine fin _ (N1 (.inl h1)) ?_
      clear fin N1 Y1
      go_enter Try.func11, Try.ntmps11
      go_wp2_with (first
        | (go_at_call 13; go_must (refine (C1.out _ _ _).mono ?_; rintro e1 w1 ⟨rfl, rfl⟩)))
      all_goals
        go_returns
        exact ⟨by first | rfl | simp [prV, spV, spC, *] | (simp [prV, spV, spC]; omega), (by repeat' (first | with_reducible exact Below.refl _ _ | with_reducible exact Nat.le_refl _ | with_reducible assumption | with_reducible refine below_drewN ?_ _ | with_reducible refine Below.drew ?_ | with_reducible refine Below.trans ?_ (Below.mono (by assumption) ?_) | with_reducible refine Below.alloc ?_ ?_ _ | with_reducible refine Below.setCell ?_ ?_ _ | with_reducible refine le_setCell ?_ _ _ | with_reducible refine le_alloc ?_ _ | with_reducible refine le_drewN ?_ _ | with_reducible refine le_drew ?_ | with_reducible refine Nat.le_trans ?_ (Below.size (by assumption)) | (simp only [World.size_alloc, World.size_setCell]; omega)))⟩
    | true =>
    cases h2 : vl (u, z) with
    | false =>
      refine fin _ (N1 (.inr (.inl h2))) ?_
      clear fin N1 Y1
      go_enter Try.func11, Try.ntmps11
      go_wp2_with (first
        | (go_at_call 13; go_must (refine (C1.out _ _ _).mono ?_; rintro e1 w1 ⟨rfl, rfl⟩)))
      all_goals
        go_returns
        exact ⟨by first | rfl | simp [prV, spV, spC, *] | (simp [prV, spV, spC]; omega), (by repeat' (first | with_reducible exact Below.refl _ _ | with_reducible exact Nat.le_refl _ | with_reducible assumption | with_reducible refine below_drewN ?_ _ | with_reducible refine Below.drew ?_ | with_reducible refine Below.trans ?_ (Below.mono (by assumption) ?_) | with_reducible refine Below.alloc ?_ ?_ _ | with_reducible refine Below.setCell ?_ ?_ _ | with_reducible refine le_setCell ?_ _ _ | with_reducible refine le_alloc ?_ _ | with_reducible refine le_drewN ?_ _ | with_reducible refine le_drew ?_ | with_reducible refine Nat.le_trans ?_ (Below.size (by assumption)) | (simp only [World.size_alloc, World.size_setCell]; omega)))⟩
    | true =>
    cases h3 : vl (x, z) with
    | false =>
      refine fin _ (N1 (.inr (.inr h3))) ?_
      clear fin N1 Y1
      go_enter Try.func11, Try.ntmps11
      go_wp2_with (first
        | (go_at_call 13; go_must (refine (C1.out _ _ _).mono ?_; rintro e1 w1 ⟨rfl, rfl⟩)))
      all_goals
        go_returns
        exact ⟨by first | rfl | simp [prV, spV, spC, *] | (simp [prV, spV, spC]; omega), (by repeat' (first | with_reducible exact Below.refl _ _ | with_reducible exact Nat.le_refl _ | with_reducible assumption | with_reducible refine below_drewN ?_ _ | with_reducible refine Below.drew ?_ | with_reducible refine Below.trans ?_ (Below.mono (by assumption) ?_) | with_reducible refine Below.alloc ?_ ?_ _ | with_reducible refine Below.setCell ?_ ?_ _ | with_reducible refine le_setCell ?_ _ _ | with_reducible refine le_alloc ?_ _ | with_reducible refine le_drewN ?_ _ | with_reducible refine le_drew ?_ | with_reducible refine Nat.le_trans ?_ (Below.size (by assumption)) | (simp only [World.size_alloc, World.size_setCell]; omega)))⟩
    | true =>
      refine fin _ (Y1 h1 h2 h3) ?_
      clear fin N1 Y1
      go_enter Try.func11, Try.ntmps11
      go_wp2_with (first
        | (go_at_call 13; go_must (refine (C1.out _ _ _).mono ?_; rintro e1 w1 ⟨rfl, rfl⟩)))
      all_goals
        go_returns
        exact ⟨by first | rfl | simp [prV, spV, spC, *] | (simp [prV, spV, spC]; omega), (by repeat' (first | with_reducible exact Below.refl _ _ | with_reducible exact Nat.le_refl _ | with_reducible assumption | with_reducible refine below_drewN ?_ _ | with_reducible refine Below.drew ?_ | with_reducible refine Below.trans ?_ (Below.mono (by assumption) ?_) | with_reducible refine Below.alloc ?_ ?_ _ | with_reducible refine Below.setCell ?_ ?_ _ | with_reducible refine le_setCell ?_ _ _ | with_reducible refine le_alloc ?_ _ | with_reducible refine le_drewN ?_ _ | with_reducible refine le_drew ?_ | with_reducible refine Nat.le_trans ?_ (Below.size (by assumption)) | (simp only [World.size_alloc, World.size_setCell]; omega)))⟩
  · obtain rfl := (hp2 hx).symm
    obtain rfl := (hq2 hz).symm
    clear hp1 hp2 hq1 hq2
    cases h1 : vl (x, y) with
    | false =>
      refine fin _ (N1 (.inl h1)) ?_
      clear fin N1 Y1
      go_enter Try.func11, Try.ntmps11
      go_wp2_with (first
        | (go_at_call 13; go_must (refine (C1.out _ _ _).mono ?_; rintro e1 w1 ⟨rfl, rfl⟩)))
      all_goals
        go_returns
        exact ⟨by first | rfl | simp [prV, spV, spC, *] | (simp [prV, spV, spC]; omega), (by repeat' (first | with_reducible exact Below.refl _ _ | with_reducible exact Nat.le_refl _ | with_reducible assumption | with_reducible refine below_drewN ?_ _ | with_reducible refine Below.drew ?_ | with_reducible refine Below.trans ?_ (Below.mono (by assumption) ?_) | with_reducible refine Below.alloc ?_ ?_ _ | with_reducible refine Below.setCell ?_ ?_ _ | with_reducible refine le_setCell ?_ _ _ | with_reducible refine le_alloc ?_ _ | with_reducible refine le_drewN ?_ _ | with_reducible refine le_drew ?_ | with_reducible refine Nat.le_trans ?_ (Below.size (by assumption)) | (simp only [World.size_alloc, World.size_setCell]; omega)))⟩
    | true =>
    cases h2 : vl (u, z) with
    | false =>
      refine fin _ (N1 (.inr (.inl h2))) ?_
      clear fin N1 Y1
      go_enter Try.func11, Try.ntmps11
      go_wp2_with (first
        | (go_at_call 13; go_must (refine (C1.out _ _ _).mono ?_; rintro e1 w1 ⟨rfl, rfl⟩)))
      all_goals
        go_returns
        exact ⟨by first | rfl | simp [prV, spV, spC, *] | (simp [prV, spV, spC]; omega), (by repeat' (first | with_reducible exact Below.refl _ _ | with_reducible exact Nat.le_refl _ | with_reducible assumption | with_reducible refine below_drewN ?_ _ | with_reducible refine Below.drew ?_ | with_reducible refine Below.trans ?_ (Below.mono (by assumption) ?_) | with_reducible refine Below.alloc ?_ ?_ _ | with_reducible refine Below.setCell ?_ ?_ _ | with_reducible refine le_setCell ?_ _ _ | with_reducible refine le_alloc ?_ _ | with_reducible refine le_drewN ?_ _ | with_reducible refine le_drew ?_ | with_reducible refine Nat.le_trans ?_ (Below.size (by assumption)) | (simp only [World.size_alloc, World.size_setCell]; omega)))⟩
    | true =>
    cases h3 : vl (x, y) with
    | false =>
      exact absurd (h1.symm.trans h3) (by decide)
    | true =>
      refine fin _ (Y1 h1 h2 h3) ?_
      clear fin N1 Y1
      go_enter Try.func11, Try.ntmps11
      go_wp2_with (first
        | (go_at_call 13; go_must (refine (C1.out _ _ _).mono ?_; rintro e1 w1 ⟨rfl, rfl⟩)))
      all_goals
        go_returns
        exact ⟨by first | rfl | simp [prV, spV, spC, *] | (simp [prV, spV, spC]; omega), (by repeat' (first | with_reducible exact Below.refl _ _ | with_reducible exact Nat.le_refl _ | with_reducible assumption | with_reducible refine below_drewN ?_ _ | with_reducible refine Below.drew ?_ | with_reducible refine Below.trans ?_ (Below.mono (by assumption) ?_) | with_reducible refine Below.alloc ?_ ?_ _ | with_reducible refine Below.setCell ?_ ?_ _ | with_reducible refine le_setCell ?_ _ _ | with_reducible refine le_alloc ?_ _ | with_reducible refine le_drewN ?_ _ | with_reducible refine le_drew ?_ | with_reducible refine Nat.le_trans ?_ (Below.size (by assumption)) | (simp only [World.size_alloc, World.size_setCell]; omega)))⟩

set_option maxRecDepth 20000 in
theorem meets_xy (x y u z : Int) (w : World) : Calls Try.prog 14 #[.agg #[.int .i64 x, .int .i64 y], .agg #[.int .i64 u, .int .i64 z]] w fun e w' => e = .returned (.bool (cm (x, y) (u, z)).2) ∧ Below w.heap.size w w' := by
  have C1 := fun w => common_xy x y u z w
  generalize cm (x, y) (u, z) = r at *
  obtain ⟨⟨a, b⟩, c⟩ := r
  unfold prV spV spC at C1
  simp only at C1 ⊢
  have H1 := Lib.hid C1
  clear C1
  go_enter Try.func14, Try.ntmps14
  go_wp2_with (first
    | (go_at_call 10; go_must (refine (H1.out _).mono ?_; rintro e1 w1 ⟨rfl, b1⟩)))
  go_returns
  exact ⟨rfl, (by repeat' (first | with_reducible exact Below.refl _ _ | with_reducible exact Nat.le_refl _ | with_reducible assumption | with_reducible refine below_drewN ?_ _ | with_reducible refine Below.drew ?_ | with_reducible refine Below.trans ?_ (Below.mono (by assumption) ?_) | with_reducible refine Below.alloc ?_ ?_ _ | with_reducible refine Below.setCell ?_ ?_ _ | with_reducible refine le_setCell ?_ _ _ | with_reducible refine le_alloc ?_ _ | with_reducible refine le_drewN ?_ _ | with_reducible refine le_drew ?_ | with_reducible refine Nat.le_trans ?_ (Below.size (by assumption)) | (simp only [World.size_alloc, World.size_setCell]; omega)))⟩
set_option maxRecDepth 20000 in
theorem refMeets_xy (x y u z : Int) (w : World) : Calls Try.prog 15 #[.agg #[.int .i64 x, .int .i64 y], .agg #[.int .i64 u, .int .i64 z]] w fun e w' => e = .returned (.bool (cm (x, y) (u, z)).2) ∧ Below w.heap.size w w' := by
  have C1 := fun w => refCommon_xy x y u z w
  generalize cm (x, y) (u, z) = r at *
  obtain ⟨⟨a, b⟩, c⟩ := r
  unfold prV spV spC at C1
  simp only at C1 ⊢
  have H1 := Lib.hid C1
  clear C1
  go_enter Try.func15, Try.ntmps15
  go_wp2_with (first
    | (go_at_call 11; go_must (refine (H1.out _).mono ?_; rintro e1 w1 ⟨rfl, b1⟩)))
  go_returns
  exact ⟨rfl, (by repeat' (first | with_reducible exact Below.refl _ _ | with_reducible exact Nat.le_refl _ | with_reducible assumption | with_reducible refine below_drewN ?_ _ | with_reducible refine Below.drew ?_ | with_reducible refine Below.trans ?_ (Below.mono (by assumption) ?_) | with_reducible refine Below.alloc ?_ ?_ _ | with_reducible refine Below.setCell ?_ ?_ _ | with_reducible refine le_setCell ?_ _ _ | with_reducible refine le_alloc ?_ _ | with_reducible refine le_drewN ?_ _ | with_reducible refine le_drew ?_ | with_reducible refine Nat.le_trans ?_ (Below.size (by assumption)) | (simp only [World.size_alloc, World.size_setCell]; omega)))⟩

end Go.Proofs.Ytpeiiomimfiebaa
