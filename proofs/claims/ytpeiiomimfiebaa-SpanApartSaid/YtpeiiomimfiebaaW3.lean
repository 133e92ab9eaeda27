/-
  The walks of contains, holds and of both Find.
-/
import Derived.Test.YtpeiiomimfiebaaW1
namespace Go.Proofs.Ytpeiiomimfiebaa
open Go Go.RowKit Go.Joins
set_option linter.unusedVariables false
set_option linter.unusedSimpArgs false

set_option maxRecDepth 20000 in
set_option maxHeartbeats 1000000 in
theorem contains_xy (x y t : Int) (w : World) : Calls Try.prog 29 #[.agg #[.int .i64 x, .int .i64 y], .int .i64 t] w fun e w' => e = .returned (.bool (hd (x, y) t)) ∧ Below w.heap.size w w' := by
  have C1 := Lib.hid valid_xy
  cases h1 : vl (x, y) <;> cases h2 : decide (x ≤ t) <;> cases h3 : decide (t < y)
  all_goals
    have E : hd (x, y) t = (vl (x, y) && decide (x ≤ t) && decide (t < y)) := rfl
    rw [E, h1, h2, h3]
    simp only [decide_eq_true_eq, decide_eq_false_iff_not] at h2 h3
    clear E
    go_enter Try.func29, Try.ntmps29
    go_wp2_with (first
      | (go_at_call 12; go_must (refine (C1.out _ _ _).mono ?_; rintro e1 w1 ⟨rfl, rfl⟩)))
    go_returns
    exact ⟨by first | rfl | simp [*], (by repeat' (first | with_reducible exact Below.refl _ _ | with_reducible exact Nat.le_refl _ | with_reducible assumption | with_reducible refine below_drewN ?_ _ | with_reducible refine Below.drew ?_ | with_reducible refine Below.trans ?_ (Below.mono (by assumption) ?_) | with_reducible refine Below.alloc ?_ ?_ _ | with_reducible refine Below.setCell ?_ ?_ _ | with_reducible refine le_setCell ?_ _ _ | with_reducible refine le_alloc ?_ _ | with_reducible refine le_drewN ?_ _ | with_reducible refine le_drew ?_ | with_reducible refine Nat.le_trans ?_ (Below.size (by assumption)) | (simp only [World.size_alloc, World.size_setCell]; omega)))⟩
set_option maxRecDepth 20000 in
set_option maxHeartbeats 1000000 in
theorem holds_xy (x y t : Int) (w : World) : Calls Try.prog 30 #[.agg #[.int .i64 x, .int .i64 y], .int .i64 t] w fun e w' => e = .returned (.bool (hd (x, y) t)) ∧ Below w.heap.size w w' := by
  have C1 := Lib.hid refValid_xy
  cases h1 : vl (x, y) <;> cases h2 : decide (x ≤ t) <;> cases h3 : decide (t < y)
  all_goals
    have E : hd (x, y) t = (vl (x, y) && decide (x ≤ t) && decide (t < y)) := rfl
    rw [E, h1, h2, h3]
    simp only [decide_eq_true_eq, decide_eq_false_iff_not] at h2 h3
    clear E
    go_enter Try.func30, Try.ntmps30
    go_wp2_with (first
      | (go_at_call 13; go_must (refine (C1.out _ _ _).mono ?_; rintro e1 w1 ⟨rfl, rfl⟩)))
    go_returns
    exact ⟨by first | rfl | simp [*], (by repeat' (first | with_reducible exact Below.refl _ _ | with_reducible exact Nat.le_refl _ | with_reducible assumption | with_reducible refine below_drewN ?_ _ | with_reducible refine Below.drew ?_ | with_reducible refine Below.trans ?_ (Below.mono (by assumption) ?_) | with_reducible refine Below.alloc ?_ ?_ _ | with_reducible refine Below.setCell ?_ ?_ _ | with_reducible refine le_setCell ?_ _ _ | with_reducible refine le_alloc ?_ _ | with_reducible refine le_drewN ?_ _ | with_reducible refine le_drew ?_ | with_reducible refine Nat.le_trans ?_ (Below.size (by assumption)) | (simp only [World.size_alloc, World.size_setCell]; omega)))⟩

/-- The two cells of a span that is read. -/
theorem arg_two {w : World} {g o : Nat} {l : List Sp} (h : ∀ j (hj : j < l.length) i, i < 2 → w.cell? ⟨g, o + j * 2 + i, none⟩ = (spC l[j])[i]?) (j : Nat) (hj : j < l.length) : w.cell? ⟨g, o + j * 2, none⟩ = some (.int .i64 l[j].1) ∧ w.cell? ⟨g, o + j * 2 + 1, none⟩ = some (.int .i64 l[j].2) :=
  ⟨h j hj 0 (by omega), h j hj 1 (by omega)⟩

set_option maxRecDepth 20000 in
set_option maxHeartbeats 2000000 in
theorem find_any (l : List Sp) (v : Value) (t : Int) (w : World) (hT : SpArg w v l) (hn : l.length ≤ 4294967296) : Calls Try.prog 23 #[v, .int .i64 t] w fun e w' => e = .returned (.int .i64 (fnd l t)) ∧ Below w.heap.size w w' := by
  obtain ⟨A, c, rfl, hA⟩ := hT
  have HA := Lib.hid hA
  have HF := Lib.hid (fnd_at l t); have HN := Lib.hid (fnd_none l t)
  have C1 := Lib.hid contains_xy
  generalize hr : fnd l t = r at *
  clear hA hr
  go_enter Try.func23, Try.ntmps23
  go_wp2
  go_loopw [9] (fun x wr => ∃ j : Nat, j ≤ l.length ∧ x = .int .i64 j ∧ Hid (Below w.heap.size w wr) ∧ Hid (∀ k (hk : k < l.length), k < j → hd l[k] t = false)) (fun x _ => l.length - (intOf x).toNat)
  case atStart => exact ⟨0, Nat.zero_le _, rfl, Lib.hid (Below.refl _ _), Lib.hid (fun k hk h => absurd h (by omega))⟩
  case round =>
    obtain ⟨j, hj, rfl, HB, HR⟩ := hrel
    have hb := HB.out
    by_cases hjl : j < l.length
    · obtain ⟨g, o, rfl, hg, hc⟩ := HA.out (by omega)
      obtain ⟨a0, a1⟩ := arg_two hc j hjl
      have f0 := (hb.cell (p := ⟨g, o + j * 2, none⟩) hg).trans a0
      have f1 := (hb.cell (p := ⟨g, o + j * 2 + 1, none⟩) hg).trans a1
      clear a0 a1 hc
      cases hh : hd l[j] t with
      | true =>
        have HE := Lib.hid (HF.out j hjl (fun k hk h => HR.out k hk h) hh)
        have hh' : hd (l[j].1, l[j].2) t = true := hh
        clear hh
        generalize l[j].1 = x0 at *
        generalize l[j].2 = x1 at *
        go_wp2_with (first
          | (go_at_call 29; go_must (refine (C1.out _ _ _ _).mono ?_; rintro e1 w1 ⟨rfl, b1⟩)))
        go_returns
        exact ⟨ret_int HE.out.symm, (by repeat' (first | with_reducible exact Below.refl _ _ | with_reducible exact Nat.le_refl _ | with_reducible assumption | with_reducible refine below_drewN ?_ _ | with_reducible refine Below.drew ?_ | with_reducible refine Below.trans ?_ (Below.mono (by assumption) ?_) | with_reducible refine Below.alloc ?_ ?_ _ | with_reducible refine Below.setCell ?_ ?_ _ | with_reducible refine le_setCell ?_ _ _ | with_reducible refine le_alloc ?_ _ | with_reducible refine le_drewN ?_ _ | with_reducible refine le_drew ?_ | with_reducible refine Nat.le_trans ?_ (Below.size (by assumption)) | (simp only [World.size_alloc, World.size_setCell]; omega)))⟩
      | false =>
        have HR2 : Hid (∀ k (hk : k < l.length), k < j + 1 → hd l[k] t = false) := fun k hk h => by
          by_cases e : k = j
          · subst e; exact hh
          · exact HR.out k hk (by omega)
        have hh' : hd (l[j].1, l[j].2) t = false := hh
        clear hh
        generalize l[j].1 = x0 at *
        generalize l[j].2 = x1 at *
        go_wp2_with (first
          | (go_at_call 29; go_must (refine (C1.out _ _ _ _).mono ?_; rintro e1 w1 ⟨rfl, b1⟩)))
        go_roundw
        case rel => exact ⟨j + 1, by omega, val_int (by omega), Lib.hid (by repeat' (first | with_reducible exact Below.refl _ _ | with_reducible exact Nat.le_refl _ | with_reducible assumption | with_reducible refine below_drewN ?_ _ | with_reducible refine Below.drew ?_ | with_reducible refine Below.trans ?_ (Below.mono (by assumption) ?_) | with_reducible refine Below.alloc ?_ ?_ _ | with_reducible refine Below.setCell ?_ ?_ _ | with_reducible refine le_setCell ?_ _ _ | with_reducible refine le_alloc ?_ _ | with_reducible refine le_drewN ?_ _ | with_reducible refine le_drew ?_ | with_reducible refine Nat.le_trans ?_ (Below.size (by assumption)) | (simp only [World.size_alloc, World.size_setCell]; omega))), HR2⟩
        case measure => simp [intOf]; omega
    · have HE := Lib.hid (HN.out (fun k hk => HR.out k hk (by omega)))
      go_wp2
      go_returns
      exact ⟨ret_int HE.out.symm, (by repeat' (first | with_reducible exact Below.refl _ _ | with_reducible exact Nat.le_refl _ | with_reducible assumption | with_reducible refine below_drewN ?_ _ | with_reducible refine Below.drew ?_ | with_reducible refine Below.trans ?_ (Below.mono (by assumption) ?_) | with_reducible refine Below.alloc ?_ ?_ _ | with_reducible refine Below.setCell ?_ ?_ _ | with_reducible refine le_setCell ?_ _ _ | with_reducible refine le_alloc ?_ _ | with_reducible refine le_drewN ?_ _ | with_reducible refine le_drew ?_ | with_reducible refine Nat.le_trans ?_ (Below.size (by assumption)) | (simp only [World.size_alloc, World.size_setCell]; omega)))⟩
set_option maxRecDepth 20000 in
set_option maxHeartbeats 2000000 in
theorem refFind_any (l : List Sp) (v : Value) (t : Int) (w : World) (hT : SpArg w v l) (hn : l.length ≤ 4294967296) : Calls Try.prog 24 #[v, .int .i64 t] w fun e w' => e = .returned (.int .i64 (fnd l t)) ∧ Below w.heap.size w w' := by
  obtain ⟨A, c, rfl, hA⟩ := hT
  have HA := Lib.hid hA
  have HF := Lib.hid (fnd_at l t); have HN := Lib.hid (fnd_none l t)
  have C1 := Lib.hid holds_xy
  generalize hr : fnd l t = r at *
  clear hA hr
  go_enter Try.func24, Try.ntmps24
  go_wp2
  go_loopw [5] (fun x wr => ∃ j : Nat, j ≤ l.length ∧ x = .int .i64 j ∧ Hid (Below w.heap.size w wr) ∧ Hid (∀ k (hk : k < l.length), k < j → hd l[k] t = false)) (fun x _ => l.length - (intOf x).toNat)
  case atStart => exact ⟨0, Nat.zero_le _, rfl, Lib.hid (Below.refl _ _), Lib.hid (fun k hk h => absurd h (by omega))⟩
  case round =>
    obtain ⟨j, hj, rfl, HB, HR⟩ := hrel
    have hb := HB.out
    by_cases hjl : j < l.length
    · obtain ⟨g, o, rfl, hg, hc⟩ := HA.out (by omega)
      obtain ⟨a0, a1⟩ := arg_two hc j hjl
      have f0 := (hb.cell (p := ⟨g, o + j * 2, none⟩) hg).trans a0
      have f1 := (hb.cell (p := ⟨g, o + j * 2 + 1, none⟩) hg).trans a1
      clear a0 a1 hc
      cases hh : hd l[j] t with
      | true =>
        have HE := Lib.hid (HF.out j hjl (fun k hk h => HR.out k hk h) hh)
        have hh' : hd (l[j].1, l[j].2) t = true := hh
        clear hh
        generalize l[j].1 = x0 at *
        generalize l[j].2 = x1 at *
        go_wp2_with (first
          | (go_at_call 30; go_must (refine (C1.out _ _ _ _).mono ?_; rintro e1 w1 ⟨rfl, b1⟩)))
        go_returns
        exact ⟨ret_int HE.out.symm, (by repeat' (first | with_reducible exact Below.refl _ _ | with_reducible exact Nat.le_refl _ | with_reducible assumption | with_reducible refine below_drewN ?_ _ | with_reducible refine Below.drew ?_ | with_reducible refine Below.trans ?_ (Below.mono (by assumption) ?_) | with_reducible refine Below.alloc ?_ ?_ _ | with_reducible refine Below.setCell ?_ ?_ _ | with_reducible refine le_setCell ?_ _ _ | with_reducible refine le_alloc ?_ _ | with_reducible refine le_drewN ?_ _ | with_reducible refine le_drew ?_ | with_reducible refine Nat.le_trans ?_ (Below.size (by assumption)) | (simp only [World.size_alloc, World.size_setCell]; omega)))⟩
      | false =>
        have HR2 : Hid (∀ k (hk : k < l.length), k < j + 1 → hd l[k] t = false) := fun k hk h => by
          by_cases e : k = j
          · subst e; exact hh
          · exact HR.out k hk (by omega)
        have hh' : hd (l[j].1, l[j].2) t = false := hh
        clear hh
        generalize l[j].1 = x0 at *
        generalize l[j].2 = x1 at *
        go_wp2_with (first
          | (go_at_call 30; go_must (refine (C1.out _ _ _ _).mono ?_; rintro e1 w1 ⟨rfl, b1⟩)))
        go_roundw
        case rel => exact ⟨j + 1, by omega, val_int (by omega), Lib.hid (by repeat' (first | with_reducible exact Below.refl _ _ | with_reducible exact Nat.le_refl _ | with_reducible assumption | with_reducible refine below_drewN ?_ _ | with_reducible refine Below.drew ?_ | with_reducible refine Below.trans ?_ (Below.mono (by assumption) ?_) | with_reducible refine Below.alloc ?_ ?_ _ | with_reducible refine Below.setCell ?_ ?_ _ | with_reducible refine le_setCell ?_ _ _ | with_reducible refine le_alloc ?_ _ | with_reducible refine le_drewN ?_ _ | with_reducible refine le_drew ?_ | with_reducible refine Nat.le_trans ?_ (Below.size (by assumption)) | (simp only [World.size_alloc, World.size_setCell]; omega))), HR2⟩
        case measure => simp [intOf]; omega
    · have HE := Lib.hid (HN.out (fun k hk => HR.out k hk (by omega)))
      go_wp2
      go_returns
      exact ⟨ret_int HE.out.symm, (by repeat' (first | with_reducible exact Below.refl _ _ | with_reducible exact Nat.le_refl _ | with_reducible assumption | with_reducible refine below_drewN ?_ _ | with_reducible refine Below.drew ?_ | with_reducible refine Below.trans ?_ (Below.mono (by assumption) ?_) | with_reducible refine Below.alloc ?_ ?_ _ | with_reducible refine Below.setCell ?_ ?_ _ | with_reducible refine le_setCell ?_ _ _ | with_reducible refine le_alloc ?_ _ | with_reducible refine le_drewN ?_ _ | with_reducible refine le_drew ?_ | with_reducible refine Nat.le_trans ?_ (Below.size (by assumption)) | (simp only [World.size_alloc, World.size_setCell]; omega)))⟩

end Go.Proofs.Ytpeiiomimfiebaa
