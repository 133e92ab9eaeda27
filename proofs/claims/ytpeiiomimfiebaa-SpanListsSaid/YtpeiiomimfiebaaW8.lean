/-
  The walk of the specification's next.
-/
import Derived.Test.YtpeiiomimfiebaaW3
namespace Go.Proofs.Ytpeiiomimfiebaa
open Go Go.RowKit Go.Joins
set_option linter.unusedVariables false
set_option linter.unusedSimpArgs false

theorem nx1_no {t b : Int} {s : Sp} (h : vl s = false) : nx1 t b s = b := by unfold nx1; rw [h]; rfl
/-- One bound. -/
def nb (t b x : Int) : Int := if t < x ∧ (b < 0 ∨ x < b) then x else b
theorem nx1_yes {t b : Int} {s : Sp} (h : vl s = true) : nx1 t b s = nb t (nb t b s.1) s.2 := by
  unfold nx1 nb
  rw [h]
  simp only [Bool.true_and, Bool.and_eq_true, Bool.or_eq_true, decide_eq_true_eq]
theorem nb_a {t b x : Int} (h : ¬ t < x) : nb t b x = b := by unfold nb; rw [if_neg (by omega)]
theorem nb_b {t b x : Int} (h : t < x) (hb : b < 0) : nb t b x = x := by unfold nb; rw [if_pos (by omega)]
theorem nb_c {t b x : Int} (h : t < x) (hb : ¬ b < 0) (hx : x < b) : nb t b x = x := by unfold nb; rw [if_pos (by omega)]
theorem nb_d {t b x : Int} (h : t < x) (hb : ¬ b < 0) (hx : ¬ x < b) : nb t b x = b := by unfold nb; rw [if_neg (by omega)]

set_option maxRecDepth 20000 in
set_option maxHeartbeats 4000000 in
theorem next_any (l : List Sp) (V : Value) (t : Int) (w : World) (hT : SpArg w V l) (hn : l.length ≤ 4294967296) :
    Calls Try.prog 34 #[V, .int .i64 t] w fun e w' => e = .returned (.int .i64 (nx l t)) ∧ Below w.heap.size w w' := by
  obtain ⟨A, c, rfl, hA⟩ := hT
  have HA := Lib.hid hA
  have C1 := Lib.hid refValid_xy
  clear hA
  go_enter Try.func34, Try.ntmps34
  go_wp2
  go_loopw [6, 5] (fun x n wr => ∃ j : Nat, j ≤ l.length ∧ x = .int .i64 j ∧ n = .int .i64 (nx (l.take j) t) ∧ Hid (Below w.heap.size w wr)) (fun x _ _ => l.length - (intOf x).toNat)
  case atStart => exact ⟨0, Nat.zero_le _, rfl, rfl, Lib.hid (Below.refl _ _)⟩
  case round =>
    obtain ⟨j, hj, rfl, rfl, HB⟩ := hrel
    have hb := HB.out
    by_cases hjl : j < l.length
    · obtain ⟨g, o, rfl, hg, hc⟩ := HA.out (by omega)
      obtain ⟨a0, a1⟩ := arg_two hc j hjl
      have f0 := (hb.cell (p := ⟨g, o + j * 2, none⟩) hg).trans a0
      have f1 := (hb.cell (p := ⟨g, o + j * 2 + 1, none⟩) hg).trans a1
      clear a0 a1 hc
      have ht : nx (l.take (j + 1)) t = nx1 t (nx (l.take j) t) (l[j].1, l[j].2) := by rw [List.take_succ_eq_append_getElem hjl, nx_snoc]
      generalize l[j].1 = x0 at *
      generalize l[j].2 = x1 at *
      generalize nx (l.take j) t = b at *
      have k0 : (wr.alloc (.cells #[.int .i64 x0, .int .i64 x1] 23)).cell? ⟨g, o + j * 2, none⟩ = some (.int .i64 x0) := ((ba wr _).cell (p := ⟨g, o + j * 2, none⟩) (Nat.lt_of_lt_of_le hg hb.size)).trans f0
      have k1 : (wr.alloc (.cells #[.int .i64 x0, .int .i64 x1] 23)).cell? ⟨g, o + j * 2 + 1, none⟩ = some (.int .i64 x1) := ((ba wr _).cell (p := ⟨g, o + j * 2 + 1, none⟩) (Nat.lt_of_lt_of_le hg hb.size)).trans f1
      have m0 : ((wr.alloc (.cells #[.int .i64 x0, .int .i64 x1] 23)).alloc (.cells #[.int .i64 x0, .int .i64 x1] 23)).cell? ⟨g, o + j * 2, none⟩ = some (.int .i64 x0) := ((ba (wr.alloc _) _).cell (p := ⟨g, o + j * 2, none⟩) (by rw [World.size_alloc]; exact Nat.lt_succ_of_lt (Nat.lt_of_lt_of_le hg hb.size))).trans k0
      have m1 : ((wr.alloc (.cells #[.int .i64 x0, .int .i64 x1] 23)).alloc (.cells #[.int .i64 x0, .int .i64 x1] 23)).cell? ⟨g, o + j * 2 + 1, none⟩ = some (.int .i64 x1) := ((ba (wr.alloc _) _).cell (p := ⟨g, o + j * 2 + 1, none⟩) (by rw [World.size_alloc]; exact Nat.lt_succ_of_lt (Nat.lt_of_lt_of_le hg hb.size))).trans k1
      have key : ∀ b2, nx (l.take (j + 1)) t = b2 → ∀ (a : Act) (wz : World), True → True := fun _ _ _ _ _ => trivial
      cases hv : vl (x0, x1) with
      | false =>
        rw [nx1_no hv] at ht
        have HT := Lib.hid ht
        clear ht key
        go_wp2_with (first
          | (go_at_call 13; go_must (refine (C1.out _ _ _).mono ?_; rintro e1 w1 ⟨rfl, rfl⟩)))
        go_roundw
        case rel => exact ⟨j + 1, by omega, val_int (by omega), val_int HT.out.symm, Lib.hid (by repeat' (first | with_reducible exact Below.refl _ _ | with_reducible exact Nat.le_refl _ | with_reducible assumption | with_reducible refine below_drewN ?_ _ | with_reducible refine Below.drew ?_ | with_reducible refine Below.trans ?_ (Below.mono (by assumption) ?_) | with_reducible refine Below.alloc ?_ ?_ _ | with_reducible refine Below.setCell ?_ ?_ _ | with_reducible refine le_setCell ?_ _ _ | with_reducible refine le_alloc ?_ _ | with_reducible refine le_drewN ?_ _ | with_reducible refine le_drew ?_ | with_reducible refine Nat.le_trans ?_ (Below.size (by assumption)) | (simp only [World.size_alloc, World.size_setCell]; omega)))⟩
        case measure => simp [intOf]; omega
      | true =>
        rw [nx1_yes hv] at ht
        simp only at ht
        obtain ⟨b1, hb1⟩ : ∃ b1, nb t b x0 = b1 := ⟨_, rfl⟩
        rw [hb1] at ht
        have hcase : (¬ t < x0 ∧ b1 = b) ∨ (t < x0 ∧ b < 0 ∧ b1 = x0) ∨ (t < x0 ∧ ¬ b < 0 ∧ x0 < b ∧ b1 = x0) ∨ (t < x0 ∧ ¬ b < 0 ∧ ¬ x0 < b ∧ b1 = b) := by
          rw [← hb1]; unfold nb
          by_cases p1 : t < x0 <;> by_cases p2 : b < 0 <;> by_cases p3 : x0 < b <;> simp [p1, p2, p3]
        obtain ⟨b2, hb2⟩ : ∃ b2, nb t b1 x1 = b2 := ⟨_, rfl⟩
        rw [hb2] at ht
        have hcase2 : (¬ t < x1 ∧ b2 = b1) ∨ (t < x1 ∧ b1 < 0 ∧ b2 = x1) ∨ (t < x1 ∧ ¬ b1 < 0 ∧ x1 < b1 ∧ b2 = x1) ∨ (t < x1 ∧ ¬ b1 < 0 ∧ ¬ x1 < b1 ∧ b2 = b1) := by
          rw [← hb2]; unfold nb
          by_cases p1 : t < x1 <;> by_cases p2 : b1 < 0 <;> by_cases p3 : x1 < b1 <;> simp [p1, p2, p3]
        have HT := Lib.hid ht
        clear ht key hb1 hb2
        rcases hcase with ⟨i1, rfl⟩ | ⟨i1, i2, rfl⟩ | ⟨i1, i2, i3, rfl⟩ | ⟨i1, i2, i3, rfl⟩ <;> rcases hcase2 with ⟨j1, rfl⟩ | ⟨j1, j2, rfl⟩ | ⟨j1, j2, j3, rfl⟩ | ⟨j1, j2, j3, rfl⟩
        all_goals try (exfalso; omega)
        all_goals
          go_wp2_with (first
            | (go_at_call 13; go_must (refine (C1.out _ _ _).mono ?_; rintro e1 w1 ⟨rfl, rfl⟩)))
          go_roundw
          case rel => exact ⟨j + 1, by omega, val_int (by omega), val_int HT.out.symm, Lib.hid (by repeat' (first | with_reducible exact Below.refl _ _ | with_reducible exact Nat.le_refl _ | with_reducible assumption | with_reducible refine below_drewN ?_ _ | with_reducible refine Below.drew ?_ | with_reducible refine Below.trans ?_ (Below.mono (by assumption) ?_) | with_reducible refine Below.alloc ?_ ?_ _ | with_reducible refine Below.setCell ?_ ?_ _ | with_reducible refine le_setCell ?_ _ _ | with_reducible refine le_alloc ?_ _ | with_reducible refine le_drewN ?_ _ | with_reducible refine le_drew ?_ | with_reducible refine Nat.le_trans ?_ (Below.size (by assumption)) | (simp only [World.size_alloc, World.size_setCell]; omega)))⟩
          case measure => simp [intOf]; omega
    · have he : l.take j = l := List.take_of_length_le (by omega)
      rw [he]
      go_wp2
      go_returns
      exact ⟨rfl, hb⟩

end Go.Proofs.Ytpeiiomimfiebaa
