/-
  The walk of lives: the chapter's example.
-/
import Derived.Test.YtpeiiomimfiebaaW6
namespace Go.Proofs.Ytpeiiomimfiebaa
open Go Go.RowKit Go.Joins
set_option linter.unusedVariables false
set_option linter.unusedSimpArgs false

theorem un_lives : un [(5, 9), (1, 3), (3, 4)] = [(1, 4), (5, 9)] := by
  refine (un_uniq _ _ ((Can.nil.cons (a := (5, 9)) (by decide) (by simp)).cons (a := (1, 4)) (by decide) (by simp)) fun t => ?_).symm
  rw [cov_iff, mem_cons, mem_one]
  simp only [List.mem_cons, List.not_mem_nil, or_false, exists_eq_or_imp, exists_eq_left, vl_iff]
  omega

set_option maxRecDepth 20000 in
set_option maxHeartbeats 2000000 in
theorem lives_any (w : World) : Calls Try.prog 9 #[] w fun e w' => e = .returned (.bool true) ∧ Below w.heap.size w w' := by
  have CV := Lib.hid valid_xy
  have C1 := Lib.hid (fun W h => join_any [(5, 9), (1, 3), (3, 4)] (.slice (some ⟨w.heap.size, 0, none⟩) 3 3) W h (by simp))
  have HR := Lib.hid (KRow.arg spC_size (KRow.lit (enc := spC) (T := 23) spC_size w w.heap.size (Nat.le_refl _) [(5, 9), (1, 3), (3, 4)] #[.int .i64 5, .int .i64 9, .int .i64 1, .int .i64 3, .int .i64 3, .int .i64 4] rfl 3 rfl (by simp)))
  rw [un_lives] at C1
  have v1 : vl (1, 4) = true := by decide
  have v2 : vl (4, 4) = false := by decide
  go_enter Try.func9, Try.ntmps9
  go_wp2_with (first
    | (go_at_call 17; go_must (refine (C1.out _ HR.out).mono ?_; rintro e1 w1 ⟨u, rfl, r1, b1⟩; obtain ⟨G, C, rfl⟩ := r1.full (by simp); have c0 : w1.cell? ⟨G, 0, none⟩ = some (.int .i64 1) := r1.cell spC_size 0 (by simp) 0 (by omega); have c1 : w1.cell? ⟨G, 1, none⟩ = some (.int .i64 4) := r1.cell spC_size 0 (by simp) 1 (by omega); have c2 : w1.cell? ⟨G, 2, none⟩ = some (.int .i64 5) := r1.cell spC_size 1 (by simp) 0 (by omega); have c3 : w1.cell? ⟨G, 3, none⟩ = some (.int .i64 9) := r1.cell spC_size 1 (by simp) 1 (by omega); have B1 := Lib.hid b1; clear r1 b1))
    | (go_at_call 12; go_must (refine (CV.out _ _ _).mono ?_; rintro e1 w2 ⟨rfl, rfl⟩)))
  go_returns
  exact ⟨rfl, by have := B1.out; exact (by repeat' (first | with_reducible exact Below.refl _ _ | with_reducible exact Nat.le_refl _ | with_reducible assumption | with_reducible refine below_drewN ?_ _ | with_reducible refine Below.drew ?_ | with_reducible refine Below.trans ?_ (Below.mono (by assumption) ?_) | with_reducible refine Below.alloc ?_ ?_ _ | with_reducible refine Below.setCell ?_ ?_ _ | with_reducible refine le_setCell ?_ _ _ | with_reducible refine le_alloc ?_ _ | with_reducible refine le_drewN ?_ _ | with_reducible refine le_drew ?_ | with_reducible refine Nat.le_trans ?_ (Below.size (by assumption)) | (simp only [World.size_alloc, World.size_setCell]; omega)))⟩

end Go.Proofs.Ytpeiiomimfiebaa
