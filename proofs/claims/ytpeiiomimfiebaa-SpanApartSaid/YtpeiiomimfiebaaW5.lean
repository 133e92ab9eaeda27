/-
  The walks of bounds and ascending.
-/
import Derived.Test.YtpeiiomimfiebaaW4
import Derived.Test.YtpeiiomimfiebaaW3
namespace Go.Proofs.Ytpeiiomimfiebaa
open Go Go.RowKit Go.Joins
set_option linter.unusedVariables false
set_option linter.unusedSimpArgs false

set_option maxRecDepth 20000 in
set_option maxHeartbeats 1000000 in
theorem bounds_xy (x y u z : Int) (g c : Nat) (w : World) (h0 : w.cell? ⟨g, 0, none⟩ = some (.int .i64 u)) (h1 : w.cell? ⟨g, 1, none⟩ = some (.int .i64 z)) (hg : g < w.heap.size) :
    Calls Try.prog 27 #[.agg #[.int .i64 x, .int .i64 y], .slice (some ⟨g, 0, none⟩) 1 c] w fun e w' => e = .returned (.agg #[.int .i64 (min x u), .int .i64 (max y z)]) ∧ Below w.heap.size w w' := by
  go_enter Try.func27, Try.ntmps27
  go_wp2
  go_loopw [11] (fun i wr => (i = .int .i64 0 ∧ wr = ((w.alloc (.cells #[.int .i64 x, .int .i64 y] 23)).alloc (.cells #[.int .i64 0, .int .i64 0] 23)).alloc (.cells #[.int .i64 x, .int .i64 y] 23)) ∨
    (i = .int .i64 1 ∧ Below w.heap.size w wr ∧ RowAt wr (w.heap.size + 1) 23 #[.int .i64 0, .int .i64 0] ∧ RowAt wr (w.heap.size + 2) 23 #[.int .i64 (min x u), .int .i64 (max y z)])) (fun i _ => 1 - (intOf i).toNat)
  case atStart => exact .inl ⟨rfl, rfl⟩
  case round =>
    rcases hrel with ⟨rfl, rfl⟩ | ⟨rfl, hb, r1, r2⟩
    · have b0 : Below w.heap.size w (((w.alloc (.cells #[.int .i64 x, .int .i64 y] 23)).alloc (.cells #[.int .i64 0, .int .i64 0] 23)).alloc (.cells #[.int .i64 x, .int .i64 y] 23)) := (by repeat' (first | with_reducible exact Below.refl _ _ | with_reducible exact Nat.le_refl _ | with_reducible assumption | with_reducible refine below_drewN ?_ _ | with_reducible refine Below.drew ?_ | with_reducible refine Below.trans ?_ (Below.mono (by assumption) ?_) | with_reducible refine Below.alloc ?_ ?_ _ | with_reducible refine Below.setCell ?_ ?_ _ | with_reducible refine le_setCell ?_ _ _ | with_reducible refine le_alloc ?_ _ | with_reducible refine le_drewN ?_ _ | with_reducible refine le_drew ?_ | with_reducible refine Nat.le_trans ?_ (Below.size (by assumption)) | (simp only [World.size_alloc, World.size_setCell]; omega)))
      have f0 := (b0.cell (p := ⟨g, 0, none⟩) hg).trans h0
      have f1 := (b0.cell (p := ⟨g, 1, none⟩) hg).trans h1
      go_wp2
      go_roundw
      case rel =>
        refine .inr ⟨rfl, (by repeat' (first | with_reducible exact Below.refl _ _ | with_reducible exact Nat.le_refl _ | with_reducible assumption | with_reducible refine below_drewN ?_ _ | with_reducible refine Below.drew ?_ | with_reducible refine Below.trans ?_ (Below.mono (by assumption) ?_) | with_reducible refine Below.alloc ?_ ?_ _ | with_reducible refine Below.setCell ?_ ?_ _ | with_reducible refine le_setCell ?_ _ _ | with_reducible refine le_alloc ?_ _ | with_reducible refine le_drewN ?_ _ | with_reducible refine le_drew ?_ | with_reducible refine Nat.le_trans ?_ (Below.size (by assumption)) | (simp only [World.size_alloc, World.size_setCell]; omega))), ?_, ?_⟩
        · exact RowAt.alloc (RowAt.alloc (RowAt.at (by simp only [World.size_alloc])) _) _
        · exact RowAt.alloc (RowAt.at (by simp only [World.size_alloc])) _
      case measure => simp [intOf]
    · have c0 : wr.cell? ⟨w.heap.size + 1 + 1, 0, none⟩ = some (.int .i64 (min x u)) := r2.cell 0
      have c1 : wr.cell? ⟨w.heap.size + 1 + 1, 1, none⟩ = some (.int .i64 (max y z)) := r2.cell 1
      go_wp2_with (refine wpList_store_at r1 (B := w.heap.size) (by omega) #[.int .i64 (min x u), .int .i64 (max y z)] (.tmp 4) (.tmp 28) 23 rfl rfl rfl rfl (by kernel_rfl) rfl rfl ?_; intro w4 R4 b4; have g0 : w4.cell? ⟨w.heap.size + 1, 0, none⟩ = some (.int .i64 (min x u)) := R4.cell 0; have g1 : w4.cell? ⟨w.heap.size + 1, 1, none⟩ = some (.int .i64 (max y z)) := R4.cell 1)
      refine bodyPost_ret (by simp [results, Try.results27, go_sem, g0, g1]; try rfl) rfl ?_
      exact ⟨rfl, hb.trans b4⟩

set_option maxRecDepth 20000 in
set_option maxHeartbeats 2000000 in
theorem ascending_any (l : List Sp) (v : Value) (w : World) (hT : SpArg w v l) (hn : l.length ≤ 4294967296) : Calls Try.prog 26 #[v] w fun e w' => ∃ (u : Value) (q : List Sp), e = .returned u ∧ SpRow w' w.heap.size u q ∧ q.Perm (l.filter vl) ∧ (q.Pairwise fun a b => a.1 ≤ b.1) ∧ Below w.heap.size w w' := by
  obtain ⟨A, c, rfl, hA⟩ := hT
  have HA := Lib.hid hA
  have C1 := Lib.hid valid_xy
  have C2 := Lib.hid sort_any
  clear hA
  go_enter Try.func26, Try.ntmps26
  go_wp2
  go_loopw [8, 3] (fun i r wr => ∃ j : Nat, j ≤ l.length ∧ i = .int .i64 j ∧ Hid (SpRow wr w.heap.size r ((l.take j).filter vl)) ∧ Hid (Below w.heap.size w wr)) (fun i _ _ => l.length - (intOf i).toNat)
  case atStart => exact ⟨0, Nat.zero_le _, rfl, Lib.hid (KRow.nil _ _), Lib.hid (Below.refl _ _)⟩
  case round =>
    obtain ⟨j, hj, rfl, HR, HB⟩ := hrel
    have hb := HB.out
    by_cases hjl : j < l.length
    · obtain ⟨g, o, rfl, hg, hc⟩ := HA.out (by omega)
      obtain ⟨a0, a1⟩ := arg_two hc j hjl
      have f0 := (hb.cell (p := ⟨g, o + j * 2, none⟩) hg).trans a0
      have f1 := (hb.cell (p := ⟨g, o + j * 2 + 1, none⟩) hg).trans a1
      clear a0 a1 hc
      have ht : l.take (j + 1) = l.take j ++ [l[j]] := by rw [List.take_succ_eq_append_getElem hjl]
      have hfl : ((l.take j).filter vl).length ≤ l.length := Nat.le_trans (List.length_filter_le ..) (by rw [List.length_take]; omega)
      cases hh : vl l[j] with
      | true =>
        have ht2 := Lib.hid (show (l.take (j + 1)).filter vl = (l.take j).filter vl ++ [(l[j].1, l[j].2)] by rw [ht, List.filter_append, List.filter_cons, hh]; rfl)
        have hh' : vl (l[j].1, l[j].2) = true := hh
        clear hh ht
        generalize l[j].1 = x0 at *
        generalize l[j].2 = x1 at *
        generalize (l.take j).filter vl = F at *
        obtain ⟨UA, UN, UC, rfl, hUN⟩ := HR.out.form
        clear hUN
        go_wp2_with (first
          | (go_at_call 12; go_must (refine (C1.out _ _ _).mono ?_; rintro e1 w1 ⟨rfl, rfl⟩))
          | (at_builtin; go_must (refine wpList_append_sp rfl _ _ rfl (x0, x1) rfl rfl rfl (by simp only [World.size_alloc]) ((HR.out.alloc _).alloc _) (le_alloc (le_alloc hb.size _) _) (by omega) ?_; intro v5 w5 R5 b5)))
        go_roundw
        case rel => exact ⟨j + 1, by omega, val_int (by omega), Lib.hid (by rw [ht2.out]; exact R5), Lib.hid (by repeat' (first | with_reducible exact Below.refl _ _ | with_reducible exact Nat.le_refl _ | with_reducible assumption | with_reducible refine below_drewN ?_ _ | with_reducible refine Below.drew ?_ | with_reducible refine Below.trans ?_ (Below.mono (by assumption) ?_) | with_reducible refine Below.alloc ?_ ?_ _ | with_reducible refine Below.setCell ?_ ?_ _ | with_reducible refine le_setCell ?_ _ _ | with_reducible refine le_alloc ?_ _ | with_reducible refine le_drewN ?_ _ | with_reducible refine le_drew ?_ | with_reducible refine Nat.le_trans ?_ (Below.size (by assumption)) | (simp only [World.size_alloc, World.size_setCell]; omega)))⟩
        case measure => simp [intOf]; omega
      | false =>
        have ht2 := Lib.hid (show (l.take (j + 1)).filter vl = (l.take j).filter vl by rw [ht, List.filter_append, List.filter_cons, hh]; simp)
        have hh' : vl (l[j].1, l[j].2) = false := hh
        clear hh ht
        generalize l[j].1 = x0 at *
        generalize l[j].2 = x1 at *
        generalize (l.take j).filter vl = F at *
        go_wp2_with (first
          | (go_at_call 12; go_must (refine (C1.out _ _ _).mono ?_; rintro e1 w1 ⟨rfl, rfl⟩)))
        go_roundw
        case rel => exact ⟨j + 1, by omega, val_int (by omega), Lib.hid (by rw [ht2.out]; exact (HR.out.alloc _).alloc _), Lib.hid (by repeat' (first | with_reducible exact Below.refl _ _ | with_reducible exact Nat.le_refl _ | with_reducible assumption | with_reducible refine below_drewN ?_ _ | with_reducible refine Below.drew ?_ | with_reducible refine Below.trans ?_ (Below.mono (by assumption) ?_) | with_reducible refine Below.alloc ?_ ?_ _ | with_reducible refine Below.setCell ?_ ?_ _ | with_reducible refine le_setCell ?_ _ _ | with_reducible refine le_alloc ?_ _ | with_reducible refine le_drewN ?_ _ | with_reducible refine le_drew ?_ | with_reducible refine Nat.le_trans ?_ (Below.size (by assumption)) | (simp only [World.size_alloc, World.size_setCell]; omega)))⟩
        case measure => simp [intOf]; omega
    · have he : l.take j = l := List.take_of_length_le (by omega)
      rw [he] at HR
      have hfl : (l.filter vl).length ≤ l.length := List.length_filter_le ..
      go_wp2_with (first
        | (go_at_call 31; go_must (refine (C2.out _ _ _ w.heap.size HR.out hb.size (by omega)).mono ?_; rintro e1 w1 ⟨rfl, q, r1, p1, s1, b1⟩)))
      go_returns
      exact ⟨_, q, rfl, r1, p1, s1, hb.trans b1⟩

end Go.Proofs.Ytpeiiomimfiebaa
