/-
  The walk of Join.
-/
import Derived.Test.YtpeiiomimfiebaaW5
import Derived.Deep.RegionWith
namespace Go.Proofs.Ytpeiiomimfiebaa
open Go Go.RowKit Go.Joins
set_option linter.unusedVariables false
set_option linter.unusedSimpArgs false

theorem kCs_set (l : List Sp) (j : Nat) (s : Sp) : kCs spC (l.set j s) = ((kCs spC l).set (j * 2) (.int .i64 s.1)).set (j * 2 + 1) (.int .i64 s.2) := by
  induction l generalizing j with
  | nil => simp [kCs]
  | cons a r ih =>
    cases j with
    | zero => simp [kCs_cons, spC]
    | succ j =>
      rw [List.set_cons_succ, kCs_cons, kCs_cons, ih]
      simp [spC, show (j + 1) * 2 = j * 2 + 1 + 1 by omega]
theorem SpRow.set {w : World} {B g n c : Nat} {l : List Sp} (h : SpRow w B (.slice (some ⟨g, 0, none⟩) n c) l) (j : Nat) (s : Sp) :
    SpRow ((w.setCell ⟨g, j * 2, none⟩ (.int .i64 s.1)).setCell ⟨g, j * 2 + 1, none⟩ (.int .i64 s.2)) B (.slice (some ⟨g, 0, none⟩) n c) (l.set j s) := by
  have hn : n = l.length := by
    obtain ⟨A, N, c', e, hN⟩ := KRow.form h
    simp only [Value.slice.injEq] at e
    omega
  subst hn
  have h1 := (World.ownsRow.stored h (j * 2) (.int .i64 s.1)).1
  have h2 := (World.ownsRow.stored h1 (j * 2 + 1) (.int .i64 s.2)).1
  unfold SpRow KRow
  rw [List.length_set, kCs_set]
  exact h2
/-- The two cells of an element of a row. -/
theorem SpRow.two {w : World} {B g n c : Nat} {l : List Sp} (h : SpRow w B (.slice (some ⟨g, 0, none⟩) n c) l) (j : Nat) (hj : j < l.length) : w.cell? ⟨g, j * 2, none⟩ = some (.int .i64 l[j].1) ∧ w.cell? ⟨g, j * 2 + 1, none⟩ = some (.int .i64 l[j].2) ∧ w.frozen? ⟨g, j * 2, none⟩ = false ∧ w.frozen? ⟨g, j * 2 + 1, none⟩ = false :=
  ⟨h.cell spC_size j hj 0 (by omega), h.cell spC_size j hj 1 (by omega), h.frozen _, h.frozen _⟩

theorem SpRow.someE {w : World} {B g n c : Nat} {l : List Sp} (h : SpRow w B (.slice (some ⟨g, 0, none⟩) n c) l) (j : Nat) (hj : j < l.length) : ∃ u0 u1 : Int, w.cell? ⟨g, j * 2, none⟩ = some (.int .i64 u0) ∧ w.cell? ⟨g, j * 2 + 1, none⟩ = some (.int .i64 u1) ∧ w.frozen? ⟨g, j * 2, none⟩ = false ∧ w.frozen? ⟨g, j * 2 + 1, none⟩ = false :=
  ⟨_, _, h.two j hj⟩

set_option maxRecDepth 20000 in
set_option maxHeartbeats 2000000 in
theorem join_any (l : List Sp) (v : Value) (w : World) (hT : SpArg w v l) (hn : l.length ≤ 4294967296) : Calls Try.prog 17 #[v] w fun e w' => ∃ u : Value, e = .returned u ∧ SpRow w' w.heap.size u (un l) ∧ Below w.heap.size w w' := by
  have hq := fun q (p : q.Perm (l.filter vl)) (o : q.Pairwise fun a b : Sp => a.1 ≤ b.1) => jn_un l q (fun s => (p.mem_iff).trans List.mem_filter) o
  have hql := fun (q : List Sp) (p : q.Perm (l.filter vl)) => Nat.le_trans (Nat.le_of_eq p.length_eq) (List.length_filter_le vl l)
  have C1 := Lib.hid (ascending_any l v w hT hn)
  have HQ := Lib.hid hq; have HL := Lib.hid hql
  clear hT hq hql
  go_enter Try.func17, Try.ntmps17
  go_wp2_with (first
    | (go_at_call 26; go_must (refine C1.out.mono ?_; rintro e1 w1 ⟨u, q, rfl, r1, p1, o1, b1⟩; have e9 := Lib.hid (HQ.out q p1 o1); have l9 := HL.out q p1; have q1 := r1.arg spC_size; clear p1 o1; obtain ⟨A, c, rfl, hA⟩ := q1; have HA := Lib.hid hA; have HB1 := Lib.hid b1; clear hA r1 b1)))
  go_loopw [10, 3] (fun i r wr => ∃ j : Nat, j ≤ q.length ∧ i = .int .i64 j ∧ Hid (SpRow wr w1.heap.size r (jn (q.take j))) ∧ Hid (Below w1.heap.size w1 wr)) (fun i _ _ => q.length - (intOf i).toNat)
  case atStart => exact ⟨0, Nat.zero_le _, rfl, Lib.hid (KRow.nil _ _), Lib.hid (Below.refl _ _)⟩
  case round =>
    obtain ⟨j, hj, rfl, HR, HB⟩ := hrel
    have hb := HB.out
    by_cases hjl : j < q.length
    · obtain ⟨g, o, rfl, hg, hc⟩ := HA.out (by omega)
      obtain ⟨a0, a1⟩ := arg_two hc j hjl
      have f0 := (hb.cell (p := ⟨g, o + j * 2, none⟩) hg).trans a0
      have f1 := (hb.cell (p := ⟨g, o + j * 2 + 1, none⟩) hg).trans a1
      clear a0 a1 hc
      have ht : jn (q.take (j + 1)) = put (jn (q.take j)) (q[j].1, q[j].2) := by rw [List.take_succ_eq_append_getElem hjl, jn_snoc]
      have hfl : (jn (q.take j)).length ≤ q.length := Nat.le_trans (jn_length _) (by rw [List.length_take]; omega)
      generalize q[j].1 = x0 at *
      generalize q[j].2 = x1 at *
      generalize jn (q.take j) = J at *
      rcases nil_or_snoc J with rfl | ⟨J0, a, rfl⟩
      · rw [put_nil] at ht
        have HT := Lib.hid ht
        obtain ⟨UA, UN, UC, rfl, hUN⟩ := HR.out.form
        obtain rfl : UN = 0 := hUN
        clear ht hfl
        go_wp2
        go_quiet (fail)
        go_wp2_with (first
          | (at_builtin; go_must (refine wpList_append_sp rfl _ _ rfl (x0, x1) rfl rfl rfl (World.size_alloc _ _).symm ((HR.out.alloc _).drewN _) (le_drewN (le_alloc hb.size _) _) (by simp) ?_; intro v5 w5 R5 b5)))
        go_roundw
        case rel => exact ⟨j + 1, by omega, val_int (by omega), Lib.hid (by rw [HT.out]; exact R5), Lib.hid (by repeat' (first | with_reducible exact Below.refl _ _ | with_reducible exact Nat.le_refl _ | with_reducible assumption | with_reducible refine below_drewN ?_ _ | with_reducible refine Below.drew ?_ | with_reducible refine Below.trans ?_ (Below.mono (by assumption) ?_) | with_reducible refine Below.alloc ?_ ?_ _ | with_reducible refine Below.setCell ?_ ?_ _ | with_reducible refine le_setCell ?_ _ _ | with_reducible refine le_alloc ?_ _ | with_reducible refine le_drewN ?_ _ | with_reducible refine le_drew ?_ | with_reducible refine Nat.le_trans ?_ (Below.size (by assumption)) | (simp only [World.size_alloc, World.size_setCell]; omega)))⟩
        case measure => simp [intOf]; omega
      · have HT := Lib.hid ht
        rw [put_snoc] at ht
        obtain ⟨G, C, rfl⟩ := HR.out.full (by simp)
        have hK : (J0 ++ [a]).length = J0.length + 1 := by simp
        rw [hK] at HR hfl
        obtain ⟨c0, c1, z0, z1⟩ := SpRow.two HR.out J0.length (by simp)
        simp only [List.getElem_concat_length] at c0 c1
        obtain ⟨y0, y1⟩ := a
        have hG := (HR.out.lt G rfl)
        have Bx := ba wr (.cells #[.int .i64 x0, .int .i64 x1] 23)
        have d0 := (Bx.cell (p := ⟨G, J0.length * 2, none⟩) hG.2).trans c0
        have d1 := (Bx.cell (p := ⟨G, J0.length * 2 + 1, none⟩) hG.2).trans c1
        generalize hKK : J0.length = K at *
        clear c0 c1 z0 z1 HT
        by_cases hle : x0 ≤ y1
        · rw [if_pos hle] at ht
          have HT := Lib.hid ht
          clear ht
          go_wp2
          go_quiet (fail)
          have hW := Lib.hid (show SpRow ((wr.alloc (.cells #[.int .i64 x0, .int .i64 x1] 23)).drewN nq) w1.heap.size (.slice (some ⟨G, 0, none⟩) (K + 1) C) (J0 ++ [(y0, y1)]) from (HR.out.alloc _).drewN _)
          have hbW := Lib.hid (show Below w1.heap.size w1 ((wr.alloc (.cells #[.int .i64 x0, .int .i64 x1] 23)).drewN nq) from (by repeat' (first | with_reducible exact Below.refl _ _ | with_reducible exact Nat.le_refl _ | with_reducible assumption | with_reducible refine below_drewN ?_ _ | with_reducible refine Below.drew ?_ | with_reducible refine Below.trans ?_ (Below.mono (by assumption) ?_) | with_reducible refine Below.alloc ?_ ?_ _ | with_reducible refine Below.setCell ?_ ?_ _ | with_reducible refine le_setCell ?_ _ _ | with_reducible refine le_alloc ?_ _ | with_reducible refine le_drewN ?_ _ | with_reducible refine le_drew ?_ | with_reducible refine Nat.le_trans ?_ (Below.size (by assumption)) | (simp only [World.size_alloc, World.size_setCell]; omega))))
          have hlW := Lib.hid (show wr.heap.size < ((wr.alloc (.cells #[.int .i64 x0, .int .i64 x1] 23)).drewN nq).heap.size from by show _ < (wr.alloc _).heap.size; rw [World.size_alloc]; omega)
          have s0 : ((wr.alloc (.cells #[.int .i64 x0, .int .i64 x1] 23)).drewN nq).cell? ⟨wr.heap.size, 0, none⟩ = some (.int .i64 x0) := (RowAt.new wr 23 #[.int .i64 x0, .int .i64 x1]).cell 0
          have s1 : ((wr.alloc (.cells #[.int .i64 x0, .int .i64 x1] 23)).drewN nq).cell? ⟨wr.heap.size, 1, none⟩ = some (.int .i64 x1) := (RowAt.new wr 23 #[.int .i64 x0, .int .i64 x1]).cell 1
          have d2 : ((wr.alloc (.cells #[.int .i64 x0, .int .i64 x1] 23)).drewN nq).cell? ⟨G, K * 2, none⟩ = some (.int .i64 y0) := d0
          have d3 : ((wr.alloc (.cells #[.int .i64 x0, .int .i64 x1] 23)).drewN nq).cell? ⟨G, K * 2 + 1, none⟩ = some (.int .i64 y1) := d1
          clear d0 d1 HR Bx f0 f1 HA hG hb HB
          generalize (wr.alloc (.cells #[.int .i64 x0, .int .i64 x1] 23)).drewN nq = W at *
          generalize wr.heap.size = b at *
          have HS := Lib.hid (show (J0 ++ [(y0, y1)]).set K (min y0 x0, max y1 x1) = J0 ++ [bd (y0, y1) (x0, x1)] from by rw [← hKK]; simp [bd])
          have hKl := Lib.hid (show K < (J0 ++ [(y0, y1)]).length from by omega)
          have hG2 := (hW.out.lt G rfl).2
          have d4 := ((ba W (.cells #[.int .i64 x0, .int .i64 x1] 23)).cell (p := ⟨G, K * 2, none⟩) hG2).trans d2
          have d5 := ((ba W (.cells #[.int .i64 x0, .int .i64 x1] 23)).cell (p := ⟨G, K * 2 + 1, none⟩) hG2).trans d3
          have CB := Lib.hid (bounds_xy y0 y1 x0 x1 W.heap.size 1 ((W.alloc (.cells #[.int .i64 x0, .int .i64 x1] 23)).drew) ((RowAt.new W 23 #[.int .i64 x0, .int .i64 x1]).cell 0) ((RowAt.new W 23 #[.int .i64 x0, .int .i64 x1]).cell 1) (show W.heap.size < (W.alloc _).heap.size by rw [World.size_alloc]; omega))
          go_wp2
          go_region_with (first
            | (go_at_call 27; go_must (refine CB.out.mono ?_; rintro e5 w5 ⟨rfl, b5⟩; have R5 := KRow.keep (show SpRow ((W.alloc (.cells #[.int .i64 x0, .int .i64 x1] 23)).drew) w1.heap.size (.slice (some ⟨G, 0, none⟩) (K + 1) C) (J0 ++ [(y0, y1)]) from hW.out.alloc _) b5; obtain ⟨u0, u1, t0, t1, z0, z1⟩ := SpRow.someE R5 K hKl.out)))
          all_goals
            go_wp2
            go_roundw
            case rel => exact ⟨j + 1, by omega, val_int (by omega), Lib.hid (by rw [HT.out, ← HS.out]; exact SpRow.set R5 K (min y0 x0, max y1 x1)), Lib.hid (Below.setCell (Below.setCell (hbW.out.trans (((ba W (.cells #[.int .i64 x0, .int .i64 x1] 23)).drew.mono hbW.out.size).trans (b5.mono (Nat.le_trans hbW.out.size (ba W (.cells #[.int .i64 x0, .int .i64 x1] 23)).size)))) (hW.out.lt G rfl).1 _) (hW.out.lt G rfl).1 _)⟩
            case measure => simp [intOf]; omega
        · rw [if_neg hle] at ht
          have HT := Lib.hid ht
          clear ht
          go_wp2
          go_quiet (fail)
          go_wp2_with (first
            | (at_builtin; go_must (refine wpList_append_sp rfl _ _ rfl (x0, x1) rfl rfl rfl (World.size_alloc _ _).symm ((HR.out.alloc _).drewN _) (le_drewN (le_alloc hb.size _) _) (by omega) ?_; intro v5 w5 R5 b5)))
          go_roundw
          case rel => exact ⟨j + 1, by omega, val_int (by omega), Lib.hid (by rw [HT.out]; exact R5), Lib.hid (by repeat' (first | with_reducible exact Below.refl _ _ | with_reducible exact Nat.le_refl _ | with_reducible assumption | with_reducible refine below_drewN ?_ _ | with_reducible refine Below.drew ?_ | with_reducible refine Below.trans ?_ (Below.mono (by assumption) ?_) | with_reducible refine Below.alloc ?_ ?_ _ | with_reducible refine Below.setCell ?_ ?_ _ | with_reducible refine le_setCell ?_ _ _ | with_reducible refine le_alloc ?_ _ | with_reducible refine le_drewN ?_ _ | with_reducible refine le_drew ?_ | with_reducible refine Nat.le_trans ?_ (Below.size (by assumption)) | (simp only [World.size_alloc, World.size_setCell]; omega)))⟩
          case measure => simp [intOf]; omega
    · have he : q.take j = q := List.take_of_length_le (by omega)
      rw [he, e9.out] at HR
      go_wp2
      go_returns
      exact ⟨_, rfl, HR.out.mono HB1.out.size, HB1.out.trans (hb.mono HB1.out.size)⟩

end Go.Proofs.Ytpeiiomimfiebaa
