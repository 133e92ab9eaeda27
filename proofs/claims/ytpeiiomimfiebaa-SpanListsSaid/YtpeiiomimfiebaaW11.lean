/-
  The walks of the specification's Join, Gaps and Total.
-/
import Derived.Test.YtpeiiomimfiebaaW10
namespace Go.Proofs.Ytpeiiomimfiebaa
open Go Go.RowKit Go.Joins
set_option linter.unusedVariables false
set_option linter.unusedSimpArgs false

theorem refJoin_any (l : List Sp) (V : Value) (w : World) (hT : SpArg w V l) (hn : l.length ≤ 4294967296) :
    Calls Try.prog 18 #[V] w fun e w' => ∃ u : Value, e = .returned u ∧ SpRow w' w.heap.size u (un l) ∧ Below w.heap.size w w' := by
  have C1 := Lib.hid (cut_any l V 0 1099511627776 true w hT hn (by omega) (by omega) (by omega))
  have HU := Lib.hid (fun out (h : CI l 0 true 1099511627776 out) => CI.union h)
  clear hT
  go_enter Try.func18, Try.ntmps18
  go_wp2_with (first
    | (go_at_call 28; go_must (refine C1.out.mono ?_; rintro e1 w1 ⟨v, out, rfl, r1, i1, b1⟩; have E := Lib.hid (HU.out out i1); have R1 := Lib.hid r1; clear i1 r1)))
  go_returns
  exact ⟨_, rfl, by rw [← E.out]; exact R1.out, b1⟩

set_option maxHeartbeats 1000000 in
theorem refGaps_any (l : List Sp) (V : Value) (u z : Int) (w : World) (hT : SpArg w V l) (hn : l.length ≤ 4294967296) :
    Calls Try.prog 20 #[V, .agg #[.int .i64 u, .int .i64 z]] w fun e w' => ∃ v : Value, e = .returned v ∧ SpRow w' w.heap.size v (ga l (u, z)) ∧ Below w.heap.size w w' := by
  have CV := Lib.hid refValid_xy
  have HT := Lib.hid (fun W (hb : Below w.heap.size w W) => KArg.keep hT hb)
  clear hT
  cases hv : vl (u, z) with
  | false =>
    have HG := Lib.hid (ga_invalid (l := l) hv)
    go_enter Try.func20, Try.ntmps20
    go_wp2_with (first
      | (go_at_call 13; go_must (refine (CV.out _ _ _).mono ?_; rintro e1 w1 ⟨rfl, rfl⟩)))
    go_returns
    refine ⟨_, rfl, ?_, (by repeat' (first | with_reducible exact Below.refl _ _ | with_reducible exact Nat.le_refl _ | with_reducible assumption | with_reducible refine below_drewN ?_ _ | with_reducible refine Below.drew ?_ | with_reducible refine Below.trans ?_ (Below.mono (by assumption) ?_) | with_reducible refine Below.alloc ?_ ?_ _ | with_reducible refine Below.setCell ?_ ?_ _ | with_reducible refine le_setCell ?_ _ _ | with_reducible refine le_alloc ?_ _ | with_reducible refine le_drewN ?_ _ | with_reducible refine le_drew ?_ | with_reducible refine Nat.le_trans ?_ (Below.size (by assumption)) | (simp only [World.size_alloc, World.size_setCell]; omega)))⟩
    rw [HG.out]
    have h := KRow.lit (T := 23) spC_size ((w.alloc (.cells #[.int .i64 u, .int .i64 z] 23)).alloc (.cells #[.int .i64 u, .int .i64 z] 23)) w.heap.size (le_alloc (le_alloc (Nat.le_refl _) _) _) [] #[] rfl 0 rfl (by simp)
    rw [World.size_alloc, World.size_alloc] at h
    exact h
  | true =>
    have v1 := (vl_iff _).1 hv
    simp only at v1
    have C1 := Lib.hid (fun W h => cut_any l V u z false W h hn v1.1 (by omega) v1.2.2)
    have HU := Lib.hid (fun out (h : CI l u false z out) => CI.gaps (all := (u, z)) hv h)
    clear v1
    go_enter Try.func20, Try.ntmps20
    go_wp2_with (first
      | (go_at_call 13; go_must (refine (CV.out _ _ _).mono ?_; rintro e1 w1 ⟨rfl, rfl⟩))
      | (go_at_call 28; go_must (refine (C1.out _ (HT.out _ ((ba w _).trans ((ba (w.alloc _) _).mono (by rw [World.size_alloc]; omega))))).mono ?_; rintro e1 w1 ⟨v, out, rfl, r1, i1, b1⟩; have E := Lib.hid (HU.out out i1); have R1 := Lib.hid r1; clear i1 r1)))
    go_returns
    exact ⟨_, rfl, by rw [← E.out]; exact R1.out.mono (by rw [World.size_alloc, World.size_alloc]; omega), (by repeat' (first | with_reducible exact Below.refl _ _ | with_reducible exact Nat.le_refl _ | with_reducible assumption | with_reducible refine below_drewN ?_ _ | with_reducible refine Below.drew ?_ | with_reducible refine Below.trans ?_ (Below.mono (by assumption) ?_) | with_reducible refine Below.alloc ?_ ?_ _ | with_reducible refine Below.setCell ?_ ?_ _ | with_reducible refine le_setCell ?_ _ _ | with_reducible refine le_alloc ?_ _ | with_reducible refine le_drewN ?_ _ | with_reducible refine le_drew ?_ | with_reducible refine Nat.le_trans ?_ (Below.size (by assumption)) | (simp only [World.size_alloc, World.size_setCell]; omega)))⟩

set_option maxRecDepth 20000 in
set_option maxHeartbeats 2000000 in
theorem refTotal_any (l : List Sp) (v : Value) (w : World) (hT : SpArg w v l) (hn : l.length ≤ 4294967296) : Calls Try.prog 22 #[v] w fun e w' => e = .returned (.int .i64 (tot (un l))) ∧ Below w.heap.size w w' := by
  obtain ⟨k1, k2, _⟩ := un_all l
  have HP := Lib.hid (tot_part (un l) k1 k2); have HV := Lib.hid (vl_range k2)
  have C1 := Lib.hid (refJoin_any l v w hT hn)
  have hlen := un_length l
  generalize un l = J at *
  clear hT k1 k2
  go_enter Try.func22, Try.ntmps22
  go_wp2_with (first
    | (go_at_call 18; go_must (refine C1.out.mono ?_; rintro e1 w1 ⟨u, rfl, r1, b1⟩; have q1 := r1.arg spC_size; obtain ⟨A, c, rfl, hA⟩ := q1; have HA := Lib.hid hA; have HB1 := Lib.hid b1; clear hA r1 b1)))
  go_loopw [5, 3] (fun i s wr => ∃ j m : Nat, j ≤ J.length ∧ i = .int .i64 j ∧ s = .int .i64 (tot (J.take j)) ∧ wr = w1.drewN m) (fun i _ _ => J.length - (intOf i).toNat)
  case atStart => exact ⟨0, 0, Nat.zero_le _, rfl, rfl, rfl⟩
  case round =>
    obtain ⟨j, m, hj, rfl, rfl, rfl⟩ := hrel
    by_cases hjl : j < J.length
    · obtain ⟨g, o, rfl, hg, hc⟩ := HA.out (by omega)
      obtain ⟨f0, f1⟩ := arg_two hc j hjl
      clear hc
      have ht : tot (J.take (j + 1)) = tot (J.take j) + (J[j].2 - J[j].1) := by rw [List.take_succ_eq_append_getElem hjl, tot_snoc]
      have h1 := HP.out j
      have h2 := HP.out (j + 1)
      have h3 := HV.out J[j] (List.getElem_mem hjl)
      generalize J[j].1 = x0 at *
      generalize J[j].2 = x1 at *
      rw [ht] at h2
      have HT := Lib.hid ht
      clear ht
      generalize tot (J.take j) = T at *
      have w1' : IntKind.i64.wrap (T + x1) = T + x1 := IntWalk.i64_in _ (by omega)
      have w2' : IntKind.i64.wrap (T + x1 - x0) = T + x1 - x0 := IntWalk.i64_in _ (by omega)
      go_wp2
      go_quiet (fail)
      go_wp2
      go_roundw
      case rel => exact ⟨j + 1, m + nq, by omega, by go_num, val_int (by rw [HT.out]; omega), rfl⟩
      case measure => simp [intOf]; omega
    · have he : J.take j = J := List.take_of_length_le (by omega)
      rw [he]
      go_wp2
      go_returns
      exact ⟨rfl, Go.below_drewN HB1.out _⟩

end Go.Proofs.Ytpeiiomimfiebaa
