/-
  The walks of Total, of same over equal lists, and of count.
-/
import Derived.Test.YtpeiiomimfiebaaW6
import Derived.Test.YtpeiiomimfiebaaW3
import Derived.Deep.QuietTactic
import Derived.BigQuiet
namespace Go.Proofs.Ytpeiiomimfiebaa
open Go Go.RowKit Go.Joins
set_option linter.unusedVariables false
set_option linter.unusedSimpArgs false

set_option maxRecDepth 20000 in
set_option maxHeartbeats 2000000 in
theorem total_any (l : List Sp) (v : Value) (w : World) (hT : SpArg w v l) (hn : l.length ≤ 4294967296) : Calls Try.prog 21 #[v] w fun e w' => e = .returned (.int .i64 (tot (un l))) ∧ Below w.heap.size w w' := by
  obtain ⟨k1, k2, _⟩ := un_all l
  have HP := Lib.hid (tot_part (un l) k1 k2); have HV := Lib.hid (vl_range k2)
  have C1 := Lib.hid (join_any l v w hT hn)
  have hlen := un_length l
  generalize un l = J at *
  clear hT k1 k2
  go_enter Try.func21, Try.ntmps21
  go_wp2_with (first
    | (go_at_call 17; go_must (refine C1.out.mono ?_; rintro e1 w1 ⟨u, rfl, r1, b1⟩; have q1 := r1.arg spC_size; obtain ⟨A, c, rfl, hA⟩ := q1; have HA := Lib.hid hA; have HB1 := Lib.hid b1; clear hA r1 b1)))
  go_loopw [9, 3] (fun i s wr => ∃ j : Nat, j ≤ J.length ∧ i = .int .i64 j ∧ s = .int .i64 (tot (J.take j)) ∧ Hid (Below w1.heap.size w1 wr)) (fun i _ _ => J.length - (intOf i).toNat)
  case atStart => exact ⟨0, Nat.zero_le _, rfl, rfl, Lib.hid (Below.refl _ _)⟩
  case round =>
    obtain ⟨j, hj, rfl, rfl, HB⟩ := hrel
    have hb := HB.out
    by_cases hjl : j < J.length
    · obtain ⟨g, o, rfl, hg, hc⟩ := HA.out (by omega)
      obtain ⟨a0, a1⟩ := arg_two hc j hjl
      have f0 := (hb.cell (p := ⟨g, o + j * 2, none⟩) hg).trans a0
      have f1 := (hb.cell (p := ⟨g, o + j * 2 + 1, none⟩) hg).trans a1
      clear a0 a1 hc
      have ht : tot (J.take (j + 1)) = tot (J.take j) + (J[j].2 - J[j].1) := by rw [List.take_succ_eq_append_getElem hjl, tot_snoc]
      have h1 := HP.out j
      have h2 := HP.out (j + 1)
      have h3 := HV.out J[j] (List.getElem_mem hjl)
      generalize J[j].1 = x0 at *
      generalize J[j].2 = x1 at *
      rw [ht] at h2
      have HT := Lib.hid ht
      clear ht
      generalize tot (J.take j) = T at *
      go_wp2
      go_roundw
      case rel => exact ⟨j + 1, by omega, val_int (by omega), val_int (by rw [HT.out]; try omega), Lib.hid (by repeat' (first | with_reducible exact Below.refl _ _ | with_reducible exact Nat.le_refl _ | with_reducible assumption | with_reducible refine below_drewN ?_ _ | with_reducible refine Below.drew ?_ | with_reducible refine Below.trans ?_ (Below.mono (by assumption) ?_) | with_reducible refine Below.alloc ?_ ?_ _ | with_reducible refine Below.setCell ?_ ?_ _ | with_reducible refine le_setCell ?_ _ _ | with_reducible refine le_alloc ?_ _ | with_reducible refine le_drewN ?_ _ | with_reducible refine le_drew ?_ | with_reducible refine Nat.le_trans ?_ (Below.size (by assumption)) | (simp only [World.size_alloc, World.size_setCell]; omega)))⟩
      case measure => simp [intOf]; omega
    · have he : J.take j = J := List.take_of_length_le (by omega)
      rw [he]
      go_wp2
      go_returns
      exact ⟨rfl, HB1.out.trans (hb.mono HB1.out.size)⟩

set_option maxRecDepth 20000 in
set_option maxHeartbeats 2000000 in
theorem same_any (l : List Sp) (V V' : Value) (w : World) (h1 : SpArg w V l) (h2 : SpArg w V' l) (hl : l.length ≤ 1099511627776) :
    Calls Try.prog 16 #[V, V'] w fun e w' => e = .returned (.bool true) ∧ Below w.heap.size w w' := by
  obtain ⟨A1, c1, rfl, h1⟩ := h1
  obtain ⟨A2, c2, rfl, h2⟩ := h2
  have H1 := Lib.hid h1; have H2 := Lib.hid h2
  have hl' : (l.length : Int) ≤ 1099511627776 := by omega
  clear h1 h2
  go_enter Try.func16, Try.ntmps16
  go_wp2
  go_loopw [5] (fun x wr => ∃ (k m : Nat), k ≤ l.length ∧ x = .int .i64 k ∧ wr = w.drewN m) (fun x _ => l.length - (intOf x).toNat)
  case atStart => exact ⟨0, 0, by omega, rfl, rfl⟩
  case round =>
    obtain ⟨k, m, hk, rfl, rfl⟩ := hrel
    by_cases hlt : k < l.length
    · obtain ⟨g1, o1, rfl, hg1, hc1⟩ := H1.out (by omega)
      obtain ⟨g2, o2, rfl, hg2, hc2⟩ := H2.out (by omega)
      obtain ⟨a0, a1⟩ := arg_two hc1 k hlt
      obtain ⟨b0, b1⟩ := arg_two hc2 k hlt
      clear hc1 hc2
      generalize l[k].1 = x0 at *
      generalize l[k].2 = x1 at *
      go_wp2
      go_quiet (fail)
      go_wp2
      go_roundw
      case rel => exact ⟨k + 1, m + nq, by omega, by go_num, rfl⟩
      case measure => simp [intOf]; omega
    · go_wp2
      go_returns
      exact ⟨rfl, Go.below_drewN (Below.refl _ _) _⟩

set_option maxRecDepth 20000 in
set_option maxHeartbeats 2000000 in
theorem count_any (l : List Sp) (V : Value) (t : Int) (w : World) (h1 : SpArg w V l) (hl : l.length ≤ 1099511627776) :
    Calls Try.prog 25 #[V, .int .i64 t] w fun e w' => e = .returned (.int .i64 (cnt l t : Nat)) ∧ Below w.heap.size w w' := by
  obtain ⟨A1, c1, rfl, h1⟩ := h1
  have H1 := Lib.hid h1
  have hl' : (l.length : Int) ≤ 1099511627776 := by omega
  clear h1
  go_enter Try.func25, Try.ntmps25
  go_wp2
  go_loopw [6, 5] (fun x n wr => ∃ (k : Nat), k ≤ l.length ∧ x = .int .i64 k ∧ n = .int .i64 (cnt (l.take k) t : Nat) ∧ wr = w) (fun x _ _ => l.length - (intOf x).toNat)
  case atStart => exact ⟨0, by omega, rfl, rfl, rfl⟩
  case round =>
    obtain ⟨k, hk, rfl, rfl, rfl⟩ := hrel
    by_cases hlt : k < l.length
    · obtain ⟨g1, o1, rfl, hg1, hc1⟩ := H1.out (by omega)
      obtain ⟨a0, a1⟩ := arg_two hc1 k hlt
      clear hc1
      have ht : cnt (l.take (k + 1)) t = cnt (l.take k) t + (if decide (l[k].1 ≤ t) && decide (t < l[k].2) then 1 else 0) := by rw [List.take_succ_eq_append_getElem hlt, cnt_snoc]
      have hle := cnt_le (l.take k) t
      rw [List.length_take] at hle
      have hle2 : cnt (l.take k) t ≤ k := by omega
      clear hle
      generalize l[k].1 = x0 at *
      generalize l[k].2 = x1 at *
      generalize cnt (l.take k) t = N at *
      by_cases i1 : x0 ≤ t <;> by_cases i2 : t < x1
      all_goals
        simp only [i1, i2, decide_true, decide_false, Bool.and_self, Bool.and_false, Bool.false_and, Bool.true_and, if_true, if_false, Bool.false_eq_true] at ht
        have HT := Lib.hid ht
        clear ht
        go_wp2
        go_roundw
        case rel => exact ⟨k + 1, by omega, by go_num, by rw [HT.out]; first | rfl | go_num, (by first | rfl | trivial)⟩
        case measure => simp [intOf]; omega
    · have he : l.take k = l := List.take_of_length_le (by omega)
      rw [he]
      go_wp2
      go_returns
      exact ⟨rfl, Below.refl _ _⟩

end Go.Proofs.Ytpeiiomimfiebaa
