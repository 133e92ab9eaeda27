/-
  The walks of Edges, Slice and Invert (the program's).
-/
import Derived.Test.YtemmljngglnccaaW4
namespace Go.Proofs.Ytemmljngglnccaa
open Go Go.RowKit Go.Joins
set_option linter.unusedVariables false
set_option linter.unusedSimpArgs false

set_option maxRecDepth 20000 in
set_option maxHeartbeats 4000000 in
theorem edges_any (l : List Rn) (V : Value) (w : World) (hT : RnArg w V l) : Calls Try.prog 36 #[V] w fun e w' => ∃ v : Value, e = .returned v ∧ InRow w' w.heap.size v (es (cl l)) ∧ Below w.heap.size w w' := by
  have C1 := Lib.hid (clean_any l V w hT)
  obtain ⟨A0, c0, rfl, hA0⟩ := hT
  clear hA0
  have hv := cl_vl l
  generalize cl l = C at *
  have hlen := ((vl_iff C).1 hv).1
  have HV := Lib.hid hv
  clear hv
  go_enter Try.func36, Try.ntmps36
  go_wp2_with (first
    | (go_at_call 24; go_must (refine C1.out.mono ?_; rintro e1 w1 ⟨v1, rfl, r1, b1⟩; obtain ⟨A, c, rfl, hA⟩ := r1.arg rnC_size; have HA := Lib.hid hA; have B1 := Lib.hid b1; clear r1 b1 hA)))
  go_loopw [10, 3, 4] (fun i r s wr => ∃ j : Nat, j ≤ C.length ∧ i = .int .i64 j ∧ s = .int .i64 (lg (C.take j)) ∧ Hid (InRow wr w1.heap.size r (es (C.take j))) ∧ Hid (Below w1.heap.size w1 wr)) (fun i _ _ _ => C.length - (intOf i).toNat)
  case atStart => exact ⟨0, Nat.zero_le _, rfl, rfl, Lib.hid (KRow.nil _ _), Lib.hid (Below.refl _ _)⟩
  case round =>
    obtain ⟨j, hj, rfl, rfl, HR, HB⟩ := hrel
    have hb := HB.out
    by_cases hjl : j < C.length
    · obtain ⟨g, o, rfl, hg, hc⟩ := HA.out (by omega)
      obtain ⟨a0, a1⟩ := arg_two hc j hjl
      have f0 := (hb.cell (p := ⟨g, o + j * 2, none⟩) hg).trans a0
      have f1 := (hb.cell (p := ⟨g, o + j * 2 + 1, none⟩) hg).trans a1
      have hr := lg_take_range HV.out j
      have hx := el_range HV.out j hjl
      have htk := Lib.hid (lg_take C j hjl)
      have hel := es_len_take C j
      clear a0 a1 hc
      have HE : Hid ((j = 0 → es (C.take (j + 1)) = es (C.take j)) ∧ (0 < j → es (C.take (j + 1)) = es (C.take j) ++ [lg (C.take j)])) := Lib.hid ⟨fun e => by subst e; exact es_zero C hjl, fun h => es_succ C j hjl h⟩
      generalize C[j].1 = x0 at *
      generalize C[j].2 = x1 at *
      generalize lg (C.take j) = S at *
      generalize es (C.take j) = E at *
      obtain ⟨_, hx1, hx2⟩ := hx
      by_cases h0 : ¬ 0 < j
      · have HE2 := Lib.hid (HE.out.1 (by omega))
        have h0' : ¬ (0 : Int) < j := by omega
        clear HE h0
        go_wp2
        go_roundw
        case rel => exact ⟨j + 1, by omega, val_int (by omega), val_int (by rw [htk.out]), Lib.hid (by rw [HE2.out]; exact HR.out.alloc _), Lib.hid (by repeat' (first | with_reducible exact Below.refl _ _ | with_reducible exact Nat.le_refl _ | with_reducible assumption | with_reducible refine below_drewN ?_ _ | with_reducible refine Below.drew ?_ | with_reducible refine Below.trans ?_ (Below.mono (by assumption) ?_) | with_reducible refine Below.alloc ?_ ?_ _ | with_reducible refine Below.setCell ?_ ?_ _ | with_reducible refine le_setCell ?_ _ _ | with_reducible refine le_alloc ?_ _ | with_reducible refine le_drewN ?_ _ | with_reducible refine le_drew ?_ | with_reducible refine Nat.le_trans ?_ (Below.size (by assumption)) | (simp only [World.size_alloc, World.size_setCell]; omega)))⟩
        case measure => simp [intOf]; omega
      · have HE2 := Lib.hid (HE.out.2 (by omega))
        have h0' : (0 : Int) < j := by omega
        clear HE h0
        have m1 : (wr.alloc (.cells #[.int .i64 x0, .int .i64 x1] 48)).cell? ⟨wr.heap.size, 1, none⟩ = some (.int .i64 x1) := (RowAt.new wr 48 #[.int .i64 x0, .int .i64 x1]).cell 1
        have hwr : wr.heap.size < (wr.alloc (.cells #[.int .i64 x0, .int .i64 x1] 48)).heap.size := by rw [World.size_alloc]; omega
        obtain ⟨UA, UN, UC, rfl, hUN⟩ := HR.out.form
        clear hUN
        go_wp2_with (first
          | (at_builtin; go_must (refine wpList_append_in2 rfl _ _ rfl rfl rfl rfl (by simp only [World.size_alloc]) (HR.out.alloc _) (le_alloc hb.size _) (by omega) ?_; intro v5 w5 R5 b5 n5; have m5 := (kept_at n5 ⟨wr.heap.size, 1, none⟩ hwr (fun e => by have := (HR.out.lt _ e.symm).2; exact absurd this (Nat.lt_irrefl _))).trans m1)))
        go_roundw
        case rel => exact ⟨j + 1, by omega, val_int (by omega), val_int (by rw [htk.out]), Lib.hid (by rw [HE2.out]; exact R5), Lib.hid (by repeat' (first | with_reducible exact Below.refl _ _ | with_reducible exact Nat.le_refl _ | with_reducible assumption | with_reducible refine below_drewN ?_ _ | with_reducible refine Below.drew ?_ | with_reducible refine Below.trans ?_ (Below.mono (by assumption) ?_) | with_reducible refine Below.alloc ?_ ?_ _ | with_reducible refine Below.setCell ?_ ?_ _ | with_reducible refine le_setCell ?_ _ _ | with_reducible refine le_alloc ?_ _ | with_reducible refine le_drewN ?_ _ | with_reducible refine le_drew ?_ | with_reducible refine Nat.le_trans ?_ (Below.size (by assumption)) | (simp only [World.size_alloc, World.size_setCell]; omega)))⟩
        case measure => simp [intOf]; omega
    · have he : C.take j = C := List.take_of_length_le (by omega)
      rw [he] at HR
      clear he
      go_wp2
      go_returns
      exact ⟨_, rfl, HR.out.mono B1.out.size, B1.out.trans (hb.mono B1.out.size)⟩

theorem s1_yes {b : Int} {r : Rn} {f t : Int} (h : max b f < min (b + r.2) t) : s1 b r f t = [(r.1, min (b + r.2) t - max b f)] := by unfold s1; rw [if_pos h]
theorem s1_no {b : Int} {r : Rn} {f t : Int} (h : ¬ max b f < min (b + r.2) t) : s1 b r f t = [] := by unfold s1; rw [if_neg h]

end Go.Proofs.Ytemmljngglnccaa
