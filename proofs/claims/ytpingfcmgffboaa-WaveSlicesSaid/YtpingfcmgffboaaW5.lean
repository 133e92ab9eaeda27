/-
  The walks of Edges, Slice and Invert (the program's).
-/
import Derived.Test.YtpingfcmgffboaaW4
namespace Go.Proofs.Ytpingfcmgffboaa
open Go Go.RowKit Go.Joins
set_option linter.unusedVariables false
set_option linter.unusedSimpArgs false

set_option maxRecDepth 20000 in
set_option maxHeartbeats 4000000 in
theorem edges_any (l : List Rn) (V : Value) (w : World) (hT : RnArg w V l) : Calls Try.prog 15 #[V] w fun e w' => ∃ v : Value, e = .returned v ∧ InRow w' w.heap.size v (es (cl l)) ∧ Below w.heap.size w w' := by
  have C1 := Lib.hid (clean_any l V w hT)
  obtain ⟨A0, c0, rfl, hA0⟩ := hT
  clear hA0
  have hv := cl_vl l
  generalize cl l = C at *
  have hlen := ((vl_iff C).1 hv).1
  have HV := Lib.hid hv
  clear hv
  go_enter Try.func15, Try.ntmps15
  go_wp2_with (first
    | (go_at_call 18; go_must (refine C1.out.mono ?_; rintro e1 w1 ⟨v1, rfl, r1, b1⟩; obtain ⟨A, c, rfl, hA⟩ := r1.arg rnC_size; have HA := Lib.hid hA; have B1 := Lib.hid b1; clear r1 b1 hA)))
  go_loopw [10, 3, 4] (fun i r s wr => ∃ j : Nat, j ≤ C.length ∧ i = .int .i64 j ∧ s = .int .i64 (lg (C.take j)) ∧ Hid (InRow wr w1.heap.size r (es (C.take j))) ∧ Hid (Below w1.heap.size w1 wr)) (fun i _ _ _ => C.length - (intOf i).toNat)
  case atStart => exact ⟨0, Nat.zero_le _, rfl, rfl, Lib.hid (KRow.nil _ _), Lib.hid (Below.refl _ _)⟩
  case round =>
    obtain ⟨j, hj, rfl, rfl, HR, HB⟩ := hrel
    have hb := HB.out
    by_cases hjl : j < C.length
    · obtain ⟨g, o, rfl, hg, hc⟩ := HA.out (by omega)
      obtain ⟨a0, a1⟩ := arg_two hc j hjl
      have f0 := (hb.cell (p := ⟨g, o + j * 2, none⟩) hg).trans a0
      have f1 := (hb.cell (p := ⟨g, o + j * 2 + 1, none⟩) hg).trans a1
      have hr := lg_take_range HV.out j
      have hx := el_range HV.out j hjl
      have htk := Lib.hid (lg_take C j hjl)
      have hel := es_len_take C j
      clear a0 a1 hc
      have HE : Hid ((j = 0 → es (C.take (j + 1)) = es (C.take j)) ∧ (0 < j → es (C.take (j + 1)) = es (C.take j) ++ [lg (C.take j)])) := Lib.hid ⟨fun e => by subst e; exact es_zero C hjl, fun h => es_succ C j hjl h⟩
      generalize C[j].1 = x0 at *
      generalize C[j].2 = x1 at *
      generalize lg (C.take j) = S at *
      generalize es (C.take j) = E at *
      obtain ⟨_, hx1, hx2⟩ := hx
      by_cases h0 : ¬ 0 < j
      · have HE2 := Lib.hid (HE.out.1 (by omega))
        have h0' : ¬ (0 : Int) < j := by omega
        clear HE h0
        go_wp2
        go_roundw
        case rel => exact ⟨j + 1, by omega, val_int (by omega), val_int (by rw [htk.out]), Lib.hid (by rw [HE2.out]; exact HR.out.alloc _), Lib.hid (by repeat' (first | with_reducible exact Below.refl _ _ | with_reducible exact Nat.le_refl _ | with_reducible assumption | with_reducible refine below_drewN ?_ _ | with_reducible refine Below.drew ?_ | with_reducible refine Below.trans ?_ (Below.mono (by assumption) ?_) | with_reducible refine Below.alloc ?_ ?_ _ | with_reducible refine Below.setCell ?_ ?_ _ | with_reducible refine le_setCell ?_ _ _ | with_reducible refine le_alloc ?_ _ | with_reducible refine le_drewN ?_ _ | with_reducible refine le_drew ?_ | with_reducible refine Nat.le_trans ?_ (Below.size (by assumption)) | (simp only [World.size_alloc, World.size_setCell]; omega)))⟩
        case measure => simp [intOf]; omega
      · have HE2 := Lib.hid (HE.out.2 (by omega))
        have h0' : (0 : Int) < j := by omega
        clear HE h0
        have m1 : (wr.alloc (.cells #[.int .i64 x0, .int .i64 x1] 38)).cell? ⟨wr.heap.size, 1, none⟩ = some (.int .i64 x1) := (RowAt.new wr 38 #[.int .i64 x0, .int .i64 x1]).cell 1
        have hwr : wr.heap.size < (wr.alloc (.cells #[.int .i64 x0, .int .i64 x1] 38)).heap.size := by rw [World.size_alloc]; omega
        obtain ⟨UA, UN, UC, rfl, hUN⟩ := HR.out.form
        clear hUN
        go_wp2_with (first
          | (at_builtin; go_must (refine wpList_append_in2 rfl _ _ rfl rfl rfl rfl (by simp only [World.size_alloc]) (HR.out.alloc _) (le_alloc hb.size _) (by omega) ?_; intro v5 w5 R5 b5 n5; have m5 := (kept_at n5 ⟨wr.heap.size, 1, none⟩ hwr (fun e => by have := (HR.out.lt _ e.symm).2; exact absurd this (Nat.lt_irrefl _))).trans m1)))
        go_roundw
        case rel => exact ⟨j + 1, by omega, val_int (by omega), val_int (by rw [htk.out]), Lib.hid (by rw [HE2.out]; exact R5), Lib.hid (by repeat' (first | with_reducible exact Below.refl _ _ | with_reducible exact Nat.le_refl _ | with_reducible assumption | with_reducible refine below_drewN ?_ _ | with_reducible refine Below.drew ?_ | with_reducible refine Below.trans ?_ (Below.mono (by assumption) ?_) | with_reducible refine Below.alloc ?_ ?_ _ | with_reducible refine Below.setCell ?_ ?_ _ | with_reducible refine le_setCell ?_ _ _ | with_reducible refine le_alloc ?_ _ | with_reducible refine le_drewN ?_ _ | with_reducible refine le_drew ?_ | with_reducible refine Nat.le_trans ?_ (Below.size (by assumption)) | (simp only [World.size_alloc, World.size_setCell]; omega)))⟩
        case measure => simp [intOf]; omega
    · have he : C.take j = C := List.take_of_length_le (by omega)
      rw [he] at HR
      clear he
      go_wp2
      go_returns
      exact ⟨_, rfl, HR.out.mono B1.out.size, B1.out.trans (hb.mono B1.out.size)⟩

theorem s1_yes {b : Int} {r : Rn} {f t : Int} (h : max b f < min (b + r.2) t) : s1 b r f t = [(r.1, min (b + r.2) t - max b f)] := by unfold s1; rw [if_pos h]
theorem s1_no {b : Int} {r : Rn} {f t : Int} (h : ¬ max b f < min (b + r.2) t) : s1 b r f t = [] := by unfold s1; rw [if_neg h]

set_option maxRecDepth 20000 in
set_option maxHeartbeats 4000000 in
theorem slice_any (l : List Rn) (V : Value) (F T : Int) (w : World) (hT : RnArg w V l) : Calls Try.prog 27 #[V, .int .i64 F, .int .i64 T] w fun e w' => ∃ v : Value, e = .returned v ∧ RnRow w' w.heap.size v (slV l F T) ∧ Below w.heap.size w w' := by
  have CV := Lib.hid (valid_any l V w hT)
  obtain ⟨A, c, rfl, hA⟩ := hT
  have HA := Lib.hid hA
  clear hA
  cases hv : vl l with
  | false =>
    have HL := Lib.hid (slV_no (l := l) (f := F) (t := T) (by rw [hv]; exact Bool.false_ne_true))
    rw [hv] at CV
    clear hv HA
    go_enter Try.func27, Try.ntmps27
    go_wp2_with (first
      | (go_at_call 11; go_must (refine CV.out.mono ?_; rintro e1 w1 ⟨rfl, b1⟩)))
    go_returns
    exact ⟨_, rfl, by rw [HL.out]; exact KRow.nil _ _, b1⟩
  | true =>
    have HL := Lib.hid (slV_yes (f := F) (t := T) hv)
    have HK := Lib.hid hv
    have hn := ((vl_iff l).1 hv).1
    have HS := Lib.hid (fun j => Nat.le_trans (sl_len (l.take j) 0 F T) (show (l.take j).length ≤ 262144 by rw [List.length_take]; omega))
    rw [hv] at CV
    clear hv
    go_enter Try.func27, Try.ntmps27
    go_wp2_with (first
      | (go_at_call 11; go_must (refine CV.out.mono ?_; rintro e1 w1 ⟨rfl, b1⟩; have B1 := Lib.hid b1; clear b1)))
    go_loopw [19, 7, 8] (fun i r s wr => ∃ j : Nat, j ≤ l.length ∧ i = .int .i64 j ∧ s = .int .i64 (lg (l.take j)) ∧ Hid (RnRow wr w.heap.size r (sl 0 (l.take j) F T)) ∧ Hid (Below w.heap.size w wr)) (fun i _ _ _ => l.length - (intOf i).toNat)
    case atStart => exact ⟨0, Nat.zero_le _, rfl, rfl, Lib.hid (KRow.nil _ _), B1⟩
    case round =>
      obtain ⟨j, hj, rfl, rfl, HR, HB⟩ := hrel
      have hb := HB.out
      by_cases hjl : j < l.length
      · obtain ⟨g, o, rfl, hg, hc⟩ := HA.out (by omega)
        obtain ⟨a0, a1⟩ := arg_two hc j hjl
        have f0 := (hb.cell (p := ⟨g, o + j * 2, none⟩) hg).trans a0
        have f1 := (hb.cell (p := ⟨g, o + j * 2 + 1, none⟩) hg).trans a1
        have hr := lg_take_range HK.out j
        have hx := el_range HK.out j hjl
        have htk := Lib.hid (lg_take l j hjl)
        have hst : sl 0 (l.take (j + 1)) F T = sl 0 (l.take j) F T ++ s1 (lg (l.take j)) (l[j].1, l[j].2) F T := sl_take l j hjl F T
        have hsl := HS.out j
        clear a0 a1 hc
        generalize l[j].1 = x0 at *
        generalize l[j].2 = x1 at *
        generalize lg (l.take j) = S at *
        generalize sl 0 (l.take j) F T = E at *
        obtain ⟨_, hx1, hx2⟩ := hx
        have hS1 : ∀ lo hi : Int, max S F = lo → min (S + x1) T = hi → (lo < hi → Hid (sl 0 (l.take (j + 1)) F T = E ++ [(x0, hi - lo)])) ∧ (¬ lo < hi → Hid (sl 0 (l.take (j + 1)) F T = E)) := by
          intro lo hi e1 e2
          refine ⟨fun h => Lib.hid ?_, fun h => Lib.hid ?_⟩
          · rw [hst, s1_yes (by rw [e1]; show lo < min (S + x1) T; rw [e2]; exact h), e1]; show E ++ [(x0, min (S + x1) T - lo)] = _; rw [e2]
          · rw [hst, s1_no (by rw [e1]; show ¬ lo < min (S + x1) T; rw [e2]; exact h), List.append_nil]
        clear hst
        obtain ⟨UA, UN, UC, rfl, hUN⟩ := HR.out.form
        clear hUN
        by_cases hF : S < F
        · by_cases hT : T < S + x1
          · obtain ⟨hy, hz⟩ := hS1 F T (by omega) (by omega)
            clear hS1
            by_cases hlt : F < T
            · have HST := hy hlt
              clear hy hz
              go_wp2_with (first
                | (at_builtin; go_must (refine wpList_append_rn rfl _ _ rfl rfl rfl rfl (by simp only [World.size_alloc]) (HR.out.alloc _) (le_alloc hb.size _) (by omega) ?_; intro v5 w5 R5 b5)))
              go_roundw
              case rel => exact ⟨j + 1, by omega, val_int (by omega), val_int (by rw [htk.out]), Lib.hid (by rw [HST.out]; exact R5), Lib.hid (by repeat' (first | with_reducible exact Below.refl _ _ | with_reducible exact Nat.le_refl _ | with_reducible assumption | with_reducible refine below_drewN ?_ _ | with_reducible refine Below.drew ?_ | with_reducible refine Below.trans ?_ (Below.mono (by assumption) ?_) | with_reducible refine Below.alloc ?_ ?_ _ | with_reducible refine Below.setCell ?_ ?_ _ | with_reducible refine le_setCell ?_ _ _ | with_reducible refine le_alloc ?_ _ | with_reducible refine le_drewN ?_ _ | with_reducible refine le_drew ?_ | with_reducible refine Nat.le_trans ?_ (Below.size (by assumption)) | (simp only [World.size_alloc, World.size_setCell]; omega)))⟩
              case measure => simp [intOf]; omega
            · have HST := hz hlt
              clear hy hz
              go_wp2
              go_roundw
              case rel => exact ⟨j + 1, by omega, val_int (by omega), val_int (by rw [htk.out]), Lib.hid (by rw [HST.out]; exact HR.out.alloc _), Lib.hid (by repeat' (first | with_reducible exact Below.refl _ _ | with_reducible exact Nat.le_refl _ | with_reducible assumption | with_reducible refine below_drewN ?_ _ | with_reducible refine Below.drew ?_ | with_reducible refine Below.trans ?_ (Below.mono (by assumption) ?_) | with_reducible refine Below.alloc ?_ ?_ _ | with_reducible refine Below.setCell ?_ ?_ _ | with_reducible refine le_setCell ?_ _ _ | with_reducible refine le_alloc ?_ _ | with_reducible refine le_drewN ?_ _ | with_reducible refine le_drew ?_ | with_reducible refine Nat.le_trans ?_ (Below.size (by assumption)) | (simp only [World.size_alloc, World.size_setCell]; omega)))⟩
              case measure => simp [intOf]; omega
          · obtain ⟨hy, hz⟩ := hS1 F (S + x1) (by omega) (by omega)
            clear hS1
            by_cases hlt : F < (S + x1)
            · have HST := hy hlt
              clear hy hz
              go_wp2_with (first
                | (at_builtin; go_must (refine wpList_append_rn rfl _ _ rfl rfl rfl rfl (by simp only [World.size_alloc]) (HR.out.alloc _) (le_alloc hb.size _) (by omega) ?_; intro v5 w5 R5 b5)))
              go_roundw
              case rel => exact ⟨j + 1, by omega, val_int (by omega), val_int (by rw [htk.out]), Lib.hid (by rw [HST.out]; exact R5), Lib.hid (by repeat' (first | with_reducible exact Below.refl _ _ | with_reducible exact Nat.le_refl _ | with_reducible assumption | with_reducible refine below_drewN ?_ _ | with_reducible refine Below.drew ?_ | with_reducible refine Below.trans ?_ (Below.mono (by assumption) ?_) | with_reducible refine Below.alloc ?_ ?_ _ | with_reducible refine Below.setCell ?_ ?_ _ | with_reducible refine le_setCell ?_ _ _ | with_reducible refine le_alloc ?_ _ | with_reducible refine le_drewN ?_ _ | with_reducible refine le_drew ?_ | with_reducible refine Nat.le_trans ?_ (Below.size (by assumption)) | (simp only [World.size_alloc, World.size_setCell]; omega)))⟩
              case measure => simp [intOf]; omega
            · have HST := hz hlt
              clear hy hz
              go_wp2
              go_roundw
              case rel => exact ⟨j + 1, by omega, val_int (by omega), val_int (by rw [htk.out]), Lib.hid (by rw [HST.out]; exact HR.out.alloc _), Lib.hid (by repeat' (first | with_reducible exact Below.refl _ _ | with_reducible exact Nat.le_refl _ | with_reducible assumption | with_reducible refine below_drewN ?_ _ | with_reducible refine Below.drew ?_ | with_reducible refine Below.trans ?_ (Below.mono (by assumption) ?_) | with_reducible refine Below.alloc ?_ ?_ _ | with_reducible refine Below.setCell ?_ ?_ _ | with_reducible refine le_setCell ?_ _ _ | with_reducible refine le_alloc ?_ _ | with_reducible refine le_drewN ?_ _ | with_reducible refine le_drew ?_ | with_reducible refine Nat.le_trans ?_ (Below.size (by assumption)) | (simp only [World.size_alloc, World.size_setCell]; omega)))⟩
              case measure => simp [intOf]; omega
        · by_cases hT : T < S + x1
          · obtain ⟨hy, hz⟩ := hS1 S T (by omega) (by omega)
            clear hS1
            by_cases hlt : S < T
            · have HST := hy hlt
              clear hy hz
              go_wp2_with (first
                | (at_builtin; go_must (refine wpList_append_rn rfl _ _ rfl rfl rfl rfl (by simp only [World.size_alloc]) (HR.out.alloc _) (le_alloc hb.size _) (by omega) ?_; intro v5 w5 R5 b5)))
              go_roundw
              case rel => exact ⟨j + 1, by omega, val_int (by omega), val_int (by rw [htk.out]), Lib.hid (by rw [HST.out]; exact R5), Lib.hid (by repeat' (first | with_reducible exact Below.refl _ _ | with_reducible exact Nat.le_refl _ | with_reducible assumption | with_reducible refine below_drewN ?_ _ | with_reducible refine Below.drew ?_ | with_reducible refine Below.trans ?_ (Below.mono (by assumption) ?_) | with_reducible refine Below.alloc ?_ ?_ _ | with_reducible refine Below.setCell ?_ ?_ _ | with_reducible refine le_setCell ?_ _ _ | with_reducible refine le_alloc ?_ _ | with_reducible refine le_drewN ?_ _ | with_reducible refine le_drew ?_ | with_reducible refine Nat.le_trans ?_ (Below.size (by assumption)) | (simp only [World.size_alloc, World.size_setCell]; omega)))⟩
              case measure => simp [intOf]; omega
            · have HST := hz hlt
              clear hy hz
              go_wp2
              go_roundw
              case rel => exact ⟨j + 1, by omega, val_int (by omega), val_int (by rw [htk.out]), Lib.hid (by rw [HST.out]; exact HR.out.alloc _), Lib.hid (by repeat' (first | with_reducible exact Below.refl _ _ | with_reducible exact Nat.le_refl _ | with_reducible assumption | with_reducible refine below_drewN ?_ _ | with_reducible refine Below.drew ?_ | with_reducible refine Below.trans ?_ (Below.mono (by assumption) ?_) | with_reducible refine Below.alloc ?_ ?_ _ | with_reducible refine Below.setCell ?_ ?_ _ | with_reducible refine le_setCell ?_ _ _ | with_reducible refine le_alloc ?_ _ | with_reducible refine le_drewN ?_ _ | with_reducible refine le_drew ?_ | with_reducible refine Nat.le_trans ?_ (Below.size (by assumption)) | (simp only [World.size_alloc, World.size_setCell]; omega)))⟩
              case measure => simp [intOf]; omega
          · obtain ⟨hy, hz⟩ := hS1 S (S + x1) (by omega) (by omega)
            clear hS1
            by_cases hlt : S < (S + x1)
            · have HST := hy hlt
              clear hy hz
              go_wp2_with (first
                | (at_builtin; go_must (refine wpList_append_rn rfl _ _ rfl rfl rfl rfl (by simp only [World.size_alloc]) (HR.out.alloc _) (le_alloc hb.size _) (by omega) ?_; intro v5 w5 R5 b5)))
              go_roundw
              case rel => exact ⟨j + 1, by omega, val_int (by omega), val_int (by rw [htk.out]), Lib.hid (by rw [HST.out]; exact R5), Lib.hid (by repeat' (first | with_reducible exact Below.refl _ _ | with_reducible exact Nat.le_refl _ | with_reducible assumption | with_reducible refine below_drewN ?_ _ | with_reducible refine Below.drew ?_ | with_reducible refine Below.trans ?_ (Below.mono (by assumption) ?_) | with_reducible refine Below.alloc ?_ ?_ _ | with_reducible refine Below.setCell ?_ ?_ _ | with_reducible refine le_setCell ?_ _ _ | with_reducible refine le_alloc ?_ _ | with_reducible refine le_drewN ?_ _ | with_reducible refine le_drew ?_ | with_reducible refine Nat.le_trans ?_ (Below.size (by assumption)) | (simp only [World.size_alloc, World.size_setCell]; omega)))⟩
              case measure => simp [intOf]; omega
            · exact absurd hlt (by omega)
      · have he : l.take j = l := List.take_of_length_le (by omega)
        rw [he] at HR
        clear he
        go_wp2
        go_returns
        exact ⟨_, rfl, by rw [HL.out]; exact HR.out, hb⟩

set_option maxRecDepth 20000 in
set_option maxHeartbeats 4000000 in
theorem invert_any (l : List Rn) (V : Value) (w : World) (hT : RnArg w V l) : Calls Try.prog 25 #[V] w fun e w' => ∃ v : Value, e = .returned v ∧ RnRow w' w.heap.size v (ivV l) ∧ Below w.heap.size w w' := by
  have CV := Lib.hid (valid_any l V w hT)
  have HT := Lib.hid (fun w' (hb : Below w.heap.size w w') => hT.keep hb)
  obtain ⟨A, c, rfl, hA⟩ := hT
  clear hA
  cases hv : vl l with
  | false =>
    have HL := Lib.hid (ivV_no (l := l) (by rw [hv]; exact Bool.false_ne_true))
    rw [hv] at CV
    clear hv HT
    go_enter Try.func25, Try.ntmps25
    go_wp2_with (first
      | (go_at_call 11; go_must (refine CV.out.mono ?_; rintro e1 w1 ⟨rfl, b1⟩)))
    go_returns
    exact ⟨_, rfl, by rw [HL.out]; exact KRow.nil _ _, b1⟩
  | true =>
    have HL := Lib.hid (ivV_yes hv)
    have HK := Lib.hid hv
    have hn := ((vl_iff l).1 hv).1
    have C2 := Lib.hid (fun w' h => copied_any l (.slice A l.length c) w' h hn)
    have C3 := Lib.hid other_any
    rw [hv] at CV
    clear hv
    go_enter Try.func25, Try.ntmps25
    go_wp2_with (first
      | (go_at_call 11; go_must (refine CV.out.mono ?_; rintro e1 w1 ⟨rfl, b1⟩; have B1 := Lib.hid b1; clear b1))
      | (go_at_call 36; go_must (refine (C2.out _ (HT.out _ B1.out)).mono ?_; rintro e2 w2 ⟨g2, c2, rfl, r2, b2⟩; have R2 := Lib.hid r2; have B2 := Lib.hid b2; clear r2 b2)))
    have hg2 := R2.out.len
    have HG := Lib.hid hg2
    clear hg2
    go_loopw [12] (fun i wr => ∃ j : Nat, j ≤ l.length ∧ i = .int .i64 j ∧ Hid (RnRow wr w1.heap.size (.slice (some ⟨g2, 0, none⟩) l.length c2) (iv (l.take j) ++ l.drop j)) ∧ Hid (Below w.heap.size w wr)) (fun i _ => l.length - (intOf i).toNat)
    case atStart => exact ⟨0, Nat.zero_le _, rfl, R2, Lib.hid (B1.out.trans (B2.out.mono B1.out.size))⟩
    case round =>
      obtain ⟨j, hj, rfl, HR, HB⟩ := hrel
      by_cases hjl : j < l.length
      · have hlen : (iv (l.take j)).length = j := by rw [iv_len, List.length_take]; omega
        have hX : j < (iv (l.take j) ++ l.drop j).length := by rw [List.length_append, hlen, List.length_drop]; omega
        obtain ⟨a0, a1, z0, z1⟩ := RnRow.two HR.out j hX
        have hE : (iv (l.take j) ++ l.drop j)[j] = l[j] := by
          rw [List.getElem_append_right (by omega), List.getElem_drop]
          congr 1
          omega
        have hx := el_range HK.out j hjl
        have hS : (iv (l.take j) ++ l.drop j).set j (1 - l[j].1, l[j].2) = iv (l.take (j + 1)) ++ l.drop (j + 1) := by
          rw [iv_take l j hjl, List.set_append_right _ _ (by omega), hlen, Nat.sub_self, List.drop_eq_getElem_cons hjl, List.set_cons_zero, List.append_assoc]
          rfl
        have HR3 := Lib.hid (KRow.cellSet rnC_size HR.out j 0 hX (by omega) (.int .i64 (1 - l[j].1)) (1 - l[j].1, l[j].2) (by rw [hE]; rfl))
        rw [hS] at HR3
        rw [hE] at a0 a1
        clear hlen hX hE hS z1 a1
        have HB3 := fun u => Lib.hid (Below.setCell (p := ⟨g2, j * 2, none⟩) HB.out (Nat.le_trans B1.out.size HG.out.2.2.1) u)
        generalize l[j].1 = x0 at *
        generalize l[j].2 = x1 at *
        go_wp2_with (first
          | (go_at_call 34; go_must (refine (C3.out _ _ hx.1).mono ?_; rintro e5 w5 ⟨rfl, rfl⟩)))
        go_roundw
        case rel => exact ⟨j + 1, by omega, val_int (by omega), HR3, HB3 _⟩
        case measure => simp [intOf]; omega
      · have he : l.take j = l := List.take_of_length_le (by omega)
        have hd : l.drop j = [] := List.drop_eq_nil_of_le (by omega)
        rw [he, hd, List.append_nil] at HR
        clear he hd
        go_wp2
        go_returns
        exact ⟨_, rfl, by rw [HL.out]; exact HR.out.mono B1.out.size, HB.out⟩

end Go.Proofs.Ytpingfcmgffboaa
