/-
  checkNames and the specification's names.
-/
import Derived.Test.YtcodoakfomddfaaW3
namespace Go.Proofs.Ytcodoakfomddfaa
open Go Go.RowKit Go.Joins
set_option linter.unusedVariables false
set_option linter.unusedSimpArgs false

set_option maxRecDepth 20000 in
set_option maxHeartbeats 2000000 in
theorem checkNames_any (l : List ByteArray) (v : Value) (w : World) (hT : NmArg w v l) (hs : szs l) : Calls Try.prog 41 #[v] w fun e w' => e = .returned (.int .i64 (ckN l)) ∧ Below w.heap.size w w' := by
  obtain ⟨A, c, rfl, hc, hA⟩ := hT.form
  have HA := Lib.hid hA
  clear hA hT
  by_cases h6 : 16 < l.length
  · have HV := Lib.hid (ckN_6 h6)
    have h6' : (16 : Int) < l.length := by omega
    clear h6
    go_enter Try.func41, Try.ntmps41
    go_wp2
    go_returns
    exact ⟨ret_int HV.out.symm, Below.refl _ _⟩
  by_cases h0 : l.length = 0
  · have HV := Lib.hid (ckN_1 h0)
    obtain rfl : l = [] := List.eq_nil_of_length_eq_zero h0
    clear h6 h0 HA
    go_enter Try.func41, Try.ntmps41
    go_wp2
    go_returns
    exact ⟨ret_int HV.out.symm, Below.refl _ _⟩
  have h6' : (l.length : Int) ≤ 16 := by omega
  have h0' : ((l.length : Int) == 0) = false := by simpa using h0
  have H9 := Lib.hid (fun a b => ckN_9 h6 h0 a b); have H0 := Lib.hid (fun a b => ckN_0 h6 h0 a b); have H4 := Lib.hid (fun a => ckN_4 h6 h0 a)
  have CN := Lib.hid (fun s w h => name_any s w h)
  have HZ := Lib.hid (fun j hj => hs.at j hj)
  generalize ckN l = r at *
  go_enter Try.func41, Try.ntmps41
  go_wp2
  go_loopw [15] (fun i wr => ∃ j : Nat, j ≤ l.length ∧ i = .int .i64 j ∧ Hid ((l.take j).all nmB = true) ∧ Hid (Below w.heap.size w wr)) (fun i _ => l.length - (intOf i).toNat)
  case atStart => exact ⟨0, Nat.zero_le _, rfl, Lib.hid rfl, Lib.hid (Below.refl _ _)⟩
  case round =>
    obtain ⟨j, hj, rfl, HR, HB⟩ := hrel
    have hb := HB.out
    by_cases hjl : j < l.length
    · obtain ⟨g, o, rfl, hg, hcell⟩ := HA.out (by omega)
      have f0 := (hb.cell (p := ⟨g, o + j, none⟩) hg).trans (hcell j hjl)
      clear hcell
      have C1 := fun w => CN.out l[j] w (HZ.out j hjl)
      cases hh : nm l[j].data.toList with
      | true =>
        have HR2 := Lib.hid (all_take hjl HR.out hh)
        rw [hh] at C1
        have C2 := Lib.hid C1
        clear C1 hh HR
        go_wp2_with (first
          | (go_at_call 54; go_must (refine (C2.out _).mono ?_; rintro e1 w1 ⟨rfl, b1⟩)))
        go_roundw
        case rel => exact ⟨j + 1, by omega, val_int (by omega), HR2, Lib.hid (hb.trans (b1.mono hb.size))⟩
        case measure => simp [intOf]; omega
      | false =>
        have HV := Lib.hid (H4.out (all_no hjl hh))
        rw [hh] at C1
        have C2 := Lib.hid C1
        clear C1 hh HR
        go_wp2_with (first
          | (go_at_call 54; go_must (refine (C2.out _).mono ?_; rintro e1 w1 ⟨rfl, b1⟩)))
        go_returns
        exact ⟨ret_int HV.out.symm, hb.trans (b1.mono hb.size)⟩
    · have HAll := Lib.hid (show l.all nmB = true by rw [← List.take_of_length_le (show l.length ≤ j by omega)]; exact HR.out)
      clear HR
      go_wp2
      go_loopw [25] (fun i wr => ∃ j : Nat, j ≤ l.length ∧ i = .int .i64 j ∧ Hid (dpT l j = false) ∧ Hid (Below w.heap.size w wr)) (fun i _ => l.length - (intOf i).toNat)
      case atStart => exact ⟨0, Nat.zero_le _, rfl, Lib.hid rfl, HB⟩
      case round =>
        obtain ⟨k, hk, rfl, HD, HB⟩ := hrel
        have hb := HB.out
        by_cases hkl : k < l.length
        · obtain ⟨g, o, rfl, hg, hcell⟩ := HA.out (by omega)
          have f0 := (hb.cell (p := ⟨g, o + k, none⟩) hg).trans (hcell k hkl)
          have hcw : (k : Int) ≤ c := by omega
          have HT := Lib.hid (fun w' (hb : Below w.heap.size w w') => (NmArg.take k (by omega) hc hg hcell).keep hb)
          have C1 := fun w' hb' => contains_any (l.take k) (.slice (some ⟨g, o, none⟩) k c) l[k] w' (HT.out w' hb') (by rw [List.length_take]; omega)
          clear hcell HT
          cases hh : has (l.take k) l[k] with
          | true =>
            have HV := Lib.hid (H9.out HAll.out (dpT_yes hkl hh))
            rw [hh] at C1
            have C2 := Lib.hid C1
            clear C1 hh
            go_wp2_with (first
              | (go_at_call 55; go_must (refine (C2.out _ HB.out).mono ?_; rintro e1 w1 ⟨rfl, rfl⟩)))
            go_returns
            exact ⟨ret_int HV.out.symm, hb⟩
          | false =>
            have HD2 := Lib.hid (show dpT l (k + 1) = false by rw [dpT_step hkl HD.out, hh])
            rw [hh] at C1
            have C2 := Lib.hid C1
            clear C1 hh
            go_wp2_with (first
              | (go_at_call 55; go_must (refine (C2.out _ HB.out).mono ?_; rintro e1 w1 ⟨rfl, rfl⟩)))
            go_roundw
            case rel => exact ⟨k + 1, by omega, val_int (by omega), HD2, HB⟩
            case measure => simp [intOf]; omega
        · have HV := Lib.hid (H0.out HAll.out (by rw [← show k = l.length by omega]; exact HD.out))
          go_wp2
          go_returns
          exact ⟨ret_int HV.out.symm, hb⟩

set_option maxRecDepth 20000 in
set_option maxHeartbeats 2000000 in
theorem rnames_any (l : List ByteArray) (v : Value) (w : World) (hT : NmArg w v l) (hs : szs l) : Calls Try.prog 45 #[v] w fun e w' => e = .returned (.int .i64 (ckN l)) ∧ Below w.heap.size w w' := by
  obtain ⟨A, c, rfl, hc, hA⟩ := hT.form
  have HA := Lib.hid hA
  clear hA hT
  by_cases h6 : 16 < l.length
  · have HV := Lib.hid (ckN_6 h6)
    have h6' : (16 : Int) < l.length := by omega
    clear h6
    go_enter Try.func45, Try.ntmps45
    go_wp2
    go_returns
    exact ⟨ret_int HV.out.symm, Below.refl _ _⟩
  by_cases h0 : l.length = 0
  · have HV := Lib.hid (ckN_1 h0)
    obtain rfl : l = [] := List.eq_nil_of_length_eq_zero h0
    clear h6 h0 HA
    go_enter Try.func45, Try.ntmps45
    go_wp2
    go_returns
    exact ⟨ret_int HV.out.symm, Below.refl _ _⟩
  have h6' : (l.length : Int) ≤ 16 := by omega
  have h0' : ((l.length : Int) == 0) = false := by simpa using h0
  have H9 := Lib.hid (fun a b => ckN_9 h6 h0 a b); have H0 := Lib.hid (fun a b => ckN_0 h6 h0 a b); have H4 := Lib.hid (fun a => ckN_4 h6 h0 a)
  have CN := Lib.hid (fun s w h => rname_any s w h)
  have HZ := Lib.hid (fun j hj => hs.at j hj)
  generalize ckN l = r at *
  go_enter Try.func45, Try.ntmps45
  go_wp2
  go_loop [3] (fun i => ∃ j : Nat, j ≤ l.length ∧ i = .int .i64 j ∧ Hid ((l.take j).all nmB = true)) (fun i => l.length - (intOf i).toNat)
  case atStart => exact ⟨0, Nat.zero_le _, rfl, Lib.hid rfl⟩
  case round =>
    obtain ⟨j, hj, rfl, HR⟩ := hrel
    by_cases hjl : j < l.length
    · obtain ⟨g, o, rfl, hg, hcell⟩ := HA.out (by omega)
      have f0 := hcell j hjl
      clear hcell
      have C1 := fun w => CN.out l[j] w (HZ.out j hjl)
      cases hh : nm l[j].data.toList with
      | true =>
        have HR2 := Lib.hid (all_take hjl HR.out hh)
        rw [hh] at C1
        have C2 := Lib.hid C1
        clear C1 hh HR
        go_wp2_with (first
          | (go_at_call 57; go_must (refine (C2.out _).mono ?_; rintro e1 w1 ⟨rfl, rfl⟩)))
        go_round
        case rel => exact ⟨j + 1, by omega, val_int (by omega), HR2⟩
        case measure => simp [intOf]; omega
      | false =>
        have HV := Lib.hid (H4.out (all_no hjl hh))
        rw [hh] at C1
        have C2 := Lib.hid C1
        clear C1 hh HR
        go_wp2_with (first
          | (go_at_call 57; go_must (refine (C2.out _).mono ?_; rintro e1 w1 ⟨rfl, rfl⟩)))
        go_returns
        exact ⟨ret_int HV.out.symm, Below.refl _ _⟩
    · have HAll := Lib.hid (show l.all nmB = true by rw [← List.take_of_length_le (show l.length ≤ j by omega)]; exact HR.out)
      clear HR
      go_wp2
      go_loopw [4] (fun i wr => ∃ (j m : Nat), j ≤ l.length ∧ i = .int .i64 j ∧ Hid (dpT l j = false) ∧ wr = w.drewN m) (fun i _ => l.length - (intOf i).toNat)
      case atStart => exact ⟨0, 0, Nat.zero_le _, rfl, Lib.hid rfl, rfl⟩
      case round =>
        obtain ⟨k, m, hk, rfl, HD, rfl⟩ := hrel
        by_cases hkl : k < l.length
        · obtain ⟨g, o, rfl, hg, hcell⟩ := HA.out (by omega)
          have HCell := Lib.hid hcell
          have f0 := hcell k hkl
          clear hcell
          go_wp2
          go_loopw [5] (fun i wr => ∃ (q m : Nat), q ≤ k ∧ i = .int .i64 q ∧ Hid (has (l.take q) l[k] = false) ∧ wr = w.drewN m) (fun i _ => k - (intOf i).toNat)
          case atStart => exact ⟨0, m, Nat.zero_le _, rfl, Lib.hid rfl, rfl⟩
          case round =>
            obtain ⟨q, m2, hq, rfl, HH, rfl⟩ := hrel
            by_cases hqk : q < k
            · have f1 := HCell.out q (by omega)
              by_cases he : l[q].data.toList = l[k].data.toList
              · have HV := Lib.hid (H9.out HAll.out (dpT_yes hkl (has_yes (by omega) hqk he)))
                obtain ⟨e1, e2⟩ := str_eq he
                clear he
                go_wp2
                go_quiet (fail)
                go_wp2
                go_returns
                exact ⟨ret_int HV.out.symm, Go.below_drewN (Go.below_drewN (Below.refl _ _) _) _⟩
              · have HH2 := Lib.hid (show has (l.take (q + 1)) l[k] = false by rw [has_step (by omega) HH.out, decide_eq_false he])
                obtain ⟨e1, e2⟩ := str_ne he
                clear he
                go_wp2
                go_quiet (fail)
                go_wp2
                go_roundw
                case rel => exact ⟨q + 1, m2 + nq, by omega, by go_num, HH2, rfl⟩
                case measure => simp [intOf]; omega
            · have HD2 := Lib.hid (show dpT l (k + 1) = false by rw [dpT_step hkl HD.out, show List.take k l = List.take q l by rw [show q = k by omega]]; exact HH.out)
              go_wp2
              go_roundw
              case rel => exact ⟨k + 1, m2, by omega, val_int (by omega), HD2, rfl⟩
              case measure => simp [intOf]; omega
        · have HV := Lib.hid (H0.out HAll.out (by rw [← show k = l.length by omega]; exact HD.out))
          go_wp2
          go_returns
          exact ⟨ret_int HV.out.symm, Go.below_drewN (Below.refl _ _) _⟩

end Go.Proofs.Ytcodoakfomddfaa
