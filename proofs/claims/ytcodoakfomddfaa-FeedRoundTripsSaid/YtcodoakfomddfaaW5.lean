/-
  Runs as the model holds them; checkRuns, the specification's runs, long, total.
-/
import Derived.Test.YtcodoakfomddfaaW4
namespace Go.Proofs.Ytcodoakfomddfaa
open Go Go.RowKit Go.Joins
set_option linter.unusedVariables false
set_option linter.unusedSimpArgs false

def rnC (s : Rn) : Array Value := #[.int .i64 s.1, .int .i64 s.2]
theorem rnC_size (s : Rn) : (rnC s).size = 2 := rfl
theorem rnC_one (s : Rn) : (rnC s).toList.all (·.oneCell') = true := rfl
abbrev RnRow (w : World) (B : Nat) (v : Value) (l : List Rn) : Prop := KRow rnC 2 46 w B v l
abbrev RnArg (w : World) (v : Value) (l : List Rn) : Prop := KArg rnC 2 w v l
theorem run_info : (Try.prog.info? 46).map (fun i => (i.zero, i.size, i.bytes)) = some (some (.agg #[.int .i64 0, .int .i64 0]), 2, 16) := by kernel_rfl
theorem run_size : (Try.prog.info? 46).map (·.size) = some 2 := by kernel_rfl
/-- The two cells of an element that is read. -/
theorem arg_two {w : World} {g o : Nat} {l : List Rn} (h : ∀ j (hj : j < l.length) i, i < 2 → w.cell? ⟨g, o + j * 2 + i, none⟩ = (rnC l[j])[i]?) (j : Nat) (hj : j < l.length) : w.cell? ⟨g, o + j * 2, none⟩ = some (.int .i64 l[j].1) ∧ w.cell? ⟨g, o + j * 2 + 1, none⟩ = some (.int .i64 l[j].2) :=
  ⟨h j hj 0 (by omega), h j hj 1 (by omega)⟩

set_option maxRecDepth 20000 in
set_option maxHeartbeats 4000000 in
theorem checkRuns_any (m : Int) (l : List Rn) (V : Value) (w : World) (hT : RnArg w V l) (hn : l.length ≤ 8796093022208) : Calls Try.prog 42 #[V, .int .i64 m] w fun e w' => e = .returned (.int .i64 (if vr m 0 l = true then 0 else 2)) ∧ Below w.heap.size w w' := by
  obtain ⟨A, c, rfl, hA⟩ := hT
  have HA := Lib.hid hA
  have HY := Lib.hid (show vr m 0 l = true → (if vr m 0 l = true then 0 else 2 : Int) = 0 from fun h => if_pos h)
  have HN := Lib.hid (show vr m 0 l = false → (if vr m 0 l = true then 0 else 2 : Int) = 2 from fun h => if_neg (by rw [h]; decide))
  have hn' : (l.length : Int) ≤ 8796093022208 := by omega
  clear hA
  generalize (if vr m 0 l = true then 0 else 2 : Int) = r at *
  go_enter Try.func42, Try.ntmps42
  go_wp2
  go_loopw [10, 5] (fun i s wr => ∃ j : Nat, j ≤ l.length ∧ i = .int .i64 j ∧ s = .int .i64 (lg (l.take j)) ∧ Hid (vr m 0 (l.take j) = true) ∧ Hid (Below w.heap.size w wr)) (fun i _ _ => l.length - (intOf i).toNat)
  case atStart => exact ⟨0, Nat.zero_le _, rfl, rfl, Lib.hid rfl, Lib.hid (Below.refl _ _)⟩
  case round =>
    obtain ⟨j, hj, rfl, rfl, HR, HB⟩ := hrel
    have hb := HB.out
    by_cases hjl : j < l.length
    · obtain ⟨g, o, rfl, hg, hc⟩ := HA.out (by omega)
      obtain ⟨a0, a1⟩ := arg_two hc j hjl
      have f0 := (hb.cell (p := ⟨g, o + j * 2, none⟩) hg).trans a0
      have f1 := (hb.cell (p := ⟨g, o + j * 2 + 1, none⟩) hg).trans a1
      have hr := vr_range HR.out
      have hst : Hid (vr m 0 (l.take (j + 1)) = okR m (lg (l.take j)) (l[j].1, l[j].2)) := Lib.hid (vr_step hjl HR.out)
      have hbd : Hid (okR m (lg (l.take j)) (l[j].1, l[j].2) = false → vr m 0 l = false) := Lib.hid (fun h => vr_bad (l := l) hjl h)
      have htk := Lib.hid (lg_take l j hjl)
      clear a0 a1 hc HR
      have HB2 := Lib.hid (show Below w.heap.size w (wr.alloc (.cells #[.int .i64 l[j].1, .int .i64 l[j].2] 46)) from hb.alloc hb.size _)
      generalize l[j].1 = x0 at *
      generalize l[j].2 = x1 at *
      generalize lg (l.take j) = S at *
      by_cases c0 : x0 < 0
      · have HV := Lib.hid (HN.out (hbd.out (by unfold okR; rw [decide_eq_false (show ¬ (0 ≤ x0 ∧ x0 ≤ m) by omega)]; rfl)))
        go_wp2
        go_returns
        exact ⟨ret_int HV.out.symm, HB2.out⟩
      by_cases c1 : m < x0
      · have HV := Lib.hid (HN.out (hbd.out (by unfold okR; rw [decide_eq_false (show ¬ (0 ≤ x0 ∧ x0 ≤ m) by omega)]; rfl)))
        go_wp2
        go_returns
        exact ⟨ret_int HV.out.symm, HB2.out⟩
      by_cases c2 : x1 < 1
      · have HV := Lib.hid (HN.out (hbd.out (by unfold okR; rw [decide_eq_false (show ¬ (1 : Int) ≤ x1 by omega)]; simp)))
        go_wp2
        go_returns
        exact ⟨ret_int HV.out.symm, HB2.out⟩
      by_cases c3 : 1099511627776 - S < x1
      · have HV := Lib.hid (HN.out (hbd.out (by unfold okR; rw [decide_eq_false (show ¬ x1 ≤ 1099511627776 - S by omega)]; simp)))
        go_wp2
        go_returns
        exact ⟨ret_int HV.out.symm, HB2.out⟩
      have HS := Lib.hid (show vr m 0 (l.take (j + 1)) = true by rw [hst.out]; unfold okR; rw [decide_eq_true (show 0 ≤ x0 ∧ x0 ≤ m by omega), decide_eq_true (show (1 : Int) ≤ x1 by omega), decide_eq_true (show x1 ≤ 1099511627776 - S by omega)]; rfl)
      go_wp2
      go_roundw
      case rel => exact ⟨j + 1, by omega, val_int (by omega), val_int (by rw [htk.out]), HS, HB2⟩
      case measure => simp [intOf]; omega
    · have he : l.take j = l := List.take_of_length_le (by omega)
      have HV := Lib.hid (HY.out (by rw [← he]; exact HR.out))
      clear he
      go_wp2
      go_returns
      exact ⟨ret_int HV.out.symm, hb⟩

set_option maxRecDepth 20000 in
set_option maxHeartbeats 4000000 in
theorem rruns_any (m : Int) (l : List Rn) (V : Value) (w : World) (hT : RnArg w V l) (hn : l.length ≤ 8796093022208) : Calls Try.prog 46 #[V, .int .i64 m] w fun e w' => e = .returned (.bool (vr m 0 l)) ∧ w = w' := by
  obtain ⟨A, c, rfl, hA⟩ := hT
  have HA := Lib.hid hA
  have hn' : (l.length : Int) ≤ 8796093022208 := by omega
  clear hA
  go_enter Try.func46, Try.ntmps46
  go_wp2
  go_loop [6, 5] (fun i s => ∃ (j : Nat) (q : Int), j ≤ l.length ∧ i = .int .i64 j ∧ s = .int .i64 q ∧ 0 ≤ q ∧ q ≤ 1099511627776 ∧ Hid (q = 1099511627776 - lg (l.take j)) ∧ Hid (vr m 0 (l.take j) = true)) (fun i _ => l.length - (intOf i).toNat)
  case atStart => exact ⟨0, 1099511627776, Nat.zero_le _, rfl, rfl, by omega, by omega, Lib.hid rfl, Lib.hid rfl⟩
  case round =>
    obtain ⟨j, q, hj, rfl, rfl, hq0, hq1, HQ, HR⟩ := hrel
    by_cases hjl : j < l.length
    · obtain ⟨g, o, rfl, hg, hc⟩ := HA.out (by omega)
      obtain ⟨f0, f1⟩ := arg_two hc j hjl
      have hst : Hid (vr m 0 (l.take (j + 1)) = okR m (lg (l.take j)) (l[j].1, l[j].2)) := Lib.hid (vr_step hjl HR.out)
      have hbd : Hid (okR m (lg (l.take j)) (l[j].1, l[j].2) = false → vr m 0 l = false) := Lib.hid (fun h => vr_bad (l := l) hjl h)
      have htk := Lib.hid (lg_take l j hjl)
      clear hc HR
      generalize l[j].1 = x0 at *
      generalize l[j].2 = x1 at *
      have hS := HQ.out
      obtain ⟨S, hS2⟩ : ∃ S, lg (l.take j) = S := ⟨_, rfl⟩
      rw [hS2] at hS hst hbd htk
      have HSq := Lib.hid (show S = 1099511627776 - q by omega)
      clear hS hS2 HQ
      by_cases c0 : x0 < 0
      · have HV := Lib.hid (hbd.out (by unfold okR; rw [decide_eq_false (show ¬ (0 ≤ x0 ∧ x0 ≤ m) by omega)]; rfl))
        go_wp2
        go_returns
        exact ⟨ret_bool HV.out.symm, rfl⟩
      by_cases c1 : m < x0
      · have HV := Lib.hid (hbd.out (by unfold okR; rw [decide_eq_false (show ¬ (0 ≤ x0 ∧ x0 ≤ m) by omega)]; rfl))
        go_wp2
        go_returns
        exact ⟨ret_bool HV.out.symm, rfl⟩
      by_cases c2 : x1 < 1
      · have HV := Lib.hid (hbd.out (by unfold okR; rw [decide_eq_false (show ¬ (1 : Int) ≤ x1 by omega)]; simp))
        go_wp2
        go_returns
        exact ⟨ret_bool HV.out.symm, rfl⟩
      by_cases c3 : q < x1
      · have HV := Lib.hid (hbd.out (by unfold okR; rw [HSq.out, decide_eq_false (show ¬ x1 ≤ 1099511627776 - (1099511627776 - q) by omega)]; simp))
        go_wp2
        go_returns
        exact ⟨ret_bool HV.out.symm, rfl⟩
      have HS := Lib.hid (show vr m 0 (l.take (j + 1)) = true by rw [hst.out]; unfold okR; rw [HSq.out, decide_eq_true (show 0 ≤ x0 ∧ x0 ≤ m by omega), decide_eq_true (show (1 : Int) ≤ x1 by omega), decide_eq_true (show x1 ≤ 1099511627776 - (1099511627776 - q) by omega)]; rfl)
      go_wp2
      go_round
      case rel => exact ⟨j + 1, q - x1, by omega, val_int (by omega), rfl, by omega, by omega, Lib.hid (by rw [htk.out, HSq.out]; omega), HS⟩
      case measure => simp [intOf]; omega
    · have he : l.take j = l := List.take_of_length_le (by omega)
      have HV := Lib.hid (show vr m 0 l = true by rw [← he]; exact HR.out)
      clear he
      go_wp2
      go_returns
      exact ⟨ret_bool HV.out.symm, rfl⟩

end Go.Proofs.Ytcodoakfomddfaa
