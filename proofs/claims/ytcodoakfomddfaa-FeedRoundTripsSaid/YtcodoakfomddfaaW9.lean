/-
  part, the specification's Part and Clean.
-/
import Derived.Test.YtcodoakfomddfaaW8
namespace Go.Proofs.Ytcodoakfomddfaa
open Go Go.RowKit Go.Joins
set_option linter.unusedVariables false
set_option linter.unusedSimpArgs false

theorem prt_lg_le {R : List Rn} {f t : Int} (h : ps R) : lg (prt R f t) ≤ lg R := by
  have := ps_nonneg h
  unfold prt; rw [jn_lg, sl_lg h]; omega
theorem prt_ps (R : List Rn) (f t : Int) : ps (prt R f t) := jn_ps sl_ps
theorem prt_take_len (R : List Rn) (j : Nat) (f t : Int) : (prt (R.take j) f t).length ≤ R.length := by
  have h1 := prt_len (R.take j) f t
  rw [List.length_take] at h1
  omega

set_option maxRecDepth 20000 in
set_option maxHeartbeats 1000000 in
theorem put_no (o : List Rn) (B : Nat) (V : Value) (X D : Int) (w : World) (hR : RnRow w B V o) (hB : B ≤ w.heap.size) (hD : D < 1) :
    Calls Try.prog 40 #[V, .agg #[.int .i64 X, .int .i64 D]] w fun e w' => ∃ v : Value, e = .returned v ∧ RnRow w' B v o ∧ Below B w w' := by
  have HR := Lib.hid (hR.alloc (.cells #[.int .i64 X, .int .i64 D] 46))
  obtain ⟨A, n, c, rfl, hn0⟩ := hR.form
  clear hR
  go_enter Try.func40, Try.ntmps40
  go_wp2
  go_returns
  exact ⟨_, rfl, HR.out, (ba w _).mono hB⟩

set_option maxRecDepth 20000 in
set_option maxHeartbeats 4000000 in
theorem rclean_any (m : Int) (R : List Rn) (V : Value) (w : World) (hT : RnArg w V R) (hn : R.length ≤ 262144) (hv : vr m 0 R = true) :
    Calls Try.prog 22 #[V] w fun e w' => ∃ v : Value, e = .returned v ∧ RnRow w' w.heap.size v (jn R) ∧ Below w.heap.size w w' := by
  obtain ⟨A, c, rfl, hA⟩ := hT
  have HA := Lib.hid hA
  have HV := Lib.hid hv
  have hps := ((vr_iff m R 0 (by omega)).1 hv).2.1
  have HPS := Lib.hid hps
  have hn' : (R.length : Int) ≤ 262144 := by omega
  clear hA hv hps
  have R0 := Lib.hid (KRow.lit (T := 46) rnC_size w w.heap.size (Nat.le_refl _) [] #[] rfl 0 rfl (by decide))
  have B0 := Lib.hid (ba w (.cells #[] 46))
  go_enter Try.func22, Try.ntmps22
  go_wp2
  go_loopw [4, 3] (fun i r wr => ∃ j : Nat, j ≤ R.length ∧ i = .int .i64 j ∧ Hid (RnRow wr w.heap.size r (jn (R.take j))) ∧ Hid (Below w.heap.size w wr)) (fun i _ _ => R.length - (intOf i).toNat)
  case atStart => exact ⟨0, Nat.zero_le _, rfl, R0, B0⟩
  case round =>
    obtain ⟨j, hj, rfl, HR, HB⟩ := hrel
    have hb := HB.out
    by_cases hjl : j < R.length
    · obtain ⟨g, o, rfl, hg, hc⟩ := HA.out (by omega)
      obtain ⟨a0, a1⟩ := arg_two hc j hjl
      have f0 := (hb.cell (p := ⟨g, o + j * 2, none⟩) hg).trans a0
      have f1 := (hb.cell (p := ⟨g, o + j * 2 + 1, none⟩) hg).trans a1
      have hx := el_range HV.out j hjl
      have hr2 := lg_take_range HV.out (j + 1)
      have HST : Hid (jn (R.take (j + 1)) = pt (jn (R.take j)) (R[j].1, R[j].2)) := Lib.hid (jn_take R j hjl)
      have hl : lg (jn (R.take j)) + R[j].2 ≤ 1099511627776 := by
        have h1 := jn_lg (R.take (j + 1))
        rw [jn_take R j hjl, pt_lg] at h1
        omega
      have hlen := jn_len (R.take j)
      rw [List.length_take] at hlen
      have CL : Hid (∀ V w', RnRow w' w.heap.size V (jn (R.take j)) → w.heap.size ≤ w'.heap.size → Calls Try.prog 40 #[V, .agg #[.int .i64 R[j].1, .int .i64 R[j].2]] w' fun e w'' => ∃ v : Value, e = .returned v ∧ RnRow w'' w.heap.size v (pt (jn (R.take j)) (R[j].1, R[j].2)) ∧ Below w.heap.size w' w'') := Lib.hid (fun V w' h1 h2 => put_any _ w.heap.size V _ _ w' h1 h2 (jn_ps (ps_take HPS.out j)) hx.2.1 hl (by omega))
      clear a0 a1 hc hl hlen hr2
      generalize R[j].1 = x0 at *
      generalize R[j].2 = x1 at *
      obtain ⟨_, hx1, hx2⟩ := hx
      obtain ⟨UA, UN, UC, rfl, hUN⟩ := HR.out.form
      clear hUN
      go_wp2_with (first
        | (go_at_call 40; go_must (refine (CL.out _ _ HR.out HB.out.size).mono ?_; rintro e5 w5 ⟨v5, rfl, r5, b5⟩; have R5 := Lib.hid r5; have B5 := Lib.hid (HB.out.trans b5); clear r5 b5)))
      go_roundw
      case rel => exact ⟨j + 1, by omega, val_int (by omega), Lib.hid (by rw [HST.out]; exact R5.out), B5⟩
      case measure => simp [intOf]; omega
    · have he : R.take j = R := List.take_of_length_le (by omega)
      rw [he] at HR
      clear he
      go_wp2
      go_returns
      exact ⟨_, rfl, HR.out, hb⟩

end Go.Proofs.Ytcodoakfomddfaa
