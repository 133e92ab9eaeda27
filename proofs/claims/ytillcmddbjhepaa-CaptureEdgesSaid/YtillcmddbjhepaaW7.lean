/-
  Long and At (both sides).
-/
import Derived.Test.YtillcmddbjhepaaW6
namespace Go.Proofs.Ytillcmddbjhepaa
open Go Go.RowKit Go.Joins
set_option linter.unusedVariables false
set_option linter.unusedSimpArgs false

/-- The two cells of a capture's box, behind what only makes memory. -/
theorem box_two {w w1 : World} {a b : Value} {T : TypeId} (hb : Below (w.alloc (.cells #[a, b] T)).heap.size (w.alloc (.cells #[a, b] T)) w1) :
    w1.cell? ⟨w.heap.size, 0, none⟩ = some a ∧ w1.cell? ⟨w.heap.size, 1, none⟩ = some b :=
  ⟨(hb.cell (p := ⟨w.heap.size, 0, none⟩) (by rw [World.size_alloc]; exact Nat.lt_succ_self _)).trans ((RowAt.new w T #[a, b]).cell 0),
   (hb.cell (p := ⟨w.heap.size, 1, none⟩) (by rw [World.size_alloc]; exact Nat.lt_succ_self _)).trans ((RowAt.new w T #[a, b]).cell 1)⟩

set_option maxRecDepth 20000 in
set_option maxHeartbeats 4000000 in
theorem longC_any (N : List ByteArray) (R : List Rn) (vN vR : Value) (w : World) (hN : NmArg w vN N) (hs : szs N) (hR : RnArg w vR R) (hn : R.length ≤ 1099511627776) : Calls Try.prog 7 #[.agg #[vN, vR]] w fun e w' => e = .returned (.int .i64 (lgC N R)) ∧ Below w.heap.size w w' := by
  have HK := Lib.hid (fun w' (hb : Below w.heap.size w w') => check_any N R vN vR w' (hN.keep hb) hs (hR.keep hb) hn)
  have HL := Lib.hid (fun h w' (hb : Below w.heap.size w w') => long_any (mk N.length) R vR w' (hR.keep hb) hn (ckC_ok h).2.2.2.2.2)
  obtain ⟨A1, c1, rfl, hA1, hA1'⟩ := hN.form
  obtain ⟨A2, c2, rfl⟩ := hR.form
  clear hA1' hN hR hA1 hs
  have B0 := Lib.hid (ba w (.cells #[.slice A1 N.length c1, .slice A2 R.length c2] 25))
  by_cases hz : ckC N R = 0
  · have HL2 := Lib.hid (HL.out hz)
    have HV := Lib.hid (lgC_yes hz)
    rw [hz] at HK
    clear hz HL
    generalize lgC N R = q at *
    generalize lg R = S at *
    go_enter Try.func7, Try.ntmps7
    go_wp2_with (first
      | (go_at_call 6; go_must (refine (HK.out _ B0.out).mono ?_; rintro e1 w1 ⟨rfl, b1⟩; have B1 := Lib.hid (B0.out.trans (b1.mono B0.out.size)); obtain ⟨g0, g1⟩ := box_two b1; clear b1))
      | (go_at_call 13; go_must (refine (HL2.out _ B1.out).mono ?_; rintro e2 w2 ⟨rfl, b2⟩)))
    go_returns
    exact ⟨ret_int HV.out.symm, B1.out.trans (b2.mono B1.out.size)⟩
  · have HV := Lib.hid (lgC_no hz)
    have hz' : (ckC N R == 0) = false := by simpa using hz
    clear hz HL
    generalize lgC N R = q at *
    generalize ckC N R = r at *
    go_enter Try.func7, Try.ntmps7
    go_wp2_with (first
      | (go_at_call 6; go_must (refine (HK.out _ B0.out).mono ?_; rintro e1 w1 ⟨rfl, b1⟩; have B1 := Lib.hid (B0.out.trans (b1.mono B0.out.size)); clear b1)))
    go_returns
    exact ⟨ret_int HV.out.symm, B1.out⟩

/-- A level and whether there is one. -/
def atR (p : Int × Bool) : Value := .tuple #[.int .i64 p.1, .bool p.2]
theorem atR_eq {p : Int × Bool} {a : Int} {b : Bool} (h : p = (a, b)) : Ending.returned (.tuple #[.int .i64 a, .bool b]) = .returned (atR p) := by subst h; rfl

set_option maxRecDepth 20000 in
set_option maxHeartbeats 4000000 in
theorem at_any (N : List ByteArray) (R : List Rn) (vN vR : Value) (k : Int) (w : World) (hN : NmArg w vN N) (hs : szs N) (hR : RnArg w vR R) (hn : R.length ≤ 1099511627776) (hk1 : k ≤ 9223372036854775807) : Calls Try.prog 8 #[.agg #[vN, vR], .int .i64 k] w fun e w' => e = .returned (atR (atC N R k)) ∧ Below w.heap.size w w' := by
  have HK := Lib.hid (fun w' (hb : Below w.heap.size w w') => check_any N R vN vR w' (hN.keep hb) hs (hR.keep hb) hn)
  obtain ⟨A1, c1, rfl, hA1, hA1'⟩ := hN.form
  obtain ⟨A2, c2, rfl, hA⟩ := hR
  have HA := Lib.hid hA
  clear hA1' hN hA1 hs hA
  have B0 := Lib.hid (ba w (.cells #[.slice A1 N.length c1, .slice A2 R.length c2] 25))
  by_cases hk : k < 0
  · have HL := Lib.hid (atC_no (N := N) (R := R) (k := k) (by omega))
    clear HA HK
    go_enter Try.func8, Try.ntmps8
    go_wp2
    go_returns
    exact ⟨atR_eq HL.out, B0.out⟩
  by_cases hz : ckC N R = 0
  · have HL := Lib.hid (atC_yes hz (show 0 ≤ k by omega))
    obtain ⟨z1, _, _, _, _, hv⟩ := ckC_ok hz
    have HV := Lib.hid hv
    rw [hz] at HK
    clear hz hv
    go_enter Try.func8, Try.ntmps8
    go_wp2_with (first
      | (go_at_call 6; go_must (refine (HK.out _ B0.out).mono ?_; rintro e1 w1 ⟨rfl, b1⟩; have B1 := Lib.hid (B0.out.trans (b1.mono B0.out.size)); obtain ⟨g0, g1⟩ := box_two b1; clear b1)))
    go_loopw [18, 1] (fun i s wr => ∃ (j : Nat) (q : Int), j ≤ R.length ∧ i = .int .i64 j ∧ s = .int .i64 q ∧ 0 ≤ q ∧ q ≤ 9223372036854775807 ∧ Hid (atv R k = atv (R.drop j) q) ∧ Hid (Below w.heap.size w wr)) (fun i _ _ => R.length - (intOf i).toNat)
    case atStart => exact ⟨0, k, Nat.zero_le _, rfl, rfl, by omega, hk1, Lib.hid rfl, B1⟩
    case round =>
      obtain ⟨j, q, hj, rfl, rfl, hq0, hq1, HE, HB⟩ := hrel
      have hb := HB.out
      by_cases hjl : j < R.length
      · obtain ⟨g, o, rfl, hg, hc⟩ := HA.out (by omega)
        obtain ⟨a0, a1⟩ := arg_two hc j hjl
        have f0 := (hb.cell (p := ⟨g, o + j * 2, none⟩) hg).trans a0
        have f1 := (hb.cell (p := ⟨g, o + j * 2 + 1, none⟩) hg).trans a1
        have hx := el_range HV.out j hjl
        have hd := HE.out.trans (atv_drop hjl q)
        clear a0 a1 hc
        have HB2 := Lib.hid (show Below w.heap.size w (wr.alloc (.cells #[.int .i64 R[j].1, .int .i64 R[j].2] 41)) from hb.alloc hb.size _)
        generalize R[j].1 = x0 at *
        generalize R[j].2 = x1 at *
        obtain ⟨_, hx1, hx2⟩ := hx
        by_cases hlt : q < x1
        · rw [if_pos hlt] at hd
          have HD := Lib.hid (HL.out.trans hd)
          clear hd
          go_wp2
          go_returns
          exact ⟨atR_eq HD.out, HB2.out⟩
        · rw [if_neg hlt] at hd
          have HD := Lib.hid hd
          clear hd
          go_wp2
          go_roundw
          case rel => exact ⟨j + 1, q - x1, by omega, val_int (by omega), rfl, by omega, by omega, HD, HB2⟩
          case measure => simp [intOf]; omega
      · have he : R.drop j = [] := List.drop_eq_nil_of_le (by omega)
        have HD := Lib.hid (HL.out.trans HE.out)
        rw [he] at HD
        clear he
        go_wp2
        go_returns
        exact ⟨atR_eq HD.out, hb⟩
  · have HL := Lib.hid (atC_no (N := N) (R := R) (k := k) (fun h => hz h.1))
    have hz' : (ckC N R == 0) = false := by simpa using hz
    clear hz HA
    generalize ckC N R = r at *
    go_enter Try.func8, Try.ntmps8
    go_wp2_with (first
      | (go_at_call 6; go_must (refine (HK.out _ B0.out).mono ?_; rintro e1 w1 ⟨rfl, b1⟩; have B1 := Lib.hid (B0.out.trans (b1.mono B0.out.size)); clear b1)))
    go_returns
    exact ⟨atR_eq HL.out, B1.out⟩

end Go.Proofs.Ytillcmddbjhepaa
