/-
  Check and Good (both sides).
  Long and At (both sides).
-/
import Derived.Test.YteccafndplaklaaZ09
import Derived.StillTailTactics
namespace Go.Proofs.Yteccafndplaklaa
open Go Go.RowKit Go.Joins
set_option linter.unusedVariables false
set_option linter.unusedSimpArgs false

theorem shl_1 {V : Nat} (h : V ≤ 62) : wrap64 (2 ^ V) = ((2 ^ V : Nat) : Int) ∧ 1 ≤ 2 ^ V ∧ 2 ^ V ≤ 4611686018427387904 := by
  have h2 : 2 ^ V ≤ 2 ^ 62 := Nat.pow_le_pow_right (by omega) h
  have h0 : 1 ≤ 2 ^ V := Nat.two_pow_pos V
  have h1 : (2 : Int) ^ V = ((2 ^ V : Nat) : Int) := by simp
  refine ⟨?_, h0, h2⟩
  rw [h1]
  generalize 2 ^ V = P at *
  unfold wrap64
  omega
theorem mk_nat (n : Nat) : mk n = ((2 ^ n : Nat) : Int) - 1 := by unfold mk; simp

set_option maxRecDepth 20000 in
set_option maxHeartbeats 4000000 in
theorem check_any (N : List ByteArray) (R : List Rn) (vN vR : Value) (w : World) (hN : NmArg w vN N) (hs : szs N) (hR : RnArg w vR R) (hn : R.length ≤ 1099511627776) : Calls Try.prog 24 #[.agg #[vN, vR]] w fun e w' => e = .returned (.int .i64 (ckC N R)) ∧ Below w.heap.size w w' := by
  have HN := Lib.hid (fun w' (hb : Below w.heap.size w w') => hN.keep hb)
  have HR := Lib.hid (fun w' (hb : Below w.heap.size w w') => hR.keep hb)
  have hn' : (R.length : Int) ≤ 1099511627776 := by omega
  obtain ⟨A1, c1, rfl, hA1, hA1'⟩ := hN.form
  obtain ⟨A2, c2, rfl⟩ := hR.form
  clear hA1' hN hR hA1
  by_cases h6 : 262144 < R.length
  · have HV := Lib.hid (ckC_6 (N := N) h6)
    have h6' : (262144 : Int) < R.length := by omega
    clear h6 HN HR
    go_enter Try.func24, Try.ntmps24
    go_wp2
    go_returns
    exact ⟨ret_int HV.out.symm, ba w _⟩
  have h6' : (R.length : Int) ≤ 262144 := by omega
  have CN := Lib.hid (fun w' h => checkNames_any N (.slice A1 N.length c1) w' h hs)
  have B0 := Lib.hid (ba w (.cells #[.slice A1 N.length c1, .slice A2 R.length c2] 25))
  by_cases hz : ckN N = 0
  · obtain ⟨z1, z2, z3⟩ := ckN_ok hz
    obtain ⟨hw, hp0, hp1⟩ := shl_1 (V := N.length) (by omega)
    have hw2 : wrap64 (wrap64 (2 ^ N.length) - 1) = ((2 ^ N.length : Nat) : Int) - 1 := by
      rw [hw]
      generalize 2 ^ N.length = P at *
      unfold wrap64
      omega
    have HW2 := Lib.hid hw2
    clear hw2
    have CR := Lib.hid (fun w' h => checkRuns_any (mk N.length) R (.slice A2 R.length c2) w' h hn)
    have HV := Lib.hid (show (if vr (mk N.length) 0 R = true then 0 else 2 : Int) = ckC N R by
      cases hh : vr (mk N.length) 0 R with
      | true => rw [ckC_0 h6 hz hh]; rfl
      | false => rw [ckC_2 h6 hz hh]; rfl)
    have hmk := mk_nat N.length
    rw [hz] at CN
    generalize ckC N R = r at *
    generalize (if vr (mk N.length) 0 R = true then 0 else 2 : Int) = r2 at *
    generalize mk N.length = M at *
    have HM := Lib.hid hmk
    clear hz z3 hs h6 hmk
    generalize 2 ^ N.length = P at *
    go_enter Try.func24, Try.ntmps24
    go_wp2_with (first
      | (go_at_call 50; go_must (refine (CN.out _ (HN.out _ (ba w _))).mono ?_; rintro e1 w1 ⟨rfl, b1⟩; have B1 := Lib.hid (B0.out.trans (b1.mono B0.out.size)); have g0 := (b1.cell (p := ⟨w.heap.size, 0, none⟩) (by rw [World.size_alloc]; exact Nat.lt_succ_self _)).trans ((RowAt.new w 25 #[.slice A1 N.length c1, .slice A2 R.length c2]).cell 0); have g1 := (b1.cell (p := ⟨w.heap.size, 1, none⟩) (by rw [World.size_alloc]; exact Nat.lt_succ_self _)).trans ((RowAt.new w 25 #[.slice A1 N.length c1, .slice A2 R.length c2]).cell 1); clear b1; simp at g0 g1)))
    go_still_tail 7, (by kernel_rfl)
    change wpList _ _ _ _ _ w1.drew
    have e0 : w1.drew.cell? ⟨w.heap.size, 0, none⟩ = some (.slice A1 N.length c1) := g0
    have e1 : w1.drew.cell? ⟨w.heap.size, 1, none⟩ = some (.slice A2 R.length c2) := g1
    have BD := Lib.hid (Below.drew B1.out)
    generalize w1.drew = w2 at *
    have CR2 : Hid (∀ K, K = (P : Int) - 1 → Calls Try.prog 51 #[.slice A2 R.length c2, .int .i64 K] w2 fun e w' => e = .returned (.int .i64 r2) ∧ Below w2.heap.size w2 w') := Lib.hid (fun K hK => by subst hK; rw [← HM.out]; exact CR.out w2 (HR.out _ BD.out))
    go_wp2_with (first
      | (go_at_call 51; go_must (refine (CR2.out _ ?hK).mono ?_; (case hK => (first | rfl | exact HW2.out | omega)); rintro e3 w3 ⟨rfl, b3⟩)))
    go_returns
    exact ⟨ret_int HV.out, BD.out.trans (b3.mono BD.out.size)⟩
  · have HV := Lib.hid (ckC_n h6 hz)
    have hz' : (ckN N == 0) = false := by simpa using hz
    generalize ckC N R = r at *
    generalize ckN N = r2 at *
    clear hs h6 hz
    go_enter Try.func24, Try.ntmps24
    go_wp2_with (first
      | (go_at_call 50; go_must (refine (CN.out _ (HN.out _ (ba w _))).mono ?_; rintro e1 w1 ⟨rfl, b1⟩; have B1 := Lib.hid (B0.out.trans (b1.mono B0.out.size)); clear b1)))
    go_returns
    exact ⟨ret_int HV.out.symm, B1.out⟩

set_option maxRecDepth 20000 in
set_option maxHeartbeats 4000000 in
theorem rcheck_any (N : List ByteArray) (R : List Rn) (vN vR : Value) (w : World) (hN : NmArg w vN N) (hs : szs N) (hR : RnArg w vR R) (hn : R.length ≤ 1099511627776) : Calls Try.prog 30 #[.agg #[vN, vR]] w fun e w' => e = .returned (.int .i64 (ckC N R)) ∧ Below w.heap.size w w' := by
  have HN := Lib.hid (fun w' (hb : Below w.heap.size w w') => hN.keep hb)
  have HR := Lib.hid (fun w' (hb : Below w.heap.size w w') => hR.keep hb)
  have hn' : (R.length : Int) ≤ 1099511627776 := by omega
  obtain ⟨A1, c1, rfl, hA1, hA1'⟩ := hN.form
  obtain ⟨A2, c2, rfl⟩ := hR.form
  clear hA1' hN hR hA1
  by_cases h6 : 262144 < R.length
  · have HV := Lib.hid (ckC_6 (N := N) h6)
    have h6' : (262144 : Int) < R.length := by omega
    clear h6 HN HR
    go_enter Try.func30, Try.ntmps30
    go_wp2
    go_returns
    exact ⟨ret_int HV.out.symm, ba w _⟩
  have h6' : (R.length : Int) ≤ 262144 := by omega
  have CN := Lib.hid (fun w' h => rnames_any N (.slice A1 N.length c1) w' h hs)
  have B0 := Lib.hid (ba w (.cells #[.slice A1 N.length c1, .slice A2 R.length c2] 25))
  by_cases hz : ckN N = 0
  · obtain ⟨z1, z2, z3⟩ := ckN_ok hz
    obtain ⟨hw, hp0, hp1⟩ := shl_1 (V := N.length) (by omega)
    have hw2 : wrap64 (wrap64 (2 ^ N.length) - 1) = ((2 ^ N.length : Nat) : Int) - 1 := by
      rw [hw]
      generalize 2 ^ N.length = P at *
      unfold wrap64
      omega
    have HW2 := Lib.hid hw2
    clear hw2
    have CR := Lib.hid (fun w' h => rruns_any (mk N.length) R (.slice A2 R.length c2) w' h hn)
    have HY := Lib.hid (show vr (mk N.length) 0 R = true → ckC N R = 0 from fun h => ckC_0 h6 hz h)
    have HX := Lib.hid (show vr (mk N.length) 0 R = false → ckC N R = 2 from fun h => ckC_2 h6 hz h)
    have hmk := mk_nat N.length
    rw [hz] at CN
    generalize ckC N R = r at *
    generalize vr (mk N.length) 0 R = b at *
    generalize mk N.length = M at *
    have HM := Lib.hid hmk
    clear hz z3 hs h6 hmk
    generalize 2 ^ N.length = P at *
    cases b with
    | true =>
      go_enter Try.func30, Try.ntmps30
      go_wp2_with (first
        | (go_at_call 61; go_must (refine (CN.out _ (HN.out _ (ba w _))).mono ?_; rintro e1 w1 ⟨rfl, b1⟩; have B1 := Lib.hid (B0.out.trans (b1.mono B0.out.size)); have g0 := (b1.cell (p := ⟨w.heap.size, 0, none⟩) (by rw [World.size_alloc]; exact Nat.lt_succ_self _)).trans ((RowAt.new w 25 #[.slice A1 N.length c1, .slice A2 R.length c2]).cell 0); have g1 := (b1.cell (p := ⟨w.heap.size, 1, none⟩) (by rw [World.size_alloc]; exact Nat.lt_succ_self _)).trans ((RowAt.new w 25 #[.slice A1 N.length c1, .slice A2 R.length c2]).cell 1); clear b1; simp at g0 g1)))
      go_still_tail 7, (by kernel_rfl)
      change wpList _ _ _ _ _ w1.drew
      have e0 : w1.drew.cell? ⟨w.heap.size, 0, none⟩ = some (.slice A1 N.length c1) := g0
      have e1 : w1.drew.cell? ⟨w.heap.size, 1, none⟩ = some (.slice A2 R.length c2) := g1
      have BD := Lib.hid (Below.drew B1.out)
      generalize w1.drew = w2 at *
      have CR2 : Hid (∀ K, K = (P : Int) - 1 → Calls Try.prog 62 #[.slice A2 R.length c2, .int .i64 K] w2 fun e w' => e = .returned (.bool true) ∧ w2 = w') := Lib.hid (fun K hK => by subst hK; rw [← HM.out]; exact CR.out w2 (HR.out _ BD.out))
      go_wp2_with (first
        | (go_at_call 62; go_must (refine (CR2.out _ ?hK).mono ?_; (case hK => (first | rfl | exact HW2.out | omega)); rintro e3 w3 ⟨rfl, rfl⟩)))
      go_returns
      exact ⟨ret_int (HY.out (by first | rfl | trivial)).symm, BD.out⟩
    | false =>
      go_enter Try.func30, Try.ntmps30
      go_wp2_with (first
        | (go_at_call 61; go_must (refine (CN.out _ (HN.out _ (ba w _))).mono ?_; rintro e1 w1 ⟨rfl, b1⟩; have B1 := Lib.hid (B0.out.trans (b1.mono B0.out.size)); have g0 := (b1.cell (p := ⟨w.heap.size, 0, none⟩) (by rw [World.size_alloc]; exact Nat.lt_succ_self _)).trans ((RowAt.new w 25 #[.slice A1 N.length c1, .slice A2 R.length c2]).cell 0); have g1 := (b1.cell (p := ⟨w.heap.size, 1, none⟩) (by rw [World.size_alloc]; exact Nat.lt_succ_self _)).trans ((RowAt.new w 25 #[.slice A1 N.length c1, .slice A2 R.length c2]).cell 1); clear b1; simp at g0 g1)))
      go_still_tail 7, (by kernel_rfl)
      change wpList _ _ _ _ _ w1.drew
      have e0 : w1.drew.cell? ⟨w.heap.size, 0, none⟩ = some (.slice A1 N.length c1) := g0
      have e1 : w1.drew.cell? ⟨w.heap.size, 1, none⟩ = some (.slice A2 R.length c2) := g1
      have BD := Lib.hid (Below.drew B1.out)
      generalize w1.drew = w2 at *
      have CR2 : Hid (∀ K, K = (P : Int) - 1 → Calls Try.prog 62 #[.slice A2 R.length c2, .int .i64 K] w2 fun e w' => e = .returned (.bool false) ∧ w2 = w') := Lib.hid (fun K hK => by subst hK; rw [← HM.out]; exact CR.out w2 (HR.out _ BD.out))
      go_wp2_with (first
        | (go_at_call 62; go_must (refine (CR2.out _ ?hK).mono ?_; (case hK => (first | rfl | exact HW2.out | omega)); rintro e3 w3 ⟨rfl, rfl⟩)))
      go_returns
      exact ⟨ret_int (HX.out (by first | rfl | trivial)).symm, BD.out⟩
  · have HV := Lib.hid (ckC_n h6 hz)
    have hz' : (ckN N == 0) = false := by simpa using hz
    generalize ckC N R = r at *
    generalize ckN N = r2 at *
    clear hs h6 hz
    go_enter Try.func30, Try.ntmps30
    go_wp2_with (first
      | (go_at_call 61; go_must (refine (CN.out _ (HN.out _ (ba w _))).mono ?_; rintro e1 w1 ⟨rfl, b1⟩; have B1 := Lib.hid (B0.out.trans (b1.mono B0.out.size)); clear b1)))
    go_returns
    exact ⟨ret_int HV.out.symm, B1.out⟩

set_option maxRecDepth 20000 in
set_option maxHeartbeats 4000000 in
theorem good_any (N : List ByteArray) (R : List Rn) (vN vR : Value) (w : World) (hN : NmArg w vN N) (hs : szs N) (hR : RnArg w vR R) (hn : R.length ≤ 1099511627776) : Calls Try.prog 38 #[.agg #[vN, vR]] w fun e w' => e = .returned (.bool (decide (ckC N R = 0))) ∧ Below w.heap.size w w' := by
  have CK := Lib.hid (rcheck_any N R vN vR w hN hs hR hn)
  have HK := Lib.hid (fun w' (hb : Below w.heap.size w w') => rcheck_any N R vN vR w' (hN.keep hb) hs (hR.keep hb) hn)
  obtain ⟨A1, c1, rfl, hA1, hA1'⟩ := hN.form
  obtain ⟨A2, c2, rfl⟩ := hR.form
  clear hA1' hN hR hA1 hs
  have B0 := Lib.hid (ba w (.cells #[.slice A1 N.length c1, .slice A2 R.length c2] 25))
  generalize ckC N R = r at *
  go_enter Try.func38, Try.ntmps38
  go_wp2_with (first
    | (go_at_call 30; go_must (refine (HK.out _ B0.out).mono ?_; rintro e1 w1 ⟨rfl, b1⟩; have B1 := Lib.hid (B0.out.trans (b1.mono B0.out.size)); clear b1)))
  all_goals
    go_returns
    exact ⟨ret_bool (by first | rfl | simp [*] | (simp; done)), B1.out⟩

end Go.Proofs.Yteccafndplaklaa

namespace Go.Proofs.Yteccafndplaklaa
open Go Go.RowKit Go.Joins
set_option linter.unusedVariables false
set_option linter.unusedSimpArgs false

/-- The two cells of a capture's box, behind what only makes memory. -/
theorem box_two {w w1 : World} {a b : Value} {T : TypeId} (hb : Below (w.alloc (.cells #[a, b] T)).heap.size (w.alloc (.cells #[a, b] T)) w1) :
    w1.cell? ⟨w.heap.size, 0, none⟩ = some a ∧ w1.cell? ⟨w.heap.size, 1, none⟩ = some b :=
  ⟨(hb.cell (p := ⟨w.heap.size, 0, none⟩) (by rw [World.size_alloc]; exact Nat.lt_succ_self _)).trans ((RowAt.new w T #[a, b]).cell 0),
   (hb.cell (p := ⟨w.heap.size, 1, none⟩) (by rw [World.size_alloc]; exact Nat.lt_succ_self _)).trans ((RowAt.new w T #[a, b]).cell 1)⟩

set_option maxRecDepth 20000 in
set_option maxHeartbeats 4000000 in
theorem longC_any (N : List ByteArray) (R : List Rn) (vN vR : Value) (w : World) (hN : NmArg w vN N) (hs : szs N) (hR : RnArg w vR R) (hn : R.length ≤ 1099511627776) : Calls Try.prog 25 #[.agg #[vN, vR]] w fun e w' => e = .returned (.int .i64 (lgC N R)) ∧ Below w.heap.size w w' := by
  have HK := Lib.hid (fun w' (hb : Below w.heap.size w w') => check_any N R vN vR w' (hN.keep hb) hs (hR.keep hb) hn)
  have HL := Lib.hid (fun h w' (hb : Below w.heap.size w w') => long_any (mk N.length) R vR w' (hR.keep hb) hn (ckC_ok h).2.2.2.2.2)
  obtain ⟨A1, c1, rfl, hA1, hA1'⟩ := hN.form
  obtain ⟨A2, c2, rfl⟩ := hR.form
  clear hA1' hN hR hA1 hs
  have B0 := Lib.hid (ba w (.cells #[.slice A1 N.length c1, .slice A2 R.length c2] 25))
  by_cases hz : ckC N R = 0
  · have HL2 := Lib.hid (HL.out hz)
    have HV := Lib.hid (lgC_yes hz)
    rw [hz] at HK
    clear hz HL
    generalize lgC N R = q at *
    generalize lg R = S at *
    go_enter Try.func25, Try.ntmps25
    go_wp2_with (first
      | (go_at_call 24; go_must (refine (HK.out _ B0.out).mono ?_; rintro e1 w1 ⟨rfl, b1⟩; have B1 := Lib.hid (B0.out.trans (b1.mono B0.out.size)); obtain ⟨g0, g1⟩ := box_two b1; clear b1))
      | (go_at_call 52; go_must (refine (HL2.out _ B1.out).mono ?_; rintro e2 w2 ⟨rfl, b2⟩)))
    go_returns
    exact ⟨ret_int HV.out.symm, B1.out.trans (b2.mono B1.out.size)⟩
  · have HV := Lib.hid (lgC_no hz)
    have hz' : (ckC N R == 0) = false := by simpa using hz
    clear hz HL
    generalize lgC N R = q at *
    generalize ckC N R = r at *
    go_enter Try.func25, Try.ntmps25
    go_wp2_with (first
      | (go_at_call 24; go_must (refine (HK.out _ B0.out).mono ?_; rintro e1 w1 ⟨rfl, b1⟩; have B1 := Lib.hid (B0.out.trans (b1.mono B0.out.size)); clear b1)))
    go_returns
    exact ⟨ret_int HV.out.symm, B1.out⟩

set_option maxRecDepth 20000 in
set_option maxHeartbeats 4000000 in
theorem rlongC_any (N : List ByteArray) (R : List Rn) (vN vR : Value) (w : World) (hN : NmArg w vN N) (hs : szs N) (hR : RnArg w vR R) (hn : R.length ≤ 1099511627776) : Calls Try.prog 42 #[.agg #[vN, vR]] w fun e w' => e = .returned (.int .i64 (lgC N R)) ∧ Below w.heap.size w w' := by
  have HK := Lib.hid (fun w' (hb : Below w.heap.size w w') => good_any N R vN vR w' (hN.keep hb) hs (hR.keep hb) hn)
  have HL := Lib.hid (fun h w' (hb : Below w.heap.size w w') => total_any (mk N.length) R vR w' (hR.keep hb) hn (ckC_ok h).2.2.2.2.2)
  obtain ⟨A1, c1, rfl, hA1, hA1'⟩ := hN.form
  obtain ⟨A2, c2, rfl⟩ := hR.form
  clear hA1' hN hR hA1 hs
  have B0 := Lib.hid (ba w (.cells #[.slice A1 N.length c1, .slice A2 R.length c2] 25))
  by_cases hz : ckC N R = 0
  · have HL2 := Lib.hid (HL.out hz)
    have HV := Lib.hid (lgC_yes hz)
    rw [decide_eq_true hz] at HK
    clear hz HL
    generalize lgC N R = q at *
    generalize lg R = S at *
    go_enter Try.func42, Try.ntmps42
    go_wp2_with (first
      | (go_at_call 38; go_must (refine (HK.out _ B0.out).mono ?_; rintro e1 w1 ⟨rfl, b1⟩; have B1 := Lib.hid (B0.out.trans (b1.mono B0.out.size)); obtain ⟨g0, g1⟩ := box_two b1; clear b1))
      | (go_at_call 70; go_must (refine (HL2.out _ B1.out).mono ?_; rintro e2 w2 ⟨rfl, rfl⟩)))
    go_returns
    exact ⟨ret_int HV.out.symm, B1.out⟩
  · have HV := Lib.hid (lgC_no hz)
    rw [decide_eq_false hz] at HK
    clear hz HL
    generalize lgC N R = q at *
    go_enter Try.func42, Try.ntmps42
    go_wp2_with (first
      | (go_at_call 38; go_must (refine (HK.out _ B0.out).mono ?_; rintro e1 w1 ⟨rfl, b1⟩; have B1 := Lib.hid (B0.out.trans (b1.mono B0.out.size)); clear b1)))
    go_returns
    exact ⟨ret_int HV.out.symm, B1.out⟩

/-- A level and whether there is one. -/
def atR (p : Int × Bool) : Value := .tuple #[.int .i64 p.1, .bool p.2]
theorem atR_eq {p : Int × Bool} {a : Int} {b : Bool} (h : p = (a, b)) : Ending.returned (.tuple #[.int .i64 a, .bool b]) = .returned (atR p) := by subst h; rfl

set_option maxRecDepth 20000 in
set_option maxHeartbeats 4000000 in
theorem at_any (N : List ByteArray) (R : List Rn) (vN vR : Value) (k : Int) (w : World) (hN : NmArg w vN N) (hs : szs N) (hR : RnArg w vR R) (hn : R.length ≤ 1099511627776) (hk1 : k ≤ 9223372036854775807) : Calls Try.prog 23 #[.agg #[vN, vR], .int .i64 k] w fun e w' => e = .returned (atR (atC N R k)) ∧ Below w.heap.size w w' := by
  have HK := Lib.hid (fun w' (hb : Below w.heap.size w w') => check_any N R vN vR w' (hN.keep hb) hs (hR.keep hb) hn)
  obtain ⟨A1, c1, rfl, hA1, hA1'⟩ := hN.form
  obtain ⟨A2, c2, rfl, hA⟩ := hR
  have HA := Lib.hid hA
  clear hA1' hN hA1 hs hA
  have B0 := Lib.hid (ba w (.cells #[.slice A1 N.length c1, .slice A2 R.length c2] 25))
  by_cases hk : k < 0
  · have HL := Lib.hid (atC_no (N := N) (R := R) (k := k) (by omega))
    clear HA HK
    go_enter Try.func23, Try.ntmps23
    go_wp2
    go_returns
    exact ⟨atR_eq HL.out, B0.out⟩
  by_cases hz : ckC N R = 0
  · have HL := Lib.hid (atC_yes hz (show 0 ≤ k by omega))
    obtain ⟨z1, _, _, _, _, hv⟩ := ckC_ok hz
    have HV := Lib.hid hv
    rw [hz] at HK
    clear hz hv
    go_enter Try.func23, Try.ntmps23
    go_wp2_with (first
      | (go_at_call 24; go_must (refine (HK.out _ B0.out).mono ?_; rintro e1 w1 ⟨rfl, b1⟩; have B1 := Lib.hid (B0.out.trans (b1.mono B0.out.size)); obtain ⟨g0, g1⟩ := box_two b1; clear b1)))
    go_loopw [18, 1] (fun i s wr => ∃ (j : Nat) (q : Int), j ≤ R.length ∧ i = .int .i64 j ∧ s = .int .i64 q ∧ 0 ≤ q ∧ q ≤ 9223372036854775807 ∧ Hid (atv R k = atv (R.drop j) q) ∧ Hid (Below w.heap.size w wr)) (fun i _ _ => R.length - (intOf i).toNat)
    case atStart => exact ⟨0, k, Nat.zero_le _, rfl, rfl, by omega, hk1, Lib.hid rfl, B1⟩
    case round =>
      obtain ⟨j, q, hj, rfl, rfl, hq0, hq1, HE, HB⟩ := hrel
      have hb := HB.out
      by_cases hjl : j < R.length
      · obtain ⟨g, o, rfl, hg, hc⟩ := HA.out (by omega)
        obtain ⟨a0, a1⟩ := arg_two hc j hjl
        have f0 := (hb.cell (p := ⟨g, o + j * 2, none⟩) hg).trans a0
        have f1 := (hb.cell (p := ⟨g, o + j * 2 + 1, none⟩) hg).trans a1
        have hx := el_range HV.out j hjl
        have hd := HE.out.trans (atv_drop hjl q)
        clear a0 a1 hc
        have HB2 := Lib.hid (show Below w.heap.size w (wr.alloc (.cells #[.int .i64 R[j].1, .int .i64 R[j].2] 48)) from hb.alloc hb.size _)
        generalize R[j].1 = x0 at *
        generalize R[j].2 = x1 at *
        obtain ⟨_, hx1, hx2⟩ := hx
        by_cases hlt : q < x1
        · rw [if_pos hlt] at hd
          have HD := Lib.hid (HL.out.trans hd)
          clear hd
          go_wp2
          go_returns
          exact ⟨atR_eq HD.out, HB2.out⟩
        · rw [if_neg hlt] at hd
          have HD := Lib.hid hd
          clear hd
          go_wp2
          go_roundw
          case rel => exact ⟨j + 1, q - x1, by omega, val_int (by omega), rfl, by omega, by omega, HD, HB2⟩
          case measure => simp [intOf]; omega
      · have he : R.drop j = [] := List.drop_eq_nil_of_le (by omega)
        have HD := Lib.hid (HL.out.trans HE.out)
        rw [he] at HD
        clear he
        go_wp2
        go_returns
        exact ⟨atR_eq HD.out, hb⟩
  · have HL := Lib.hid (atC_no (N := N) (R := R) (k := k) (fun h => hz h.1))
    have hz' : (ckC N R == 0) = false := by simpa using hz
    clear hz HA
    generalize ckC N R = r at *
    go_enter Try.func23, Try.ntmps23
    go_wp2_with (first
      | (go_at_call 24; go_must (refine (HK.out _ B0.out).mono ?_; rintro e1 w1 ⟨rfl, b1⟩; have B1 := Lib.hid (B0.out.trans (b1.mono B0.out.size)); clear b1)))
    go_returns
    exact ⟨atR_eq HL.out, B1.out⟩

end Go.Proofs.Yteccafndplaklaa
