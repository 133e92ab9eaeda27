/-
  Check and Good (both sides).
-/
import Derived.Test.YtcodoakfomddfaaW5
import Derived.StillTailTactics
namespace Go.Proofs.Ytcodoakfomddfaa
open Go Go.RowKit Go.Joins
set_option linter.unusedVariables false
set_option linter.unusedSimpArgs false

theorem shl_1 {V : Nat} (h : V ≤ 62) : wrap64 (2 ^ V) = ((2 ^ V : Nat) : Int) ∧ 1 ≤ 2 ^ V ∧ 2 ^ V ≤ 4611686018427387904 := by
  have h2 : 2 ^ V ≤ 2 ^ 62 := Nat.pow_le_pow_right (by omega) h
  have h0 : 1 ≤ 2 ^ V := Nat.two_pow_pos V
  have h1 : (2 : Int) ^ V = ((2 ^ V : Nat) : Int) := by simp
  refine ⟨?_, h0, h2⟩
  rw [h1]
  generalize 2 ^ V = P at *
  unfold wrap64
  omega
theorem mk_nat (n : Nat) : mk n = ((2 ^ n : Nat) : Int) - 1 := by unfold mk; simp

set_option maxRecDepth 20000 in
set_option maxHeartbeats 4000000 in
theorem check_any (N : List ByteArray) (R : List Rn) (vN vR : Value) (w : World) (hN : NmArg w vN N) (hs : szs N) (hR : RnArg w vR R) (hn : R.length ≤ 8796093022208) : Calls Try.prog 23 #[.agg #[vN, vR]] w fun e w' => e = .returned (.int .i64 (ckC N R)) ∧ Below w.heap.size w w' := by
  have HN := Lib.hid (fun w' (hb : Below w.heap.size w w') => hN.keep hb)
  have HR := Lib.hid (fun w' (hb : Below w.heap.size w w') => hR.keep hb)
  have hn' : (R.length : Int) ≤ 8796093022208 := by omega
  obtain ⟨A1, c1, rfl, hA1, hA1'⟩ := hN.form
  obtain ⟨A2, c2, rfl⟩ := hR.form
  clear hA1' hN hR hA1
  by_cases h6 : 262144 < R.length
  · have HV := Lib.hid (ckC_6 (N := N) h6)
    have h6' : (262144 : Int) < R.length := by omega
    clear h6 HN HR
    go_enter Try.func23, Try.ntmps23
    go_wp2
    go_returns
    exact ⟨ret_int HV.out.symm, ba w _⟩
  have h6' : (R.length : Int) ≤ 262144 := by omega
  have CN := Lib.hid (fun w' h => checkNames_any N (.slice A1 N.length c1) w' h hs)
  have B0 := Lib.hid (ba w (.cells #[.slice A1 N.length c1, .slice A2 R.length c2] 25))
  by_cases hz : ckN N = 0
  · obtain ⟨z1, z2, z3⟩ := ckN_ok hz
    obtain ⟨hw, hp0, hp1⟩ := shl_1 (V := N.length) (by omega)
    have hw2 : wrap64 (wrap64 (2 ^ N.length) - 1) = ((2 ^ N.length : Nat) : Int) - 1 := by
      rw [hw]
      generalize 2 ^ N.length = P at *
      unfold wrap64
      omega
    have HW2 := Lib.hid hw2
    clear hw2
    have CR := Lib.hid (fun w' h => checkRuns_any (mk N.length) R (.slice A2 R.length c2) w' h hn)
    have HV := Lib.hid (show (if vr (mk N.length) 0 R = true then 0 else 2 : Int) = ckC N R by
      cases hh : vr (mk N.length) 0 R with
      | true => rw [ckC_0 h6 hz hh]; rfl
      | false => rw [ckC_2 h6 hz hh]; rfl)
    have hmk := mk_nat N.length
    rw [hz] at CN
    generalize ckC N R = r at *
    generalize (if vr (mk N.length) 0 R = true then 0 else 2 : Int) = r2 at *
    generalize mk N.length = M at *
    have HM := Lib.hid hmk
    clear hz z3 hs h6 hmk
    generalize 2 ^ N.length = P at *
    go_enter Try.func23, Try.ntmps23
    go_wp2_with (first
      | (go_at_call 41; go_must (refine (CN.out _ (HN.out _ (ba w _))).mono ?_; rintro e1 w1 ⟨rfl, b1⟩; have B1 := Lib.hid (B0.out.trans (b1.mono B0.out.size)); have g0 := (b1.cell (p := ⟨w.heap.size, 0, none⟩) (by rw [World.size_alloc]; exact Nat.lt_succ_self _)).trans ((RowAt.new w 25 #[.slice A1 N.length c1, .slice A2 R.length c2]).cell 0); have g1 := (b1.cell (p := ⟨w.heap.size, 1, none⟩) (by rw [World.size_alloc]; exact Nat.lt_succ_self _)).trans ((RowAt.new w 25 #[.slice A1 N.length c1, .slice A2 R.length c2]).cell 1); clear b1; simp at g0 g1)))
    go_still_tail 7, (by kernel_rfl)
    change wpList _ _ _ _ _ w1.drew
    have e0 : w1.drew.cell? ⟨w.heap.size, 0, none⟩ = some (.slice A1 N.length c1) := g0
    have e1 : w1.drew.cell? ⟨w.heap.size, 1, none⟩ = some (.slice A2 R.length c2) := g1
    have BD := Lib.hid (Below.drew B1.out)
    generalize w1.drew = w2 at *
    have CR2 : Hid (∀ K, K = (P : Int) - 1 → Calls Try.prog 42 #[.slice A2 R.length c2, .int .i64 K] w2 fun e w' => e = .returned (.int .i64 r2) ∧ Below w2.heap.size w2 w') := Lib.hid (fun K hK => by subst hK; rw [← HM.out]; exact CR.out w2 (HR.out _ BD.out))
    go_wp2_with (first
      | (go_at_call 42; go_must (refine (CR2.out _ ?hK).mono ?_; (case hK => (first | rfl | exact HW2.out | omega)); rintro e3 w3 ⟨rfl, b3⟩)))
    go_returns
    exact ⟨ret_int HV.out, BD.out.trans (b3.mono BD.out.size)⟩
  · have HV := Lib.hid (ckC_n h6 hz)
    have hz' : (ckN N == 0) = false := by simpa using hz
    generalize ckC N R = r at *
    generalize ckN N = r2 at *
    clear hs h6 hz
    go_enter Try.func23, Try.ntmps23
    go_wp2_with (first
      | (go_at_call 41; go_must (refine (CN.out _ (HN.out _ (ba w _))).mono ?_; rintro e1 w1 ⟨rfl, b1⟩; have B1 := Lib.hid (B0.out.trans (b1.mono B0.out.size)); clear b1)))
    go_returns
    exact ⟨ret_int HV.out.symm, B1.out⟩

set_option maxRecDepth 20000 in
set_option maxHeartbeats 4000000 in
theorem rcheck_any (N : List ByteArray) (R : List Rn) (vN vR : Value) (w : World) (hN : NmArg w vN N) (hs : szs N) (hR : RnArg w vR R) (hn : R.length ≤ 8796093022208) : Calls Try.prog 26 #[.agg #[vN, vR]] w fun e w' => e = .returned (.int .i64 (ckC N R)) ∧ Below w.heap.size w w' := by
  have HN := Lib.hid (fun w' (hb : Below w.heap.size w w') => hN.keep hb)
  have HR := Lib.hid (fun w' (hb : Below w.heap.size w w') => hR.keep hb)
  have hn' : (R.length : Int) ≤ 8796093022208 := by omega
  obtain ⟨A1, c1, rfl, hA1, hA1'⟩ := hN.form
  obtain ⟨A2, c2, rfl⟩ := hR.form
  clear hA1' hN hR hA1
  by_cases h6 : 262144 < R.length
  · have HV := Lib.hid (ckC_6 (N := N) h6)
    have h6' : (262144 : Int) < R.length := by omega
    clear h6 HN HR
    go_enter Try.func26, Try.ntmps26
    go_wp2
    go_returns
    exact ⟨ret_int HV.out.symm, ba w _⟩
  have h6' : (R.length : Int) ≤ 262144 := by omega
  have CN := Lib.hid (fun w' h => rnames_any N (.slice A1 N.length c1) w' h hs)
  have B0 := Lib.hid (ba w (.cells #[.slice A1 N.length c1, .slice A2 R.length c2] 25))
  by_cases hz : ckN N = 0
  · obtain ⟨z1, z2, z3⟩ := ckN_ok hz
    obtain ⟨hw, hp0, hp1⟩ := shl_1 (V := N.length) (by omega)
    have hw2 : wrap64 (wrap64 (2 ^ N.length) - 1) = ((2 ^ N.length : Nat) : Int) - 1 := by
      rw [hw]
      generalize 2 ^ N.length = P at *
      unfold wrap64
      omega
    have HW2 := Lib.hid hw2
    clear hw2
    have CR := Lib.hid (fun w' h => rruns_any (mk N.length) R (.slice A2 R.length c2) w' h hn)
    have HY := Lib.hid (show vr (mk N.length) 0 R = true → ckC N R = 0 from fun h => ckC_0 h6 hz h)
    have HX := Lib.hid (show vr (mk N.length) 0 R = false → ckC N R = 2 from fun h => ckC_2 h6 hz h)
    have hmk := mk_nat N.length
    rw [hz] at CN
    generalize ckC N R = r at *
    generalize vr (mk N.length) 0 R = b at *
    generalize mk N.length = M at *
    have HM := Lib.hid hmk
    clear hz z3 hs h6 hmk
    generalize 2 ^ N.length = P at *
    cases b with
    | true =>
      go_enter Try.func26, Try.ntmps26
      go_wp2_with (first
        | (go_at_call 45; go_must (refine (CN.out _ (HN.out _ (ba w _))).mono ?_; rintro e1 w1 ⟨rfl, b1⟩; have B1 := Lib.hid (B0.out.trans (b1.mono B0.out.size)); have g0 := (b1.cell (p := ⟨w.heap.size, 0, none⟩) (by rw [World.size_alloc]; exact Nat.lt_succ_self _)).trans ((RowAt.new w 25 #[.slice A1 N.length c1, .slice A2 R.length c2]).cell 0); have g1 := (b1.cell (p := ⟨w.heap.size, 1, none⟩) (by rw [World.size_alloc]; exact Nat.lt_succ_self _)).trans ((RowAt.new w 25 #[.slice A1 N.length c1, .slice A2 R.length c2]).cell 1); clear b1; simp at g0 g1)))
      go_still_tail 7, (by kernel_rfl)
      change wpList _ _ _ _ _ w1.drew
      have e0 : w1.drew.cell? ⟨w.heap.size, 0, none⟩ = some (.slice A1 N.length c1) := g0
      have e1 : w1.drew.cell? ⟨w.heap.size, 1, none⟩ = some (.slice A2 R.length c2) := g1
      have BD := Lib.hid (Below.drew B1.out)
      generalize w1.drew = w2 at *
      have CR2 : Hid (∀ K, K = (P : Int) - 1 → Calls Try.prog 46 #[.slice A2 R.length c2, .int .i64 K] w2 fun e w' => e = .returned (.bool true) ∧ w2 = w') := Lib.hid (fun K hK => by subst hK; rw [← HM.out]; exact CR.out w2 (HR.out _ BD.out))
      go_wp2_with (first
        | (go_at_call 46; go_must (refine (CR2.out _ ?hK).mono ?_; (case hK => (first | rfl | exact HW2.out | omega)); rintro e3 w3 ⟨rfl, rfl⟩)))
      go_returns
      exact ⟨ret_int (HY.out (by first | rfl | trivial)).symm, BD.out⟩
    | false =>
      go_enter Try.func26, Try.ntmps26
      go_wp2_with (first
        | (go_at_call 45; go_must (refine (CN.out _ (HN.out _ (ba w _))).mono ?_; rintro e1 w1 ⟨rfl, b1⟩; have B1 := Lib.hid (B0.out.trans (b1.mono B0.out.size)); have g0 := (b1.cell (p := ⟨w.heap.size, 0, none⟩) (by rw [World.size_alloc]; exact Nat.lt_succ_self _)).trans ((RowAt.new w 25 #[.slice A1 N.length c1, .slice A2 R.length c2]).cell 0); have g1 := (b1.cell (p := ⟨w.heap.size, 1, none⟩) (by rw [World.size_alloc]; exact Nat.lt_succ_self _)).trans ((RowAt.new w 25 #[.slice A1 N.length c1, .slice A2 R.length c2]).cell 1); clear b1; simp at g0 g1)))
      go_still_tail 7, (by kernel_rfl)
      change wpList _ _ _ _ _ w1.drew
      have e0 : w1.drew.cell? ⟨w.heap.size, 0, none⟩ = some (.slice A1 N.length c1) := g0
      have e1 : w1.drew.cell? ⟨w.heap.size, 1, none⟩ = some (.slice A2 R.length c2) := g1
      have BD := Lib.hid (Below.drew B1.out)
      generalize w1.drew = w2 at *
      have CR2 : Hid (∀ K, K = (P : Int) - 1 → Calls Try.prog 46 #[.slice A2 R.length c2, .int .i64 K] w2 fun e w' => e = .returned (.bool false) ∧ w2 = w') := Lib.hid (fun K hK => by subst hK; rw [← HM.out]; exact CR.out w2 (HR.out _ BD.out))
      go_wp2_with (first
        | (go_at_call 46; go_must (refine (CR2.out _ ?hK).mono ?_; (case hK => (first | rfl | exact HW2.out | omega)); rintro e3 w3 ⟨rfl, rfl⟩)))
      go_returns
      exact ⟨ret_int (HX.out (by first | rfl | trivial)).symm, BD.out⟩
  · have HV := Lib.hid (ckC_n h6 hz)
    have hz' : (ckN N == 0) = false := by simpa using hz
    generalize ckC N R = r at *
    generalize ckN N = r2 at *
    clear hs h6 hz
    go_enter Try.func26, Try.ntmps26
    go_wp2_with (first
      | (go_at_call 45; go_must (refine (CN.out _ (HN.out _ (ba w _))).mono ?_; rintro e1 w1 ⟨rfl, b1⟩; have B1 := Lib.hid (B0.out.trans (b1.mono B0.out.size)); clear b1)))
    go_returns
    exact ⟨ret_int HV.out.symm, B1.out⟩

set_option maxRecDepth 20000 in
set_option maxHeartbeats 4000000 in
theorem good_any (N : List ByteArray) (R : List Rn) (vN vR : Value) (w : World) (hN : NmArg w vN N) (hs : szs N) (hR : RnArg w vR R) (hn : R.length ≤ 8796093022208) : Calls Try.prog 20 #[.agg #[vN, vR]] w fun e w' => e = .returned (.bool (decide (ckC N R = 0))) ∧ Below w.heap.size w w' := by
  have CK := Lib.hid (rcheck_any N R vN vR w hN hs hR hn)
  have HK := Lib.hid (fun w' (hb : Below w.heap.size w w') => rcheck_any N R vN vR w' (hN.keep hb) hs (hR.keep hb) hn)
  obtain ⟨A1, c1, rfl, hA1, hA1'⟩ := hN.form
  obtain ⟨A2, c2, rfl⟩ := hR.form
  clear hA1' hN hR hA1 hs
  have B0 := Lib.hid (ba w (.cells #[.slice A1 N.length c1, .slice A2 R.length c2] 25))
  generalize ckC N R = r at *
  go_enter Try.func20, Try.ntmps20
  go_wp2_with (first
    | (go_at_call 26; go_must (refine (HK.out _ B0.out).mono ?_; rintro e1 w1 ⟨rfl, b1⟩; have B1 := Lib.hid (B0.out.trans (b1.mono B0.out.size)); clear b1)))
  all_goals
    go_returns
    exact ⟨ret_bool (by first | rfl | simp [*] | (simp; done)), B1.out⟩

end Go.Proofs.Ytcodoakfomddfaa
