/-
  Check and Good (both sides).
  Long and At (both sides).
-/
import Derived.Test.YtillcmddbjhepaaGreatDoorZ09
import Derived.StillTailTactics
namespace Go.Proofs.YtillcmddbjhepaaGreatDoor
namespace Si
open Go Go.RowKit Go.Joins
set_option linter.unusedVariables false
set_option linter.unusedSimpArgs false

theorem shl_1 {V : Nat} (h : V ≤ 62) : wrap64 (2 ^ V) = ((2 ^ V : Nat) : Int) ∧ 1 ≤ 2 ^ V ∧ 2 ^ V ≤ 4611686018427387904 := by
  have h2 : 2 ^ V ≤ 2 ^ 62 := Nat.pow_le_pow_right (by omega) h
  have h0 : 1 ≤ 2 ^ V := Nat.two_pow_pos V
  have h1 : (2 : Int) ^ V = ((2 ^ V : Nat) : Int) := by simp
  refine ⟨?_, h0, h2⟩
  rw [h1]
  generalize 2 ^ V = P at *
  unfold wrap64
  omega
theorem mk_nat (n : Nat) : mk n = ((2 ^ n : Nat) : Int) - 1 := by unfold mk; simp

set_option maxRecDepth 20000 in
set_option maxHeartbeats 4000000 in
theorem check_any (N : List ByteArray) (R : List Rn) (vN vR : Value) (w : World) (hN : NmArg w vN N) (hs : szs N) (hR : RnArg w vR R) (hn : R.length ≤ 1099511627776) : Calls Tryz.prog 25 #[.agg #[vN, vR]] w fun e w' => e = .returned (.int .i64 (ckC N R)) ∧ Below w.heap.size w w' := by
  have HN := Lib.hid (fun w' (hb : Below w.heap.size w w') => hN.keep hb)
  have HR := Lib.hid (fun w' (hb : Below w.heap.size w w') => hR.keep hb)
  have hn' : (R.length : Int) ≤ 1099511627776 := by omega
  obtain ⟨A1, c1, rfl, hA1, hA1'⟩ := hN.form
  obtain ⟨A2, c2, rfl⟩ := hR.form
  clear hA1' hN hR hA1
  by_cases h6 : 262144 < R.length
  · have HV := Lib.hid (ckC_6 (N := N) h6)
    have h6' : (262144 : Int) < R.length := by omega
    clear h6 HN HR
    go_enter Tryz.func25, Tryz.ntmps25
    go_wp2
    go_returns
    exact ⟨ret_int HV.out.symm, ba w _⟩
  have h6' : (R.length : Int) ≤ 262144 := by omega
  have CN := Lib.hid (fun w' h => checkNames_any N (.slice A1 N.length c1) w' h hs)
  have B0 := Lib.hid (ba w (.cells #[.slice A1 N.length c1, .slice A2 R.length c2] 25))
  by_cases hz : ckN N = 0
  · obtain ⟨z1, z2, z3⟩ := ckN_ok hz
    obtain ⟨hw, hp0, hp1⟩ := shl_1 (V := N.length) (by omega)
    have hw2 : wrap64 (wrap64 (2 ^ N.length) - 1) = ((2 ^ N.length : Nat) : Int) - 1 := by
      rw [hw]
      generalize 2 ^ N.length = P at *
      unfold wrap64
      omega
    have HW2 := Lib.hid hw2
    clear hw2
    have CR := Lib.hid (fun w' h => checkRuns_any (mk N.length) R (.slice A2 R.length c2) w' h hn)
    have HV := Lib.hid (show (if vr (mk N.length) 0 R = true then 0 else 2 : Int) = ckC N R by
      cases hh : vr (mk N.length) 0 R with
      | true => rw [ckC_0 h6 hz hh]; rfl
      | false => rw [ckC_2 h6 hz hh]; rfl)
    have hmk := mk_nat N.length
    rw [hz] at CN
    generalize ckC N R = r at *
    generalize (if vr (mk N.length) 0 R = true then 0 else 2 : Int) = r2 at *
    generalize mk N.length = M at *
    have HM := Lib.hid hmk
    clear hz z3 hs h6 hmk
    generalize 2 ^ N.length = P at *
    go_enter Tryz.func25, Tryz.ntmps25
    go_wp2_with (first
      | (go_at_call 49; go_must (refine (CN.out _ (HN.out _ (ba w _))).mono ?_; rintro e1 w1 ⟨rfl, b1⟩; have B1 := Lib.hid (B0.out.trans (b1.mono B0.out.size)); have g0 := (b1.cell (p := ⟨w.heap.size, 0, none⟩) (by rw [World.size_alloc]; exact Nat.lt_succ_self _)).trans ((RowAt.new w 25 #[.slice A1 N.length c1, .slice A2 R.length c2]).cell 0); have g1 := (b1.cell (p := ⟨w.heap.size, 1, none⟩) (by rw [World.size_alloc]; exact Nat.lt_succ_self _)).trans ((RowAt.new w 25 #[.slice A1 N.length c1, .slice A2 R.length c2]).cell 1); clear b1; simp at g0 g1)))
    go_still_tail 7, (by kernel_rfl)
    change wpList _ _ _ _ _ w1.drew
    have e0 : w1.drew.cell? ⟨w.heap.size, 0, none⟩ = some (.slice A1 N.length c1) := g0
    have e1 : w1.drew.cell? ⟨w.heap.size, 1, none⟩ = some (.slice A2 R.length c2) := g1
    have BD := Lib.hid (Below.drew B1.out)
    generalize w1.drew = w2 at *
    have CR2 : Hid (∀ K, K = (P : Int) - 1 → Calls Tryz.prog 50 #[.slice A2 R.length c2, .int .i64 K] w2 fun e w' => e = .returned (.int .i64 r2) ∧ Below w2.heap.size w2 w') := Lib.hid (fun K hK => by subst hK; rw [← HM.out]; exact CR.out w2 (HR.out _ BD.out))
    go_wp2_with (first
      | (go_at_call 50; go_must (refine (CR2.out _ ?hK).mono ?_; (case hK => (first | rfl | exact HW2.out | omega)); rintro e3 w3 ⟨rfl, b3⟩)))
    go_returns
    exact ⟨ret_int HV.out, BD.out.trans (b3.mono BD.out.size)⟩
  · have HV := Lib.hid (ckC_n h6 hz)
    have hz' : (ckN N == 0) = false := by simpa using hz
    generalize ckC N R = r at *
    generalize ckN N = r2 at *
    clear hs h6 hz
    go_enter Tryz.func25, Tryz.ntmps25
    go_wp2_with (first
      | (go_at_call 49; go_must (refine (CN.out _ (HN.out _ (ba w _))).mono ?_; rintro e1 w1 ⟨rfl, b1⟩; have B1 := Lib.hid (B0.out.trans (b1.mono B0.out.size)); clear b1)))
    go_returns
    exact ⟨ret_int HV.out.symm, B1.out⟩

set_option maxRecDepth 20000 in
set_option maxHeartbeats 4000000 in
theorem rcheck_any (N : List ByteArray) (R : List Rn) (vN vR : Value) (w : World) (hN : NmArg w vN N) (hs : szs N) (hR : RnArg w vR R) (hn : R.length ≤ 1099511627776) : Calls Tryz.prog 30 #[.agg #[vN, vR]] w fun e w' => e = .returned (.int .i64 (ckC N R)) ∧ Below w.heap.size w w' := by
  have HN := Lib.hid (fun w' (hb : Below w.heap.size w w') => hN.keep hb)
  have HR := Lib.hid (fun w' (hb : Below w.heap.size w w') => hR.keep hb)
  have hn' : (R.length : Int) ≤ 1099511627776 := by omega
  obtain ⟨A1, c1, rfl, hA1, hA1'⟩ := hN.form
  obtain ⟨A2, c2, rfl⟩ := hR.form
  clear hA1' hN hR hA1
  by_cases h6 : 262144 < R.length
  · have HV := Lib.hid (ckC_6 (N := N) h6)
    have h6' : (262144 : Int) < R.length := by omega
    clear h6 HN HR
    go_enter Tryz.func30, Tryz.ntmps30
    go_wp2
    go_returns
    exact ⟨ret_int HV.out.symm, ba w _⟩
  have h6' : (R.length : Int) ≤ 262144 := by omega
  have CN := Lib.hid (fun w' h => rnames_any N (.slice A1 N.length c1) w' h hs)
  have B0 := Lib.hid (ba w (.cells #[.slice A1 N.length c1, .slice A2 R.length c2] 25))
  by_cases hz : ckN N = 0
  · obtain ⟨z1, z2, z3⟩ := ckN_ok hz
    obtain ⟨hw, hp0, hp1⟩ := shl_1 (V := N.length) (by omega)
    have hw2 : wrap64 (wrap64 (2 ^ N.length) - 1) = ((2 ^ N.length : Nat) : Int) - 1 := by
      rw [hw]
      generalize 2 ^ N.length = P at *
      unfold wrap64
      omega
    have HW2 := Lib.hid hw2
    clear hw2
    have CR := Lib.hid (fun w' h => rruns_any (mk N.length) R (.slice A2 R.length c2) w' h hn)
    have HY := Lib.hid (show vr (mk N.length) 0 R = true → ckC N R = 0 from fun h => ckC_0 h6 hz h)
    have HX := Lib.hid (show vr (mk N.length) 0 R = false → ckC N R = 2 from fun h => ckC_2 h6 hz h)
    have hmk := mk_nat N.length
    rw [hz] at CN
    generalize ckC N R = r at *
    generalize vr (mk N.length) 0 R = b at *
    generalize mk N.length = M at *
    have HM := Lib.hid hmk
    clear hz z3 hs h6 hmk
    generalize 2 ^ N.length = P at *
    cases b with
    | true =>
      go_enter Tryz.func30, Tryz.ntmps30
      go_wp2_with (first
        | (go_at_call 60; go_must (refine (CN.out _ (HN.out _ (ba w _))).mono ?_; rintro e1 w1 ⟨rfl, b1⟩; have B1 := Lib.hid (B0.out.trans (b1.mono B0.out.size)); have g0 := (b1.cell (p := ⟨w.heap.size, 0, none⟩) (by rw [World.size_alloc]; exact Nat.lt_succ_self _)).trans ((RowAt.new w 25 #[.slice A1 N.length c1, .slice A2 R.length c2]).cell 0); have g1 := (b1.cell (p := ⟨w.heap.size, 1, none⟩) (by rw [World.size_alloc]; exact Nat.lt_succ_self _)).trans ((RowAt.new w 25 #[.slice A1 N.length c1, .slice A2 R.length c2]).cell 1); clear b1; simp at g0 g1)))
      go_still_tail 7, (by kernel_rfl)
      change wpList _ _ _ _ _ w1.drew
      have e0 : w1.drew.cell? ⟨w.heap.size, 0, none⟩ = some (.slice A1 N.length c1) := g0
      have e1 : w1.drew.cell? ⟨w.heap.size, 1, none⟩ = some (.slice A2 R.length c2) := g1
      have BD := Lib.hid (Below.drew B1.out)
      generalize w1.drew = w2 at *
      have CR2 : Hid (∀ K, K = (P : Int) - 1 → Calls Tryz.prog 61 #[.slice A2 R.length c2, .int .i64 K] w2 fun e w' => e = .returned (.bool true) ∧ w2 = w') := Lib.hid (fun K hK => by subst hK; rw [← HM.out]; exact CR.out w2 (HR.out _ BD.out))
      go_wp2_with (first
        | (go_at_call 61; go_must (refine (CR2.out _ ?hK).mono ?_; (case hK => (first | rfl | exact HW2.out | omega)); rintro e3 w3 ⟨rfl, rfl⟩)))
      go_returns
      exact ⟨ret_int (HY.out (by first | rfl | trivial)).symm, BD.out⟩
    | false =>
      go_enter Tryz.func30, Tryz.ntmps30
      go_wp2_with (first
        | (go_at_call 60; go_must (refine (CN.out _ (HN.out _ (ba w _))).mono ?_; rintro e1 w1 ⟨rfl, b1⟩; have B1 := Lib.hid (B0.out.trans (b1.mono B0.out.size)); have g0 := (b1.cell (p := ⟨w.heap.size, 0, none⟩) (by rw [World.size_alloc]; exact Nat.lt_succ_self _)).trans ((RowAt.new w 25 #[.slice A1 N.length c1, .slice A2 R.length c2]).cell 0); have g1 := (b1.cell (p := ⟨w.heap.size, 1, none⟩) (by rw [World.size_alloc]; exact Nat.lt_succ_self _)).trans ((RowAt.new w 25 #[.slice A1 N.length c1, .slice A2 R.length c2]).cell 1); clear b1; simp at g0 g1)))
      go_still_tail 7, (by kernel_rfl)
      change wpList _ _ _ _ _ w1.drew
      have e0 : w1.drew.cell? ⟨w.heap.size, 0, none⟩ = some (.slice A1 N.length c1) := g0
      have e1 : w1.drew.cell? ⟨w.heap.size, 1, none⟩ = some (.slice A2 R.length c2) := g1
      have BD := Lib.hid (Below.drew B1.out)
      generalize w1.drew = w2 at *
      have CR2 : Hid (∀ K, K = (P : Int) - 1 → Calls Tryz.prog 61 #[.slice A2 R.length c2, .int .i64 K] w2 fun e w' => e = .returned (.bool false) ∧ w2 = w') := Lib.hid (fun K hK => by subst hK; rw [← HM.out]; exact CR.out w2 (HR.out _ BD.out))
      go_wp2_with (first
        | (go_at_call 61; go_must (refine (CR2.out _ ?hK).mono ?_; (case hK => (first | rfl | exact HW2.out | omega)); rintro e3 w3 ⟨rfl, rfl⟩)))
      go_returns
      exact ⟨ret_int (HX.out (by first | rfl | trivial)).symm, BD.out⟩
  · have HV := Lib.hid (ckC_n h6 hz)
    have hz' : (ckN N == 0) = false := by simpa using hz
    generalize ckC N R = r at *
    generalize ckN N = r2 at *
    clear hs h6 hz
    go_enter Tryz.func30, Tryz.ntmps30
    go_wp2_with (first
      | (go_at_call 60; go_must (refine (CN.out _ (HN.out _ (ba w _))).mono ?_; rintro e1 w1 ⟨rfl, b1⟩; have B1 := Lib.hid (B0.out.trans (b1.mono B0.out.size)); clear b1)))
    go_returns
    exact ⟨ret_int HV.out.symm, B1.out⟩

end Si
end Go.Proofs.YtillcmddbjhepaaGreatDoor

namespace Go.Proofs.YtillcmddbjhepaaGreatDoor
namespace Si
open Go Go.RowKit Go.Joins
set_option linter.unusedVariables false
set_option linter.unusedSimpArgs false

/-- The two cells of a capture's box, behind what only makes memory. -/
theorem box_two {w w1 : World} {a b : Value} {T : TypeId} (hb : Below (w.alloc (.cells #[a, b] T)).heap.size (w.alloc (.cells #[a, b] T)) w1) :
    w1.cell? ⟨w.heap.size, 0, none⟩ = some a ∧ w1.cell? ⟨w.heap.size, 1, none⟩ = some b :=
  ⟨(hb.cell (p := ⟨w.heap.size, 0, none⟩) (by rw [World.size_alloc]; exact Nat.lt_succ_self _)).trans ((RowAt.new w T #[a, b]).cell 0),
   (hb.cell (p := ⟨w.heap.size, 1, none⟩) (by rw [World.size_alloc]; exact Nat.lt_succ_self _)).trans ((RowAt.new w T #[a, b]).cell 1)⟩

set_option maxRecDepth 20000 in
set_option maxHeartbeats 4000000 in
theorem longC_any (N : List ByteArray) (R : List Rn) (vN vR : Value) (w : World) (hN : NmArg w vN N) (hs : szs N) (hR : RnArg w vR R) (hn : R.length ≤ 1099511627776) : Calls Tryz.prog 27 #[.agg #[vN, vR]] w fun e w' => e = .returned (.int .i64 (lgC N R)) ∧ Below w.heap.size w w' := by
  have HK := Lib.hid (fun w' (hb : Below w.heap.size w w') => check_any N R vN vR w' (hN.keep hb) hs (hR.keep hb) hn)
  have HL := Lib.hid (fun h w' (hb : Below w.heap.size w w') => long_any (mk N.length) R vR w' (hR.keep hb) hn (ckC_ok h).2.2.2.2.2)
  obtain ⟨A1, c1, rfl, hA1, hA1'⟩ := hN.form
  obtain ⟨A2, c2, rfl⟩ := hR.form
  clear hA1' hN hR hA1 hs
  have B0 := Lib.hid (ba w (.cells #[.slice A1 N.length c1, .slice A2 R.length c2] 25))
  by_cases hz : ckC N R = 0
  · have HL2 := Lib.hid (HL.out hz)
    have HV := Lib.hid (lgC_yes hz)
    rw [hz] at HK
    clear hz HL
    generalize lgC N R = q at *
    generalize lg R = S at *
    go_enter Tryz.func27, Tryz.ntmps27
    go_wp2_with (first
      | (go_at_call 25; go_must (refine (HK.out _ B0.out).mono ?_; rintro e1 w1 ⟨rfl, b1⟩; have B1 := Lib.hid (B0.out.trans (b1.mono B0.out.size)); obtain ⟨g0, g1⟩ := box_two b1; clear b1))
      | (go_at_call 51; go_must (refine (HL2.out _ B1.out).mono ?_; rintro e2 w2 ⟨rfl, b2⟩)))
    go_returns
    exact ⟨ret_int HV.out.symm, B1.out.trans (b2.mono B1.out.size)⟩
  · have HV := Lib.hid (lgC_no hz)
    have hz' : (ckC N R == 0) = false := by simpa using hz
    clear hz HL
    generalize lgC N R = q at *
    generalize ckC N R = r at *
    go_enter Tryz.func27, Tryz.ntmps27
    go_wp2_with (first
      | (go_at_call 25; go_must (refine (HK.out _ B0.out).mono ?_; rintro e1 w1 ⟨rfl, b1⟩; have B1 := Lib.hid (B0.out.trans (b1.mono B0.out.size)); clear b1)))
    go_returns
    exact ⟨ret_int HV.out.symm, B1.out⟩

/-- A level and whether there is one. -/
def atR (p : Int × Bool) : Value := .tuple #[.int .i64 p.1, .bool p.2]
theorem atR_eq {p : Int × Bool} {a : Int} {b : Bool} (h : p = (a, b)) : Ending.returned (.tuple #[.int .i64 a, .bool b]) = .returned (atR p) := by subst h; rfl

end Si
end Go.Proofs.YtillcmddbjhepaaGreatDoor
