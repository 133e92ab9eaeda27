/-
  Check and Good (both sides).
  Long and At (both sides).
  The walks of the specification's joined, Clean, Edges and Invert.
-/
import Derived.Test.YtgihljconpijaaaZ07
import Derived.StillTailTactics
import Derived.Test.YtgihljconpijaaaZ06
import Derived.Test.YtgihljconpijaaaZ04
import Derived.Deep.RegionHeld3
namespace Go.Proofs.Ytgihljconpijaaa
namespace Si
open Go Go.RowKit Go.Joins
set_option linter.unusedVariables false
set_option linter.unusedSimpArgs false

theorem shl_1 {V : Nat} (h : V ≤ 62) : wrap64 (2 ^ V) = ((2 ^ V : Nat) : Int) ∧ 1 ≤ 2 ^ V ∧ 2 ^ V ≤ 4611686018427387904 := by
  have h2 : 2 ^ V ≤ 2 ^ 62 := Nat.pow_le_pow_right (by omega) h
  have h0 : 1 ≤ 2 ^ V := Nat.two_pow_pos V
  have h1 : (2 : Int) ^ V = ((2 ^ V : Nat) : Int) := by simp
  refine ⟨?_, h0, h2⟩
  rw [h1]
  generalize 2 ^ V = P at *
  unfold wrap64
  omega
theorem mk_nat (n : Nat) : mk n = ((2 ^ n : Nat) : Int) - 1 := by unfold mk; simp

set_option maxRecDepth 20000 in
set_option maxHeartbeats 4000000 in
theorem check_any (N : List ByteArray) (R : List Rn) (vN vR : Value) (w : World) (hN : NmArg w vN N) (hs : szs N) (hR : RnArg w vR R) (hn : R.length ≤ 1099511627776) : Calls Try.prog 27 #[.agg #[vN, vR]] w fun e w' => e = .returned (.int .i64 (ckC N R)) ∧ Below w.heap.size w w' := by
  have HN := Lib.hid (fun w' (hb : Below w.heap.size w w') => hN.keep hb)
  have HR := Lib.hid (fun w' (hb : Below w.heap.size w w') => hR.keep hb)
  have hn' : (R.length : Int) ≤ 1099511627776 := by omega
  obtain ⟨A1, c1, rfl, hA1, hA1'⟩ := hN.form
  obtain ⟨A2, c2, rfl⟩ := hR.form
  clear hA1' hN hR hA1
  by_cases h6 : 262144 < R.length
  · have HV := Lib.hid (ckC_6 (N := N) h6)
    have h6' : (262144 : Int) < R.length := by omega
    clear h6 HN HR
    go_enter Try.func27, Try.ntmps27
    go_wp2
    go_returns
    exact ⟨ret_int HV.out.symm, ba w _⟩
  have h6' : (R.length : Int) ≤ 262144 := by omega
  have CN := Lib.hid (fun w' h => checkNames_any N (.slice A1 N.length c1) w' h hs)
  have B0 := Lib.hid (ba w (.cells #[.slice A1 N.length c1, .slice A2 R.length c2] 30))
  by_cases hz : ckN N = 0
  · obtain ⟨z1, z2, z3⟩ := ckN_ok hz
    obtain ⟨hw, hp0, hp1⟩ := shl_1 (V := N.length) (by omega)
    have hw2 : wrap64 (wrap64 (2 ^ N.length) - 1) = ((2 ^ N.length : Nat) : Int) - 1 := by
      rw [hw]
      generalize 2 ^ N.length = P at *
      unfold wrap64
      omega
    have HW2 := Lib.hid hw2
    clear hw2
    have CR := Lib.hid (fun w' h => checkRuns_any (mk N.length) R (.slice A2 R.length c2) w' h hn)
    have HV := Lib.hid (show (if vr (mk N.length) 0 R = true then 0 else 2 : Int) = ckC N R by
      cases hh : vr (mk N.length) 0 R with
      | true => rw [ckC_0 h6 hz hh]; rfl
      | false => rw [ckC_2 h6 hz hh]; rfl)
    have hmk := mk_nat N.length
    rw [hz] at CN
    generalize ckC N R = r at *
    generalize (if vr (mk N.length) 0 R = true then 0 else 2 : Int) = r2 at *
    generalize mk N.length = M at *
    have HM := Lib.hid hmk
    clear hz z3 hs h6 hmk
    generalize 2 ^ N.length = P at *
    go_enter Try.func27, Try.ntmps27
    go_wp2_with (first
      | (go_at_call 45; go_must (refine (CN.out _ (HN.out _ (ba w _))).mono ?_; rintro e1 w1 ⟨rfl, b1⟩; have B1 := Lib.hid (B0.out.trans (b1.mono B0.out.size)); have g0 := (b1.cell (p := ⟨w.heap.size, 0, none⟩) (by rw [World.size_alloc]; exact Nat.lt_succ_self _)).trans ((RowAt.new w 30 #[.slice A1 N.length c1, .slice A2 R.length c2]).cell 0); have g1 := (b1.cell (p := ⟨w.heap.size, 1, none⟩) (by rw [World.size_alloc]; exact Nat.lt_succ_self _)).trans ((RowAt.new w 30 #[.slice A1 N.length c1, .slice A2 R.length c2]).cell 1); clear b1; simp at g0 g1)))
    go_still_tail 7, (by kernel_rfl)
    change wpList _ _ _ _ _ w1.drew
    have e0 : w1.drew.cell? ⟨w.heap.size, 0, none⟩ = some (.slice A1 N.length c1) := g0
    have e1 : w1.drew.cell? ⟨w.heap.size, 1, none⟩ = some (.slice A2 R.length c2) := g1
    have BD := Lib.hid (Below.drew B1.out)
    generalize w1.drew = w2 at *
    have CR2 : Hid (∀ K, K = (P : Int) - 1 → Calls Try.prog 46 #[.slice A2 R.length c2, .int .i64 K] w2 fun e w' => e = .returned (.int .i64 r2) ∧ Below w2.heap.size w2 w') := Lib.hid (fun K hK => by subst hK; rw [← HM.out]; exact CR.out w2 (HR.out _ BD.out))
    go_wp2_with (first
      | (go_at_call 46; go_must (refine (CR2.out _ ?hK).mono ?_; (case hK => (first | rfl | exact HW2.out | omega)); rintro e3 w3 ⟨rfl, b3⟩)))
    go_returns
    exact ⟨ret_int HV.out, BD.out.trans (b3.mono BD.out.size)⟩
  · have HV := Lib.hid (ckC_n h6 hz)
    have hz' : (ckN N == 0) = false := by simpa using hz
    generalize ckC N R = r at *
    generalize ckN N = r2 at *
    clear hs h6 hz
    go_enter Try.func27, Try.ntmps27
    go_wp2_with (first
      | (go_at_call 45; go_must (refine (CN.out _ (HN.out _ (ba w _))).mono ?_; rintro e1 w1 ⟨rfl, b1⟩; have B1 := Lib.hid (B0.out.trans (b1.mono B0.out.size)); clear b1)))
    go_returns
    exact ⟨ret_int HV.out.symm, B1.out⟩

set_option maxRecDepth 20000 in
set_option maxHeartbeats 4000000 in
theorem rcheck_any (N : List ByteArray) (R : List Rn) (vN vR : Value) (w : World) (hN : NmArg w vN N) (hs : szs N) (hR : RnArg w vR R) (hn : R.length ≤ 1099511627776) : Calls Try.prog 32 #[.agg #[vN, vR]] w fun e w' => e = .returned (.int .i64 (ckC N R)) ∧ Below w.heap.size w w' := by
  have HN := Lib.hid (fun w' (hb : Below w.heap.size w w') => hN.keep hb)
  have HR := Lib.hid (fun w' (hb : Below w.heap.size w w') => hR.keep hb)
  have hn' : (R.length : Int) ≤ 1099511627776 := by omega
  obtain ⟨A1, c1, rfl, hA1, hA1'⟩ := hN.form
  obtain ⟨A2, c2, rfl⟩ := hR.form
  clear hA1' hN hR hA1
  by_cases h6 : 262144 < R.length
  · have HV := Lib.hid (ckC_6 (N := N) h6)
    have h6' : (262144 : Int) < R.length := by omega
    clear h6 HN HR
    go_enter Try.func32, Try.ntmps32
    go_wp2
    go_returns
    exact ⟨ret_int HV.out.symm, ba w _⟩
  have h6' : (R.length : Int) ≤ 262144 := by omega
  have CN := Lib.hid (fun w' h => rnames_any N (.slice A1 N.length c1) w' h hs)
  have B0 := Lib.hid (ba w (.cells #[.slice A1 N.length c1, .slice A2 R.length c2] 30))
  by_cases hz : ckN N = 0
  · obtain ⟨z1, z2, z3⟩ := ckN_ok hz
    obtain ⟨hw, hp0, hp1⟩ := shl_1 (V := N.length) (by omega)
    have hw2 : wrap64 (wrap64 (2 ^ N.length) - 1) = ((2 ^ N.length : Nat) : Int) - 1 := by
      rw [hw]
      generalize 2 ^ N.length = P at *
      unfold wrap64
      omega
    have HW2 := Lib.hid hw2
    clear hw2
    have CR := Lib.hid (fun w' h => rruns_any (mk N.length) R (.slice A2 R.length c2) w' h hn)
    have HY := Lib.hid (show vr (mk N.length) 0 R = true → ckC N R = 0 from fun h => ckC_0 h6 hz h)
    have HX := Lib.hid (show vr (mk N.length) 0 R = false → ckC N R = 2 from fun h => ckC_2 h6 hz h)
    have hmk := mk_nat N.length
    rw [hz] at CN
    generalize ckC N R = r at *
    generalize vr (mk N.length) 0 R = b at *
    generalize mk N.length = M at *
    have HM := Lib.hid hmk
    clear hz z3 hs h6 hmk
    generalize 2 ^ N.length = P at *
    cases b with
    | true =>
      go_enter Try.func32, Try.ntmps32
      go_wp2_with (first
        | (go_at_call 54; go_must (refine (CN.out _ (HN.out _ (ba w _))).mono ?_; rintro e1 w1 ⟨rfl, b1⟩; have B1 := Lib.hid (B0.out.trans (b1.mono B0.out.size)); have g0 := (b1.cell (p := ⟨w.heap.size, 0, none⟩) (by rw [World.size_alloc]; exact Nat.lt_succ_self _)).trans ((RowAt.new w 30 #[.slice A1 N.length c1, .slice A2 R.length c2]).cell 0); have g1 := (b1.cell (p := ⟨w.heap.size, 1, none⟩) (by rw [World.size_alloc]; exact Nat.lt_succ_self _)).trans ((RowAt.new w 30 #[.slice A1 N.length c1, .slice A2 R.length c2]).cell 1); clear b1; simp at g0 g1)))
      go_still_tail 7, (by kernel_rfl)
      change wpList _ _ _ _ _ w1.drew
      have e0 : w1.drew.cell? ⟨w.heap.size, 0, none⟩ = some (.slice A1 N.length c1) := g0
      have e1 : w1.drew.cell? ⟨w.heap.size, 1, none⟩ = some (.slice A2 R.length c2) := g1
      have BD := Lib.hid (Below.drew B1.out)
      generalize w1.drew = w2 at *
      have CR2 : Hid (∀ K, K = (P : Int) - 1 → Calls Try.prog 55 #[.slice A2 R.length c2, .int .i64 K] w2 fun e w' => e = .returned (.bool true) ∧ w2 = w') := Lib.hid (fun K hK => by subst hK; rw [← HM.out]; exact CR.out w2 (HR.out _ BD.out))
      go_wp2_with (first
        | (go_at_call 55; go_must (refine (CR2.out _ ?hK).mono ?_; (case hK => (first | rfl | exact HW2.out | omega)); rintro e3 w3 ⟨rfl, rfl⟩)))
      go_returns
      exact ⟨ret_int (HY.out (by first | rfl | trivial)).symm, BD.out⟩
    | false =>
      go_enter Try.func32, Try.ntmps32
      go_wp2_with (first
        | (go_at_call 54; go_must (refine (CN.out _ (HN.out _ (ba w _))).mono ?_; rintro e1 w1 ⟨rfl, b1⟩; have B1 := Lib.hid (B0.out.trans (b1.mono B0.out.size)); have g0 := (b1.cell (p := ⟨w.heap.size, 0, none⟩) (by rw [World.size_alloc]; exact Nat.lt_succ_self _)).trans ((RowAt.new w 30 #[.slice A1 N.length c1, .slice A2 R.length c2]).cell 0); have g1 := (b1.cell (p := ⟨w.heap.size, 1, none⟩) (by rw [World.size_alloc]; exact Nat.lt_succ_self _)).trans ((RowAt.new w 30 #[.slice A1 N.length c1, .slice A2 R.length c2]).cell 1); clear b1; simp at g0 g1)))
      go_still_tail 7, (by kernel_rfl)
      change wpList _ _ _ _ _ w1.drew
      have e0 : w1.drew.cell? ⟨w.heap.size, 0, none⟩ = some (.slice A1 N.length c1) := g0
      have e1 : w1.drew.cell? ⟨w.heap.size, 1, none⟩ = some (.slice A2 R.length c2) := g1
      have BD := Lib.hid (Below.drew B1.out)
      generalize w1.drew = w2 at *
      have CR2 : Hid (∀ K, K = (P : Int) - 1 → Calls Try.prog 55 #[.slice A2 R.length c2, .int .i64 K] w2 fun e w' => e = .returned (.bool false) ∧ w2 = w') := Lib.hid (fun K hK => by subst hK; rw [← HM.out]; exact CR.out w2 (HR.out _ BD.out))
      go_wp2_with (first
        | (go_at_call 55; go_must (refine (CR2.out _ ?hK).mono ?_; (case hK => (first | rfl | exact HW2.out | omega)); rintro e3 w3 ⟨rfl, rfl⟩)))
      go_returns
      exact ⟨ret_int (HX.out (by first | rfl | trivial)).symm, BD.out⟩
  · have HV := Lib.hid (ckC_n h6 hz)
    have hz' : (ckN N == 0) = false := by simpa using hz
    generalize ckC N R = r at *
    generalize ckN N = r2 at *
    clear hs h6 hz
    go_enter Try.func32, Try.ntmps32
    go_wp2_with (first
      | (go_at_call 54; go_must (refine (CN.out _ (HN.out _ (ba w _))).mono ?_; rintro e1 w1 ⟨rfl, b1⟩; have B1 := Lib.hid (B0.out.trans (b1.mono B0.out.size)); clear b1)))
    go_returns
    exact ⟨ret_int HV.out.symm, B1.out⟩

end Si
end Go.Proofs.Ytgihljconpijaaa

namespace Go.Proofs.Ytgihljconpijaaa
namespace Si
open Go Go.RowKit Go.Joins
set_option linter.unusedVariables false
set_option linter.unusedSimpArgs false

/-- The two cells of a capture's box, behind what only makes memory. -/
theorem box_two {w w1 : World} {a b : Value} {T : TypeId} (hb : Below (w.alloc (.cells #[a, b] T)).heap.size (w.alloc (.cells #[a, b] T)) w1) :
    w1.cell? ⟨w.heap.size, 0, none⟩ = some a ∧ w1.cell? ⟨w.heap.size, 1, none⟩ = some b :=
  ⟨(hb.cell (p := ⟨w.heap.size, 0, none⟩) (by rw [World.size_alloc]; exact Nat.lt_succ_self _)).trans ((RowAt.new w T #[a, b]).cell 0),
   (hb.cell (p := ⟨w.heap.size, 1, none⟩) (by rw [World.size_alloc]; exact Nat.lt_succ_self _)).trans ((RowAt.new w T #[a, b]).cell 1)⟩

/-- A level and whether there is one. -/
def atR (p : Int × Bool) : Value := .tuple #[.int .i64 p.1, .bool p.2]
theorem atR_eq {p : Int × Bool} {a : Int} {b : Bool} (h : p = (a, b)) : Ending.returned (.tuple #[.int .i64 a, .bool b]) = .returned (atR p) := by subst h; rfl

end Si
end Go.Proofs.Ytgihljconpijaaa

namespace Go.Proofs.Ytgihljconpijaaa
open Go Go.RowKit Go.Joins
set_option linter.unusedVariables false
set_option linter.unusedSimpArgs false

set_option maxRecDepth 100000 in
set_option maxHeartbeats 8000000 in
theorem refJoined_any (l : List Rn) (V : Value) (w : World) (hT : RnArg w V l) (hv : vl l = true) :
    Calls Try.prog 50 #[V] w fun e w' => ∃ v : Value, e = .returned v ∧ RnRow w' w.heap.size v (jn l) ∧ Below w.heap.size w w' := by
  obtain ⟨A, c, rfl, hA⟩ := hT
  have HA := Lib.hid hA
  obtain ⟨h1, h2, h3⟩ := (vl_iff l).1 hv
  have HV := Lib.hid hv
  have HG := Lib.hid h2
  clear hA hv h2
  go_enter Try.func50, Try.ntmps50
  go_wp2_with (first
    | (at_make; go_must (refine wpList_room_k (n := l.length) (enc := rnC) Try.underlying22 run_info rfl _ _ rfl rfl rfl rfl (by omega) (by omega) (Nat.le_refl _) ?_; intro w1 R1 b1; have HR1 := Lib.hid R1; have HB1 := Lib.hid b1; clear R1 b1)))
  go_loopw [4, 3] (fun i r wr => ∃ j : Nat, j ≤ l.length ∧ i = .int .i64 j ∧ Hid (RnRow wr w.heap.size r (jn (l.take j))) ∧ Hid (Below w.heap.size w wr)) (fun i _ _ => l.length - (intOf i).toNat)
  case atStart => exact ⟨0, Nat.zero_le _, rfl, HR1, HB1⟩
  case round =>
    obtain ⟨j, hj, rfl, HR, HB⟩ := hrel
    have hb := HB.out
    by_cases hjl : j < l.length
    · obtain ⟨g, o, rfl, hg, hc⟩ := HA.out (by omega)
      obtain ⟨a0, a1⟩ := arg_two hc j hjl
      have f0 := (hb.cell (p := ⟨g, o + j * 2, none⟩) hg).trans a0
      have f1 := (hb.cell (p := ⟨g, o + j * 2 + 1, none⟩) hg).trans a1
      have hx := el_range HV.out j hjl
      have htk := jn_take l j hjl
      have hM : lg (jn (l.take (j + 1))) ≤ 1099511627776 := by rw [jn_lg]; exact (lg_take_range HV.out (j + 1)).2
      have hgJ := jn_gd (gd_take HG.out j)
      have hjlen : (jn (l.take j)).length ≤ j := Nat.le_trans (jn_len _) (by rw [List.length_take]; omega)
      clear a0 a1 hc
      have hjl2 : (l[j].1, l[j].2) = l[j] := rfl
      rw [← hjl2] at htk
      have HJ : ∀ J, jn (l.take j) = J → Hid (jn (l.take (j + 1)) = pt J (l[j].1, l[j].2)) := fun J h => Lib.hid (by rw [← h]; exact htk)
      clear hjl2 htk
      generalize l[j].1 = x0 at *
      generalize l[j].2 = x1 at *
      obtain ⟨hx0, hx1, hx2⟩ := hx
      rcases nil_or_snoc (jn (l.take j)) with hJ | ⟨q, y, hJ⟩
      · have HP := Lib.hid (show jn (l.take (j + 1)) = [(x0, x1)] by rw [(HJ _ hJ).out]; rfl)
        rw [hJ] at HR
        obtain ⟨UA, UN, UC, rfl, hUN⟩ := HR.out.form
        obtain rfl : UN = 0 := hUN
        clear HJ hM hgJ hJ hjlen
        go_wp2
        go_quiet (fail)
        go_wp2_with (first
          | (at_builtin; go_must (refine wpList_append_rn rfl _ _ rfl rfl rfl rfl rfl (HR.out.drewN _) (le_drewN hb.size _) (by simp) ?_; intro v5 w5 R5 b5)))
        go_roundw
        case rel => exact ⟨j + 1, by omega, val_int (by omega), Lib.hid (by rw [HP.out]; exact R5), Lib.hid (by repeat' (first | with_reducible exact Below.refl _ _ | with_reducible exact Nat.le_refl _ | with_reducible assumption | with_reducible refine below_drewN ?_ _ | with_reducible refine Below.drew ?_ | with_reducible refine Below.trans ?_ (Below.mono (by assumption) ?_) | with_reducible refine Below.alloc ?_ ?_ _ | with_reducible refine Below.setCell ?_ ?_ _ | with_reducible refine le_setCell ?_ _ _ | with_reducible refine le_alloc ?_ _ | with_reducible refine le_drewN ?_ _ | with_reducible refine le_drew ?_ | with_reducible refine Nat.le_trans ?_ (Below.size (by assumption)) | (simp only [World.size_alloc, World.size_setCell]; omega)))⟩
        case measure => simp [intOf]; omega
      · obtain ⟨y0, y1⟩ := y
        rw [hJ] at HR hjlen
        obtain ⟨G, C, rfl⟩ := HR.out.full (by simp)
        have hK : (q ++ [(y0, y1)]).length = q.length + 1 := by simp
        have HR0 := HR
        rw [hK] at HR hjlen
        obtain ⟨c0, c1, z0, z1⟩ := RnRow.two HR.out q.length (by simp)
        simp only [List.getElem_concat_length] at c0 c1
        rw [hJ, gd_append] at hgJ
        have hy := hgJ.2 (y0, y1) (by simp)
        have ho := gd_nonneg hgJ.1
        have hp := (HJ _ hJ).out
        rw [pt_snoc] at hp
        have hG := HR.out.len
        have hG1 := hG.2.2.1
        have HX := Lib.hid (RnRow.set1 HR.out q.length (by simp) y0 (y1 + x1) (by simp))
        have hset : (q ++ [(y0, y1)]).set q.length (y0, y1 + x1) = q ++ [(y0, y1 + x1)] := by simp
        rw [hset] at HX
        clear hgJ HJ hG hK hset hJ
        obtain ⟨hy0, hy1⟩ := hy
        simp only at hy0 hy1
        by_cases hxy : y0 = x0
        · rw [if_pos hxy] at hp
          simp only at hp
          rw [hp, lg_append, lg_one] at hM
          simp only at hM
          have HP := Lib.hid hp
          have hsum : y1 + x1 ≤ 1099511627776 := by omega
          subst hxy
          clear hM hp ho
          have v1 : IntKind.i64.wrap (q.length : Int) = q.length := IntWalk.i64_in _ (by omega)
          have v2 : IntKind.i64.wrap (y1 + x1) = y1 + x1 := IntWalk.i64_in _ (by omega)
          go_wp2
          go_quiet (fail)
          have HBW := Lib.hid (below_drewN HB.out nq)
          have e0 : (wr.drewN nq).cell? ⟨G, q.length * 2, none⟩ = some (.int .i64 y0) := c0
          have e1 : (wr.drewN nq).cell? ⟨G, q.length * 2 + 1, none⟩ = some (.int .i64 y1) := c1
          have e2 : (wr.drewN nq).frozen? ⟨G, q.length * 2 + 1, none⟩ = false := z1
          have e3 : (wr.drewN nq).cell? ⟨g, o + j * 2, none⟩ = some (.int .i64 y0) := f0
          have e4 : (wr.drewN nq).cell? ⟨g, o + j * 2 + 1, none⟩ = some (.int .i64 x1) := f1
          have HXW : Hid (RnRow ((wr.drewN nq).drew.setCell ⟨G, q.length * 2 + 1, none⟩ (.int .i64 (y1 + x1))) w.heap.size (.slice (some ⟨G, 0, none⟩) (q.length + 1) C) (q ++ [(y0, y1 + x1)])) := Lib.hid HX.out
          clear c0 c1 z0 z1 f0 f1 hb HX HR HB
          generalize wr.drewN nq = W at *
          have hi1 : (q.length : Int) < (q.length : Int) + 1 := by omega
          go_wp2
          go_still_tail 15, (by kernel_rfl)
          change wpList _ _ _ _ _ W.drew
          have e0 : W.drew.cell? ⟨G, q.length * 2, none⟩ = some (.int .i64 y0) := e0
          have e1 : W.drew.cell? ⟨G, q.length * 2 + 1, none⟩ = some (.int .i64 y1) := e1
          have e2 : W.drew.frozen? ⟨G, q.length * 2 + 1, none⟩ = false := e2
          have HBD := Lib.hid (Below.drew HBW.out)
          generalize W.drew = w2 at *
          go_wp2
          go_roundw
          case rel => exact ⟨j + 1, by omega, val_int (by omega), Lib.hid (by rw [HP.out]; exact HXW.out), Lib.hid (Below.setCell HBD.out hG1 _)⟩
          case measure => simp [intOf]; omega
        · rw [if_neg hxy] at hp
          have HP := Lib.hid hp
          have hne : (y0 == x0) = false := by simpa using hxy
          have hqn := Lib.hid (show (q ++ [(y0, y1)]).length + 1 ≤ 4398046511104 by rw [List.length_append]; simp only [List.length_cons, List.length_nil]; omega)
          clear hM hp ho HX hxy
          have v1 : IntKind.i64.wrap (q.length : Int) = q.length := IntWalk.i64_in _ (by omega)
          go_wp2
          go_quiet (fail)
          go_wp2_with (first
            | (at_builtin; go_must (refine wpList_append_rn (l := q ++ [(y0, y1)]) rfl _ _ rfl rfl rfl rfl rfl (by first | exact HR0.out.drewN _ | exact HR.out.drewN _) (le_drewN (Below.size HB.out) _) hqn.out ?_; intro v5 w5 R5 b5)))
          go_roundw
          case rel => exact ⟨j + 1, by omega, val_int (by omega), Lib.hid (by rw [HP.out]; exact R5), Lib.hid (by repeat' (first | with_reducible exact Below.refl _ _ | with_reducible exact Nat.le_refl _ | with_reducible assumption | with_reducible refine below_drewN ?_ _ | with_reducible refine Below.drew ?_ | with_reducible refine Below.trans ?_ (Below.mono (by assumption) ?_) | with_reducible refine Below.alloc ?_ ?_ _ | with_reducible refine Below.setCell ?_ ?_ _ | with_reducible refine le_setCell ?_ _ _ | with_reducible refine le_alloc ?_ _ | with_reducible refine le_drewN ?_ _ | with_reducible refine le_drew ?_ | with_reducible refine Nat.le_trans ?_ (Below.size (by assumption)) | (simp only [World.size_alloc, World.size_setCell]; omega)))⟩
          case measure => simp [intOf]; omega
    · have he : l.take j = l := List.take_of_length_le (by omega)
      rw [he] at HR
      clear he
      go_wp2
      go_returns
      exact ⟨_, rfl, HR.out, hb⟩

set_option maxRecDepth 20000 in
set_option maxHeartbeats 4000000 in
theorem refClean_any (l : List Rn) (V : Value) (w : World) (hT : RnArg w V l) : Calls Try.prog 29 #[V] w fun e w' => ∃ v : Value, e = .returned v ∧ RnRow w' w.heap.size v (cl l) ∧ Below w.heap.size w w' := by
  have CV := Lib.hid (refValid_any l V w hT)
  cases hv : vl l with
  | false =>
    have HL := Lib.hid (cl_no (l := l) (by rw [hv]; exact Bool.false_ne_true))
    rw [hv] at CV
    obtain ⟨A, c, rfl, hA⟩ := hT
    clear hv hA
    go_enter Try.func29, Try.ntmps29
    go_wp2_with (first
      | (go_at_call 22; go_must (refine CV.out.mono ?_; rintro e1 w1 ⟨rfl, rfl⟩)))
    go_returns
    exact ⟨_, rfl, by rw [HL.out]; exact KRow.nil _ _, Below.refl _ _⟩
  | true =>
    have HL := Lib.hid (cl_yes hv)
    have C2 := Lib.hid (refJoined_any l V w hT hv)
    rw [hv] at CV
    obtain ⟨A, c, rfl, hA⟩ := hT
    clear hv hA
    go_enter Try.func29, Try.ntmps29
    go_wp2_with (first
      | (go_at_call 22; go_must (refine CV.out.mono ?_; rintro e1 w1 ⟨rfl, rfl⟩))
      | (go_at_call 50; go_must (refine C2.out.mono ?_; rintro e2 w2 ⟨v2, rfl, r2, b2⟩)))
    go_returns
    exact ⟨_, rfl, by rw [HL.out]; exact r2, b2⟩

set_option maxRecDepth 20000 in
set_option maxHeartbeats 4000000 in
theorem refInvert_any (l : List Rn) (V : Value) (w : World) (hT : RnArg w V l) : Calls Try.prog 41 #[V] w fun e w' => ∃ v : Value, e = .returned v ∧ RnRow w' w.heap.size v (ivV l) ∧ Below w.heap.size w w' := by
  have CV := Lib.hid (fun w' h => refValid_any l V w' h)
  have HT := Lib.hid (fun w' (hb : Below w.heap.size w w') => hT.keep hb)
  obtain ⟨A, c, rfl, hA⟩ := hT
  have HA := Lib.hid hA
  clear hA
  cases hv : vl l with
  | false =>
    have HL := Lib.hid (ivV_no (l := l) (by rw [hv]; exact Bool.false_ne_true))
    rw [hv] at CV
    clear hv
    go_enter Try.func41, Try.ntmps41
    go_wp2_with (first
      | (go_at_call 22; go_must (refine (CV.out _ (HT.out _ (ba w _))).mono ?_; rintro e1 w1 ⟨rfl, rfl⟩)))
    go_returns
    exact ⟨_, rfl, by rw [HL.out]; exact KRow.lit rnC_size w w.heap.size (Nat.le_refl _) [] #[] rfl 0 rfl (by simp), ba w _⟩
  | true =>
    have HL := Lib.hid (ivV_yes hv)
    have HK := Lib.hid hv
    have hn := ((vl_iff l).1 hv).1
    rw [hv] at CV
    clear hv
    go_enter Try.func41, Try.ntmps41
    go_wp2_with (first
      | (go_at_call 22; go_must (refine (CV.out _ (HT.out _ (ba w _))).mono ?_; rintro e1 w1 ⟨rfl, rfl⟩)))
    go_loopw [4, 3] (fun i r wr => ∃ j : Nat, j ≤ l.length ∧ i = .int .i64 j ∧ Hid (RnRow wr w.heap.size r (iv (l.take j))) ∧ Hid (Below w.heap.size w wr)) (fun i _ _ => l.length - (intOf i).toNat)
    case atStart => exact ⟨0, Nat.zero_le _, rfl, Lib.hid (KRow.lit rnC_size w w.heap.size (Nat.le_refl _) [] #[] rfl 0 rfl (by simp)), Lib.hid (ba w _)⟩
    case round =>
      obtain ⟨j, hj, rfl, HR, HB⟩ := hrel
      have hb := HB.out
      by_cases hjl : j < l.length
      · obtain ⟨g, o, rfl, hg, hc⟩ := HA.out (by omega)
        obtain ⟨a0, a1⟩ := arg_two hc j hjl
        have hx := el_range HK.out j hjl
        have hiv := iv_take l j hjl
        have hlen : (iv (l.take j)).length ≤ 262144 := by rw [iv_len, List.length_take]; omega
        clear hc
        have HIV : Hid (iv (l.take (j + 1)) = iv (l.take j) ++ [(1 - l[j].1, l[j].2)]) := Lib.hid hiv
        clear hiv
        generalize l[j].1 = x0 at *
        generalize l[j].2 = x1 at *
        generalize iv (l.take j) = E at *
        obtain ⟨hx0, hx1, hx2⟩ := hx
        have HS := Lib.hid (fun w' (hb : Below w.heap.size w w') => And.intro ((hb.cell (p := ⟨g, o + j * 2, none⟩) hg).trans a0) (And.intro ((hb.cell (p := ⟨g, o + j * 2 + 1, none⟩) hg).trans a1) hb))
        clear a0 a1
        have hM1 : E.length + 1 ≤ 140737488355328 := by omega
        have hM2 : (E.length + 1) * 16 ≤ 140737488355328 := by omega
        have v1 : IntKind.i64.wrap (1 - x0) = 1 - x0 := IntWalk.i64_in _ (by omega)
        have hi0 : (0 : Int) ≤ (j : Int) := by omega
        have hi1 : (j : Int) < l.length := by omega
        obtain ⟨UA, UN, UC, rfl, hUN⟩ := HR.out.form
        clear hUN hlen
        have HRd := Lib.hid (show RnRow wr.drew w.heap.size (.slice UA UN UC) E from HR.out)
        have hdr := Lib.hid (show Below w.heap.size w wr.drew from hb.drew)
        go_wp2
        go_region_held3 (fun w' => w'.cell? ⟨g, o + j * 2, none⟩ = some (.int .i64 x0) ∧ w'.cell? ⟨g, o + j * 2 + 1, none⟩ = some (.int .i64 x1) ∧ Below w.heap.size w w') (first | exact HS.out _ hdr.out | assumption | exact HS.out _ (hdr.out.alloc hdr.out.size _) | go_keep)
          ((refine step_append_ks (P := Try.prog) Try.underlying22 run_info rfl (by decide) rnC_size (by rfl) (.tmp 16) (.tmp 29) (by rfl) (by rfl) (by rfl) (by rfl) HRd.out hdr.out.size [(1 - x0, x1)] (by rfl) (by decide) (by rfl) (by rfl) hM1 hM2 ?_; intro v3 w3 r3 b3; have hw3 := HS.out w3 (hdr.out.trans b3)))
        all_goals
          go_wp2
          go_roundw
          case rel => exact ⟨j + 1, by omega, val_int (by omega), Lib.hid (by rw [HIV.out]; exact r3), Lib.hid (hdr.out.trans b3)⟩
          case measure => simp [intOf]; omega
      · have he : l.take j = l := List.take_of_length_le (by omega)
        rw [he] at HR
        clear he
        go_wp2
        go_returns
        exact ⟨_, rfl, by rw [HL.out]; exact HR.out, hb⟩

end Go.Proofs.Ytgihljconpijaaa
