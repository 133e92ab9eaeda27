/-
  The walks of copied, joined and Clean (the program's).
  The walks of Edges, Slice and Invert (the program's).
  The walks of FromEdges and Join (the program's).
-/
import Derived.Test.YtgihljconpijaaaZ04
import Derived.StillTailTactics
namespace Go.Proofs.Ytgihljconpijaaa
open Go Go.RowKit Go.Joins
set_option linter.unusedVariables false
set_option linter.unusedSimpArgs false

/-- What the row holds while it is joined in place. -/
def Ji (X l : List Rn) (j : Nat) : Prop := X.length = l.length ∧ X.take (jn (l.take j)).length = jn (l.take j) ∧ X.drop j = l.drop j ∧ (jn (l.take j)).length ≤ j
theorem Ji.start (l : List Rn) : Ji l l 0 := ⟨rfl, rfl, rfl, Nat.le_refl _⟩
theorem Ji.at {X l : List Rn} {j : Nat} (h : Ji X l j) (hj : j < l.length) (hx : j < X.length) : X[j] = l[j] := by
  have h1 := h.2.2.1
  rw [List.drop_eq_getElem_cons hj, List.drop_eq_getElem_cons hx] at h1
  injection h1
theorem Ji.el {X l : List Rn} {j i : Nat} (h : Ji X l j) (hi : i < (jn (l.take j)).length) (hx : i < X.length) : X[i] = (jn (l.take j))[i] := by
  have h1 := h.2.1
  have h2 : (X.take (jn (l.take j)).length)[i]'(by rw [List.length_take]; omega) = X[i] := List.getElem_take
  rw [← h2]
  congr 1
theorem Ji.push {X l : List Rn} {j : Nat} (h : Ji X l j) (hj : j < l.length) (r : Rn) (hp : jn (l.take (j + 1)) = jn (l.take j) ++ [r]) : Ji (X.set (jn (l.take j)).length r) l (j + 1) := by
  obtain ⟨h1, h2, h3, h4⟩ := h
  refine ⟨by rw [List.length_set]; exact h1, ?_, ?_, by rw [hp, List.length_append]; simp; exact h4⟩
  · rw [hp, List.length_append, List.length_singleton, List.take_succ_eq_append_getElem (by rw [List.length_set]; omega), List.take_set_of_le (Nat.le_refl _), h2, List.getElem_set_self]
  · rw [List.drop_set_of_lt (by omega), ← List.drop_drop, h3, List.drop_drop]
theorem Ji.last {X l : List Rn} {j : Nat} (h : Ji X l j) (hj : j < l.length) (o : List Rn) (y z : Rn) (hJ : jn (l.take j) = o ++ [y]) (hp : jn (l.take (j + 1)) = o ++ [z]) : Ji (X.set o.length z) l (j + 1) := by
  obtain ⟨h1, h2, h3, h4⟩ := h
  have hl : (jn (l.take j)).length = o.length + 1 := by rw [hJ]; simp
  refine ⟨by rw [List.length_set]; exact h1, ?_, ?_, by rw [hp, List.length_append]; simp; omega⟩
  · rw [hl, hJ] at h2
    have h5 : X.take o.length = o := by
      have := congrArg (List.take o.length) h2
      rw [List.take_take, Nat.min_eq_left (by omega)] at this
      simpa using this
    rw [hp, List.length_append, List.length_singleton, List.take_succ_eq_append_getElem (by rw [List.length_set]; omega), List.take_set_of_le (Nat.le_refl _), h5, List.getElem_set_self]
  · rw [List.drop_set_of_lt (by omega), ← List.drop_drop, h3, List.drop_drop]
theorem Ji.done {X l : List Rn} (h : Ji X l l.length) : X.take (jn l).length = jn l ∧ (jn l).length ≤ X.length := by
  obtain ⟨h1, h2, h3, h4⟩ := h
  rw [List.take_length] at h2 h4
  exact ⟨h2, by omega⟩
/-- A whole run stored into a row. -/
theorem RnRow.set {w : World} {B g n c : Nat} {l : List Rn} (h : RnRow w B (.slice (some ⟨g, 0, none⟩) n c) l) (j : Nat) (hj : j < l.length) (x y : Int) :
    RnRow ((w.setCell ⟨g, j * 2, none⟩ (.int .i64 x)).setCell ⟨g, j * 2 + 1, none⟩ (.int .i64 y)) B (.slice (some ⟨g, 0, none⟩) n c) (l.set j (x, y)) := by
  have h1 := KRow.cellSet rnC_size h j 0 hj (by omega) (.int .i64 x) (x, l[j].2) rfl
  have h2 := KRow.cellSet rnC_size h1 j 1 (by rw [List.length_set]; exact hj) (by omega) (.int .i64 y) (x, y) (by rw [List.getElem_set_self]; rfl)
  rw [List.set_set] at h2
  exact h2
theorem RnRow.set1 {w : World} {B g n c : Nat} {l : List Rn} (h : RnRow w B (.slice (some ⟨g, 0, none⟩) n c) l) (j : Nat) (hj : j < l.length) (x y : Int) (hx : l[j].1 = x) :
    RnRow (w.setCell ⟨g, j * 2 + 1, none⟩ (.int .i64 y)) B (.slice (some ⟨g, 0, none⟩) n c) (l.set j (x, y)) :=
  KRow.cellSet rnC_size h j 1 hj (by omega) (.int .i64 y) (x, y) (by subst hx; rfl)
/-- The two cells of an element of a row. -/
theorem RnRow.two {w : World} {B g n c : Nat} {l : List Rn} (h : RnRow w B (.slice (some ⟨g, 0, none⟩) n c) l) (j : Nat) (hj : j < l.length) : w.cell? ⟨g, j * 2, none⟩ = some (.int .i64 l[j].1) ∧ w.cell? ⟨g, j * 2 + 1, none⟩ = some (.int .i64 l[j].2) ∧ w.frozen? ⟨g, j * 2, none⟩ = false ∧ w.frozen? ⟨g, j * 2 + 1, none⟩ = false :=
  ⟨h.cell rnC_size j hj 0 (by omega), h.cell rnC_size j hj 1 (by omega), h.frozen _, h.frozen _⟩
theorem RnRow.some2 {w : World} {B g n c : Nat} {l : List Rn} (h : RnRow w B (.slice (some ⟨g, 0, none⟩) n c) l) (j : Nat) (hj : j < l.length) : ∃ u0 u1 : Int, w.cell? ⟨g, j * 2, none⟩ = some (.int .i64 u0) ∧ w.cell? ⟨g, j * 2 + 1, none⟩ = some (.int .i64 u1) ∧ w.frozen? ⟨g, j * 2, none⟩ = false ∧ w.frozen? ⟨g, j * 2 + 1, none⟩ = false :=
  ⟨_, _, h.two j hj⟩

set_option maxRecDepth 20000 in
set_option maxHeartbeats 4000000 in
theorem copied_any (l : List Rn) (V : Value) (w : World) (hT : RnArg w V l) (hn : l.length ≤ 262144) : Calls Try.prog 44 #[V] w fun e w' => ∃ g c : Nat, e = .returned (.slice (some ⟨g, 0, none⟩) l.length c) ∧ RnRow w' w.heap.size (.slice (some ⟨g, 0, none⟩) l.length c) l ∧ Below w.heap.size w w' := by
  have HT := Lib.hid (fun w' (hb : Below w.heap.size w w') => hT.keep hb)
  obtain ⟨A, c, rfl, hA⟩ := hT
  clear hA
  have hX := Lib.hid (show (List.replicate l.length ((0, 0) : Rn)).take 0 ++ l ++ (List.replicate l.length ((0, 0) : Rn)).drop (0 + l.length) = l by simp)
  have hR := Lib.hid (show 0 + l.length ≤ (List.replicate l.length ((0, 0) : Rn)).length by simp)
  go_enter Try.func44, Try.ntmps44
  go_wp2_with (first
    | (at_make; go_must (refine wpList_make_k (enc := rnC) Try.underlying22 run_info ((0, 0) : Rn) rfl rfl rfl _ _ rfl rfl rfl rfl rfl (by omega) (by omega) (Nat.le_refl _) ?_; intro w1 R1 b1))
    | (refine wpList_copy_k (o := ⟨some 9, _, _, _, _, _⟩) Try.underlying22 run_size (by omega) rnC_size rnC_one rfl _ _ rfl rfl rfl R1 (HT.out _ b1) (Nat.le_refl _) hR.out (fun _ => rfl) ?_; intro w2 R2 b2; rw [hX.out] at R2))
  go_returns
  exact ⟨_, _, rfl, R2, b1.trans b2⟩

set_option maxRecDepth 20000 in
set_option maxHeartbeats 4000000 in
theorem joined_any (l : List Rn) (g N c B : Nat) (w : World) (hR : RnRow w B (.slice (some ⟨g, 0, none⟩) N c) l) (hv : vl l = true) (hB : B ≤ w.heap.size) :
    Calls Try.prog 43 #[.slice (some ⟨g, 0, none⟩) N c] w fun e w' => ∃ v : Value, e = .returned v ∧ RnRow w' B v (jn l) ∧ Below B w w' := by
  obtain ⟨h1, h2, h3⟩ := (vl_iff l).1 hv
  obtain ⟨hN, hNc, hBg, hgw⟩ := hR.len
  have HV := Lib.hid hv
  have HG := Lib.hid h2
  have HR0 := Lib.hid hR
  clear hR hv h2
  subst hN
  go_enter Try.func43, Try.ntmps43
  go_wp2
  go_loopw [8, 3] (fun i s wr => ∃ (j n : Nat) (X : List Rn), j ≤ l.length ∧ n ≤ j ∧ i = .int .i64 j ∧ s = .int .i64 n ∧ Hid (n = (jn (l.take j)).length) ∧ Hid (Ji X l j) ∧ Hid (RnRow wr B (.slice (some ⟨g, 0, none⟩) l.length c) X) ∧ Hid (Below B w wr)) (fun i _ _ => l.length - (intOf i).toNat)
  case atStart => exact ⟨0, 0, l, Nat.zero_le _, Nat.le_refl _, rfl, rfl, Lib.hid rfl, Lib.hid (Ji.start l), HR0, Lib.hid (Below.refl _ _)⟩
  case round =>
    obtain ⟨j, n, X, hj, hnj, rfl, rfl, HN, HX, HR, HB⟩ := hrel
    have hb := HB.out
    by_cases hjl : j < l.length
    · have hXl := HX.out.1
      have hjX : j < X.length := by omega
      obtain ⟨a0, a1, z0, z1⟩ := RnRow.two HR.out j hjX
      rw [HX.out.at hjl hjX] at a0 a1
      have hx := el_range HV.out j hjl
      have htk := jn_take l j hjl
      have hgw2 : g < wr.heap.size := Nat.lt_of_lt_of_le hgw hb.size
      have hBw2 : B ≤ wr.heap.size := Nat.le_trans hB hb.size
      have hM : lg (jn (l.take (j + 1))) ≤ 1099511627776 := by rw [jn_lg]; exact (lg_take_range HV.out (j + 1)).2
      have hgJ := jn_gd (gd_take HG.out j)
      have hLJ := jn_lg (l.take j)
      clear z0 z1 hXl
      have HB2 := Lib.hid (show Below B w (wr.alloc (.cells #[.int .i64 l[j].1, .int .i64 l[j].2] 48)) from hb.alloc hBw2 _)
      have HR2 := Lib.hid (show RnRow (wr.alloc (.cells #[.int .i64 l[j].1, .int .i64 l[j].2] 48)) B (.slice (some ⟨g, 0, none⟩) l.length c) X from HR.out.alloc _)
      have hjl2 : (l[j].1, l[j].2) = l[j] := rfl
      rw [← hjl2] at htk
      have HJ : ∀ J, jn (l.take j) = J → Hid (jn (l.take (j + 1)) = pt J (l[j].1, l[j].2)) := fun J h => Lib.hid (by rw [← h]; exact htk)
      clear hjl2 htk
      generalize l[j].1 = x0 at *
      generalize l[j].2 = x1 at *
      obtain ⟨hx0, hx1, hx2⟩ := hx
      rcases nil_or_snoc (jn (l.take j)) with hJ | ⟨o, y, hJ⟩
      · have HP := Lib.hid (show jn (l.take (j + 1)) = jn (l.take j) ++ [(x0, x1)] by rw [(HJ _ hJ).out, hJ]; rfl)
        have HX2 := Lib.hid (HX.out.push hjl _ HP.out)
        have hn0 : n = 0 := by rw [HN.out, hJ]; rfl
        subst hn0
        rw [hJ] at HX2
        have HL := Lib.hid (show (jn (l.take (j + 1))).length = 1 by rw [HP.out, hJ]; rfl)
        clear HJ hM hgJ hLJ HP hJ HN HX
        obtain ⟨f0, f1, z0, z1⟩ := RnRow.two HR2.out 0 (by omega)
        have HR3 := Lib.hid (RnRow.set HR2.out 0 (by omega) x0 x1)
        go_wp2
        go_quiet (fail)
        go_wp2
        go_roundw
        case rel => exact ⟨j + 1, 1, X.set 0 (x0, x1), by omega, by omega, val_int (by omega), rfl, Lib.hid HL.out.symm, HX2, HR3, Lib.hid (Below.setCell (Below.setCell (below_drewN HB2.out _) hBg _) hBg _)⟩
        case measure => simp [intOf]; omega
      · obtain ⟨y0, y1⟩ := y
        have hnl : n = o.length + 1 := by rw [HN.out, hJ]; simp
        have hE := HX.out.el (i := o.length) (by rw [← HN.out]; omega) (by omega)
        have hE2 : X[o.length]'(by omega) = (y0, y1) := by rw [hE]; simp only [hJ]; simp
        obtain ⟨f0, f1, z0, z1⟩ := RnRow.two HR2.out o.length (by omega)
        rw [hE2] at f0 f1
        rw [hJ, gd_append] at hgJ
        have hy := hgJ.2 (y0, y1) (by simp)
        have ho := gd_nonneg hgJ.1
        have hp := (HJ _ hJ).out
        rw [pt_snoc] at hp
        subst hnl
        have HK := Lib.hid hE2
        clear hE hE2 hgJ
        by_cases hxy : y0 = x0
        · rw [if_pos hxy] at hp
          simp only at hp
          rw [hp, lg_append, lg_one] at hM
          simp only at hM
          obtain ⟨hy0, hy1⟩ := hy
          simp only at hy0 hy1
          have HX2 := Lib.hid (HX.out.last hjl o (y0, y1) (y0, y1 + x1) hJ hp)
          have HL := Lib.hid (show (jn (l.take (j + 1))).length = o.length + 1 by rw [hp]; simp)
          have HR3 := Lib.hid (RnRow.set1 HR2.out o.length (by omega) y0 (y1 + x1) (by rw [HK.out]))
          have hoj : o.length < l.length := by omega
          have hsum : y1 + x1 ≤ 1099511627776 := by omega
          subst hxy
          clear HJ hM hLJ hp hJ HN HX hjX HK
          generalize o.length = K at *
          go_wp2
          go_quiet (fail)
          have g0 : ((wr.alloc (.cells #[.int .i64 y0, .int .i64 x1] 48)).drewN nq).cell? ⟨wr.heap.size, 0, none⟩ = some (.int .i64 y0) := (RowAt.new wr 48 #[.int .i64 y0, .int .i64 x1]).cell 0
          have g1 : ((wr.alloc (.cells #[.int .i64 y0, .int .i64 x1] 48)).drewN nq).cell? ⟨wr.heap.size, 1, none⟩ = some (.int .i64 x1) := (RowAt.new wr 48 #[.int .i64 y0, .int .i64 x1]).cell 1
          have e0 : ((wr.alloc (.cells #[.int .i64 y0, .int .i64 x1] 48)).drewN nq).cell? ⟨g, K * 2, none⟩ = some (.int .i64 y0) := f0
          have e1 : ((wr.alloc (.cells #[.int .i64 y0, .int .i64 x1] 48)).drewN nq).cell? ⟨g, K * 2 + 1, none⟩ = some (.int .i64 y1) := f1
          have e2 : ((wr.alloc (.cells #[.int .i64 y0, .int .i64 x1] 48)).drewN nq).frozen? ⟨g, K * 2 + 1, none⟩ = false := z1
          have HBW := Lib.hid (below_drewN HB2.out nq)
          have HRW : Hid (RnRow (((wr.alloc (.cells #[.int .i64 y0, .int .i64 x1] 48)).drewN nq).drew.setCell ⟨g, K * 2 + 1, none⟩ (.int .i64 (y1 + x1))) B (.slice (some ⟨g, 0, none⟩) l.length c) (X.set K (y0, y1 + x1))) := Lib.hid HR3.out
          have v1 : IntKind.i64.wrap (K : Int) = K := IntWalk.i64_in _ (by omega)
          have v2 : IntKind.i64.wrap (y1 + x1) = y1 + x1 := IntWalk.i64_in _ (by omega)
          clear f0 f1 z0 z1 HB2 HR2 HR3 a0 a1
          generalize (wr.alloc (.cells #[.int .i64 y0, .int .i64 x1] 48)).drewN nq = W at *
          go_wp2
          go_still_tail 11, (by kernel_rfl)
          change wpList _ _ _ _ _ W.drew
          have e0 : W.drew.cell? ⟨g, K * 2, none⟩ = some (.int .i64 y0) := e0
          have e1 : W.drew.cell? ⟨g, K * 2 + 1, none⟩ = some (.int .i64 y1) := e1
          have e2 : W.drew.frozen? ⟨g, K * 2 + 1, none⟩ = false := e2
          have HBD := Lib.hid (Below.drew HBW.out)
          generalize W.drew = w2 at *
          go_wp2
          go_roundw
          case rel => exact ⟨j + 1, K + 1, X.set K (y0, y1 + x1), by omega, by omega, val_int (by omega), val_int (by omega), Lib.hid HL.out.symm, HX2, HRW, Lib.hid (Below.setCell HBD.out hBg _)⟩
          case measure => simp [intOf]; omega
        · rw [if_neg hxy] at hp
          have HP := Lib.hid (show jn (l.take (j + 1)) = jn (l.take j) ++ [(x0, x1)] by rw [hp, hJ])
          have HX2 := Lib.hid (HX.out.push hjl _ HP.out)
          rw [← HN.out] at HX2
          have HL := Lib.hid (show (jn (l.take (j + 1))).length = o.length + 2 by rw [hp]; simp)
          have HR3 := Lib.hid (RnRow.set HR2.out (o.length + 1) (by omega) x0 x1)
          obtain ⟨m0, m1, p0, p1, q0, q1⟩ := RnRow.some2 HR2.out (o.length + 1) (by omega)
          have hoj : o.length + 1 < l.length := by omega
          have v1 : IntKind.i64.wrap (o.length : Int) = o.length := IntWalk.i64_in _ (by omega)
          have hne : (y0 == x0) = false := by simpa using hxy
          clear HJ hM hLJ hp hJ HN HX hjX HK HP hxy hy ho z0 z1
          generalize o.length = K at *
          go_wp2
          go_quiet (fail)
          go_wp2
          go_roundw
          case rel => exact ⟨j + 1, K + 2, X.set (K + 1) (x0, x1), by omega, by omega, val_int (by omega), val_int (by omega), Lib.hid HL.out.symm, HX2, HR3, Lib.hid (Below.setCell (Below.setCell (below_drewN HB2.out _) hBg _) hBg _)⟩
          case measure => simp [intOf]; omega
    · obtain rfl : j = l.length := by omega
      have hD := HX.out.done
      have hn2 := HN.out
      rw [List.take_length] at hn2
      have hXl := HX.out.1
      have HE := Lib.hid (KRow.first rnC_size HR.out (n := n) (by omega))
      have hq := hD.1
      rw [← hn2] at hq
      rw [hq] at HE
      have hnc : n ≤ c := by omega
      clear hD hn2 hXl hq hNc
      go_wp2
      all_goals
        go_returns
        exact ⟨_, rfl, HE.out, hb⟩

set_option maxRecDepth 20000 in
set_option maxHeartbeats 4000000 in
theorem clean_any (l : List Rn) (V : Value) (w : World) (hT : RnArg w V l) : Calls Try.prog 24 #[V] w fun e w' => ∃ v : Value, e = .returned v ∧ RnRow w' w.heap.size v (cl l) ∧ Below w.heap.size w w' := by
  have CV := Lib.hid (valid_any l V w hT)
  have HT := Lib.hid (fun w' (hb : Below w.heap.size w w') => hT.keep hb)
  obtain ⟨A, c, rfl, hA⟩ := hT
  clear hA
  cases hv : vl l with
  | false =>
    have HL := Lib.hid (cl_no (l := l) (by rw [hv]; exact Bool.false_ne_true))
    rw [hv] at CV
    clear hv HT
    go_enter Try.func24, Try.ntmps24
    go_wp2_with (first
      | (go_at_call 23; go_must (refine CV.out.mono ?_; rintro e1 w1 ⟨rfl, b1⟩)))
    go_returns
    exact ⟨_, rfl, by rw [HL.out]; exact KRow.nil _ _, b1⟩
  | true =>
    have HL := Lib.hid (cl_yes hv)
    have HK := Lib.hid hv
    have hn := ((vl_iff l).1 hv).1
    have C2 := Lib.hid (fun w' h => copied_any l (.slice A l.length c) w' h hn)
    have C3 := Lib.hid (fun g c B w' h1 h2 => joined_any l g l.length c B w' h1 HK.out h2)
    rw [hv] at CV
    clear hv
    go_enter Try.func24, Try.ntmps24
    go_wp2_with (first
      | (go_at_call 23; go_must (refine CV.out.mono ?_; rintro e1 w1 ⟨rfl, b1⟩; have B1 := Lib.hid b1; clear b1))
      | (go_at_call 44; go_must (refine (C2.out _ (HT.out _ B1.out)).mono ?_; rintro e2 w2 ⟨g2, c2, rfl, r2, b2⟩; have R2 := Lib.hid r2; have B2 := Lib.hid b2; clear r2 b2))
      | (go_at_call 43; go_must (refine (C3.out _ _ _ _ R2.out B2.out.size).mono ?_; rintro e3 w3 ⟨v3, rfl, r3, b3⟩; have R3 := Lib.hid r3; have B3 := Lib.hid b3; clear r3 b3)))
    go_returns
    exact ⟨_, rfl, by rw [HL.out]; exact R3.out.mono B1.out.size, B1.out.trans ((B2.out.trans B3.out).mono B1.out.size)⟩

end Go.Proofs.Ytgihljconpijaaa

namespace Go.Proofs.Ytgihljconpijaaa
open Go Go.RowKit Go.Joins
set_option linter.unusedVariables false
set_option linter.unusedSimpArgs false

set_option maxRecDepth 20000 in
set_option maxHeartbeats 4000000 in
theorem edges_any (l : List Rn) (V : Value) (w : World) (hT : RnArg w V l) : Calls Try.prog 36 #[V] w fun e w' => ∃ v : Value, e = .returned v ∧ InRow w' w.heap.size v (es (cl l)) ∧ Below w.heap.size w w' := by
  have C1 := Lib.hid (clean_any l V w hT)
  obtain ⟨A0, c0, rfl, hA0⟩ := hT
  clear hA0
  have hv := cl_vl l
  generalize cl l = C at *
  have hlen := ((vl_iff C).1 hv).1
  have HV := Lib.hid hv
  clear hv
  go_enter Try.func36, Try.ntmps36
  go_wp2_with (first
    | (go_at_call 24; go_must (refine C1.out.mono ?_; rintro e1 w1 ⟨v1, rfl, r1, b1⟩; obtain ⟨A, c, rfl, hA⟩ := r1.arg rnC_size; have HA := Lib.hid hA; have B1 := Lib.hid b1; clear r1 b1 hA)))
  go_loopw [10, 3, 4] (fun i r s wr => ∃ j : Nat, j ≤ C.length ∧ i = .int .i64 j ∧ s = .int .i64 (lg (C.take j)) ∧ Hid (InRow wr w1.heap.size r (es (C.take j))) ∧ Hid (Below w1.heap.size w1 wr)) (fun i _ _ _ => C.length - (intOf i).toNat)
  case atStart => exact ⟨0, Nat.zero_le _, rfl, rfl, Lib.hid (KRow.nil _ _), Lib.hid (Below.refl _ _)⟩
  case round =>
    obtain ⟨j, hj, rfl, rfl, HR, HB⟩ := hrel
    have hb := HB.out
    by_cases hjl : j < C.length
    · obtain ⟨g, o, rfl, hg, hc⟩ := HA.out (by omega)
      obtain ⟨a0, a1⟩ := arg_two hc j hjl
      have f0 := (hb.cell (p := ⟨g, o + j * 2, none⟩) hg).trans a0
      have f1 := (hb.cell (p := ⟨g, o + j * 2 + 1, none⟩) hg).trans a1
      have hr := lg_take_range HV.out j
      have hx := el_range HV.out j hjl
      have htk := Lib.hid (lg_take C j hjl)
      have hel := es_len_take C j
      clear a0 a1 hc
      have HE : Hid ((j = 0 → es (C.take (j + 1)) = es (C.take j)) ∧ (0 < j → es (C.take (j + 1)) = es (C.take j) ++ [lg (C.take j)])) := Lib.hid ⟨fun e => by subst e; exact es_zero C hjl, fun h => es_succ C j hjl h⟩
      generalize C[j].1 = x0 at *
      generalize C[j].2 = x1 at *
      generalize lg (C.take j) = S at *
      generalize es (C.take j) = E at *
      obtain ⟨_, hx1, hx2⟩ := hx
      by_cases h0 : ¬ 0 < j
      · have HE2 := Lib.hid (HE.out.1 (by omega))
        have h0' : ¬ (0 : Int) < j := by omega
        clear HE h0
        go_wp2
        go_roundw
        case rel => exact ⟨j + 1, by omega, val_int (by omega), val_int (by rw [htk.out]), Lib.hid (by rw [HE2.out]; exact HR.out.alloc _), Lib.hid (by repeat' (first | with_reducible exact Below.refl _ _ | with_reducible exact Nat.le_refl _ | with_reducible assumption | with_reducible refine below_drewN ?_ _ | with_reducible refine Below.drew ?_ | with_reducible refine Below.trans ?_ (Below.mono (by assumption) ?_) | with_reducible refine Below.alloc ?_ ?_ _ | with_reducible refine Below.setCell ?_ ?_ _ | with_reducible refine le_setCell ?_ _ _ | with_reducible refine le_alloc ?_ _ | with_reducible refine le_drewN ?_ _ | with_reducible refine le_drew ?_ | with_reducible refine Nat.le_trans ?_ (Below.size (by assumption)) | (simp only [World.size_alloc, World.size_setCell]; omega)))⟩
        case measure => simp [intOf]; omega
      · have HE2 := Lib.hid (HE.out.2 (by omega))
        have h0' : (0 : Int) < j := by omega
        clear HE h0
        have m1 : (wr.alloc (.cells #[.int .i64 x0, .int .i64 x1] 48)).cell? ⟨wr.heap.size, 1, none⟩ = some (.int .i64 x1) := (RowAt.new wr 48 #[.int .i64 x0, .int .i64 x1]).cell 1
        have hwr : wr.heap.size < (wr.alloc (.cells #[.int .i64 x0, .int .i64 x1] 48)).heap.size := by rw [World.size_alloc]; omega
        obtain ⟨UA, UN, UC, rfl, hUN⟩ := HR.out.form
        clear hUN
        go_wp2_with (first
          | (at_builtin; go_must (refine wpList_append_in2 rfl _ _ rfl rfl rfl rfl (by simp only [World.size_alloc]) (HR.out.alloc _) (le_alloc hb.size _) (by omega) ?_; intro v5 w5 R5 b5 n5; have m5 := (kept_at n5 ⟨wr.heap.size, 1, none⟩ hwr (fun e => by have := (HR.out.lt _ e.symm).2; exact absurd this (Nat.lt_irrefl _))).trans m1)))
        go_roundw
        case rel => exact ⟨j + 1, by omega, val_int (by omega), val_int (by rw [htk.out]), Lib.hid (by rw [HE2.out]; exact R5), Lib.hid (by repeat' (first | with_reducible exact Below.refl _ _ | with_reducible exact Nat.le_refl _ | with_reducible assumption | with_reducible refine below_drewN ?_ _ | with_reducible refine Below.drew ?_ | with_reducible refine Below.trans ?_ (Below.mono (by assumption) ?_) | with_reducible refine Below.alloc ?_ ?_ _ | with_reducible refine Below.setCell ?_ ?_ _ | with_reducible refine le_setCell ?_ _ _ | with_reducible refine le_alloc ?_ _ | with_reducible refine le_drewN ?_ _ | with_reducible refine le_drew ?_ | with_reducible refine Nat.le_trans ?_ (Below.size (by assumption)) | (simp only [World.size_alloc, World.size_setCell]; omega)))⟩
        case measure => simp [intOf]; omega
    · have he : C.take j = C := List.take_of_length_le (by omega)
      rw [he] at HR
      clear he
      go_wp2
      go_returns
      exact ⟨_, rfl, HR.out.mono B1.out.size, B1.out.trans (hb.mono B1.out.size)⟩

theorem s1_yes {b : Int} {r : Rn} {f t : Int} (h : max b f < min (b + r.2) t) : s1 b r f t = [(r.1, min (b + r.2) t - max b f)] := by unfold s1; rw [if_pos h]
theorem s1_no {b : Int} {r : Rn} {f t : Int} (h : ¬ max b f < min (b + r.2) t) : s1 b r f t = [] := by unfold s1; rw [if_neg h]

end Go.Proofs.Ytgihljconpijaaa

namespace Go.Proofs.Ytgihljconpijaaa
open Go Go.RowKit Go.Joins
set_option linter.unusedVariables false
set_option linter.unusedSimpArgs false

/-- Runs and an error. -/
def prE (v : Value) (e : Int) : Value := .tuple #[v, .int .i64 e]
/-- What Join and FromEdges end in. -/
def RnRes (p : List Rn × Int) (w : World) (e : Ending) (w' : World) : Prop := ∃ v : Value, e = .returned (prE v p.2) ∧ RnRow w' w.heap.size v p.1 ∧ Below w.heap.size w w'
theorem RnRes.no {p : List Rn × Int} {c : Int} {w w' : World} (h : p = ([], c)) (hb : Below w.heap.size w w') : RnRes p w (.returned (.tuple #[.slice none 0 0, .int .i64 c])) w' := by
  subst h; exact ⟨_, rfl, KRow.nil _ _, hb⟩
theorem RnRes.yes {p : List Rn × Int} {l : List Rn} {v : Value} {w w' : World} (h : p = (l, 0)) (hr : RnRow w' w.heap.size v l) (hb : Below w.heap.size w w') : RnRes p w (.returned (.tuple #[v, .int .i64 0])) w' := by
  subst h; exact ⟨_, rfl, hr, hb⟩

set_option maxRecDepth 100000 in
set_option maxHeartbeats 8000000 in
theorem from_any (v : Int) (q : List Int) (V : Value) (n : Int) (w : World) (hT : InArg w V q) : Calls Try.prog 38 #[.int .i64 v, V, .int .i64 n] w (RnRes (feR v q n) w) := by
  obtain ⟨A, c, rfl, hA⟩ := hT
  have HA := Lib.hid hA
  clear hA
  by_cases hv : ¬ (v = 0 ∨ v = 1)
  · have HL := Lib.hid (feR_1 (n := n) (q := q) hv)
    have CL := Lib.hid (fun w => by have := isLevel_any v w; rw [decide_eq_false hv] at this; exact this)
    clear hv HA
    go_enter Try.func38, Try.ntmps38
    go_wp2_with (first
      | (go_at_call 42; go_must (refine (CL.out _).mono ?_; rintro e1 w1 ⟨rfl, rfl⟩)))
    go_returns
    exact RnRes.no HL.out (Below.refl _ _)
  replace hv := Decidable.not_not.1 hv
  have CL := Lib.hid (fun w => by have := isLevel_any v w; rw [decide_eq_true hv] at this; exact this)
  have HVV := Lib.hid hv
  have hv0 : 0 ≤ v := by omega
  have hv1 : v ≤ 1 := by omega
  by_cases hn : n < 0
  · have HL := Lib.hid (feR_2 (q := q) hv (.inl hn))
    clear hv HA
    go_enter Try.func38, Try.ntmps38
    go_wp2_with (first
      | (go_at_call 42; go_must (refine (CL.out _).mono ?_; rintro e1 w1 ⟨rfl, rfl⟩)))
    go_returns
    exact RnRes.no HL.out (Below.refl _ _)
  by_cases hn2 : 1099511627776 < n
  · have HL := Lib.hid (feR_2 (q := q) hv (.inr hn2))
    clear hv HA
    go_enter Try.func38, Try.ntmps38
    go_wp2_with (first
      | (go_at_call 42; go_must (refine (CL.out _).mono ?_; rintro e1 w1 ⟨rfl, rfl⟩)))
    go_returns
    exact RnRes.no HL.out (Below.refl _ _)
  have hrg : ¬ (n < 0 ∨ 1099511627776 < n) := by omega
  by_cases hq : 262144 ≤ q.length
  · have HL := Lib.hid (feR_6 hv hrg hq)
    have hq' : (262144 : Int) ≤ q.length := by omega
    clear hv HA hrg
    go_enter Try.func38, Try.ntmps38
    go_wp2_with (first
      | (go_at_call 42; go_must (refine (CL.out _).mono ?_; rintro e1 w1 ⟨rfl, rfl⟩)))
    go_returns
    exact RnRes.no HL.out (Below.refl _ _)
  have hq' : ¬ (262144 : Int) ≤ q.length := by omega
  have H7 := Lib.hid (fun h => feR_7 hv hrg hq h)
  have H0 := Lib.hid (fun h => feR_0 hv hrg hq h)
  have CO := Lib.hid other_any
  have d1 : decide (n < 0) = false := decide_eq_false hn
  have d2 : decide (1099511627776 < n) = false := decide_eq_false hn2
  have d3 : decide ((262144 : Int) ≤ q.length) = false := decide_eq_false hq'
  clear hv hrg
  go_enter Try.func38, Try.ntmps38
  go_wp2_with (first
    | (go_at_call 42; go_must (refine (CL.out _).mono ?_; rintro e1 w1 ⟨rfl, rfl⟩)))
  go_loopw [28, 8, 9, 10] (fun i r x s wr => ∃ j : Nat, j ≤ q.length ∧ i = .int .i64 j ∧ x = .int .i64 (lv v (q.take j)) ∧ s = .int .i64 (le' 0 (q.take j)) ∧ Hid (RnRow wr w.heap.size r (fp v 0 (q.take j))) ∧ Hid (oe 0 (q.take j) n = true) ∧ Hid (Below w.heap.size w wr)) (fun i _ _ _ _ => q.length - (intOf i).toNat)
  case atStart => exact ⟨0, Nat.zero_le _, rfl, rfl, rfl, Lib.hid (KRow.nil _ _), Lib.hid rfl, Lib.hid (Below.refl _ _)⟩
  case round =>
    obtain ⟨j, hj, rfl, rfl, rfl, HR, HO, HB⟩ := hrel
    have hb := HB.out
    have hlr := le_range (q.take j) 0 n HO.out (by omega)
    have hlv := lv_one (q.take j) v HVV.out
    have hfl := fp_len (q.take j) v 0
    have hfl2 : (fp v 0 (q.take j)).length ≤ 262144 := by rw [hfl, List.length_take]; omega
    clear hfl
    by_cases hjl : j < q.length
    · obtain ⟨g, o, rfl, hg, hc⟩ := HA.out (by omega)
      have a0 := arg_int hc j hjl
      have f0 := (hb.cell (p := ⟨g, o + j, none⟩) hg).trans a0
      have hot := oe_take hjl HO.out
      have hbd := Lib.hid (fun h => H7.out (oe_bad (q := q) (j := j + 1) h))
      have hlt1 := Lib.hid (le_take (q := q) hjl 0)
      have hlt2 := Lib.hid (lv_take (q := q) hjl v)
      have hlt3 := Lib.hid (fp_take (q := q) hjl v)
      clear a0 hc
      obtain ⟨x0, hx0⟩ : ∃ x, q[j] = x := ⟨_, rfl⟩
      rw [hx0] at f0 hot hlt1 hlt3
      clear hx0
      generalize le' 0 (q.take j) = S at *
      generalize lv v (q.take j) = L at *
      generalize fp v 0 (q.take j) = E at *
      have HLV := Lib.hid hlv
      have hL0 : 0 ≤ L := by omega
      have hL1 : L ≤ 1 := by omega
      clear hlv
      by_cases c1 : x0 ≤ S
      · have d4 : decide (x0 ≤ S) = true := decide_eq_true c1
        have HL := Lib.hid (hbd.out (by rw [hot, decide_eq_false (by omega)]; rfl))
        clear hot
        go_wp2
        go_returns
        exact RnRes.no HL.out hb
      have d4 : decide (x0 ≤ S) = false := decide_eq_false c1
      by_cases c2 : n ≤ x0
      · have d5 : decide (n ≤ x0) = true := decide_eq_true c2
        have HL := Lib.hid (hbd.out (by rw [hot, decide_eq_false (show ¬ x0 < n by omega), Bool.and_false]))
        clear hot
        go_wp2
        go_returns
        exact RnRes.no HL.out hb
      have d5 : decide (n ≤ x0) = false := decide_eq_false c2
      have HO2 := Lib.hid (show oe 0 (q.take (j + 1)) n = true by rw [hot, decide_eq_true (by omega), decide_eq_true (by omega)]; rfl)
      clear hot
      obtain ⟨UA, UN, UC, rfl, hUN⟩ := HR.out.form
      clear hUN
      go_wp2_with (first
        | (at_builtin; go_must (refine wpList_append_rn rfl _ _ rfl rfl rfl rfl rfl HR.out hb.size (by omega) ?_; intro v5 w5 R5 b5))
        | (go_at_call 63; go_must (refine (CO.out _ _ HLV.out).mono ?_; rintro e6 w6 ⟨rfl, rfl⟩)))
      go_roundw
      case rel => exact ⟨j + 1, by omega, val_int (by omega), val_int hlt2.out.symm, val_int hlt1.out.symm, Lib.hid (by rw [hlt3.out]; exact R5), HO2, Lib.hid (hb.trans b5)⟩
      case measure => simp [intOf]; omega
    · have he : q.take j = q := List.take_of_length_le (by omega)
      have HL := Lib.hid (H0.out (by rw [← he]; exact HO.out))
      have HF := Lib.hid (show fe v 0 q n = fp v 0 (q.take j) ++ (if le' 0 (q.take j) < n then [(lv v (q.take j), n - le' 0 (q.take j))] else []) by rw [he]; rfl)
      clear he
      generalize le' 0 (q.take j) = S at *
      generalize lv v (q.take j) = L at *
      generalize fp v 0 (q.take j) = E at *
      by_cases c1 : S < n
      · have HG := Lib.hid (show fe v 0 q n = E ++ [(L, n - S)] by rw [HF.out, if_pos c1])
        obtain ⟨UA, UN, UC, rfl, hUN⟩ := HR.out.form
        clear hUN hlv HF
        go_wp2_with (first
          | (at_builtin; go_must (refine wpList_append_rn rfl _ _ rfl rfl rfl rfl rfl HR.out hb.size (by omega) ?_; intro v5 w5 R5 b5)))
        go_returns
        exact RnRes.yes HL.out (by rw [HG.out]; exact R5) (hb.trans b5)
      · have HG := Lib.hid (show fe v 0 q n = E by rw [HF.out, if_neg c1, List.append_nil])
        clear hlv HF
        go_wp2
        go_returns
        exact RnRes.yes HL.out (by rw [HG.out]; exact HR.out) hb

end Go.Proofs.Ytgihljconpijaaa
