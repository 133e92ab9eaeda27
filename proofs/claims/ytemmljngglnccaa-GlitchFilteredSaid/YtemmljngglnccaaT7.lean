/-
  The specification's Filter.
-/
import Derived.Test.YtemmljngglnccaaT6
namespace Go.Proofs.Ytemmljngglnccaa
open Go Go.RowKit Go.Joins
set_option linter.unusedVariables false
set_option linter.unusedSimpArgs false

theorem shP_no {D : List Rn} {k : Int} {e : Ending} (h : cn k (D.drop 1) = 0) (hs : ShP D k e) : e = .returned (.int .i64 (-1)) := by
  rcases hs with ⟨h1, _⟩ | ⟨i, hi, h1, _, h3, _⟩
  · exact h1
  · have := cn_zero.1 h (i - 1) (by rw [List.length_drop]; omega)
    rw [List.getElem_drop] at this
    simp only [show 1 + (i - 1) = i by omega] at this
    exact absurd h3 this
theorem shP_yes {D : List Rn} {k : Int} (h : cn k (D.drop 1) ≠ 0) : ∃ (m : Nat) (hm : m + 2 < D.length), D[m + 1].2 < k ∧ (∀ j (hj : j < D.length), 1 ≤ j → j < m + 1 → ¬ D[j].2 < k) ∧ ∀ e, ShP D k e → e = .returned (.int .i64 ((m : Int) + 1)) := by
  have hex : ∃ n, ∃ hn : n + 2 < D.length, D[n + 1].2 < k := by
    apply Classical.byContradiction
    intro hno
    apply h
    apply cn_zero.2
    intro j hj
    rw [List.length_drop] at hj
    rw [List.getElem_drop]
    intro hlt
    apply hno
    refine ⟨j, by omega, ?_⟩
    simp only [show 1 + j = j + 1 by omega] at hlt
    exact hlt
  obtain ⟨m, ⟨hm, hs⟩, hmin⟩ := exists_least hex
  have hall : ∀ j (hj : j < D.length), 1 ≤ j → j < m + 1 → ¬ D[j].2 < k := by
    intro j hj h1 h2 hlt
    have := hmin (j - 1) ⟨by omega, by simp only [show j - 1 + 1 = j by omega]; exact hlt⟩
    omega
  refine ⟨m, hm, hs, hall, fun e he => ?_⟩
  rcases he with ⟨_, h0⟩ | ⟨i, hi, h1, rfl, h3, h4⟩
  · exact absurd h0 h
  · have : i = m + 1 := by
      rcases Nat.lt_trichotomy i (m + 1) with c | c | c
      · exact absurd h3 (hall i (by omega) h1 c)
      · exact c
      · exact absurd hs (h4 (m + 1) (by omega) (by omega) c)
    subst this
    simp
/-- One step. -/
theorem stepR0 {k : Int} {F P t : List Rn} {z b d : Rn} (ha : al (P ++ z :: b :: d :: t)) (hg : gd (P ++ z :: b :: d :: t)) (hl : lg (P ++ z :: b :: d :: t) ≤ 1099511627776) (hn : (P ++ z :: b :: d :: t).length ≤ 262144) (hF : flP k (P ++ z :: b :: d :: t) = F) (hP : ∀ x ∈ P.drop 1, ¬ x.2 < k) (hz : P ≠ [] → ¬ z.2 < k) (hs : b.2 < k) :
    ∃ D', cl (P ++ z :: (z.1, b.2) :: d :: t) = D' ∧ al D' ∧ gd D' ∧ lg D' ≤ 1099511627776 ∧ D'.length + 2 = (P ++ z :: b :: d :: t).length ∧ flP k D' = F := by
  obtain ⟨s1, s2, s3, s4⟩ := step_flP ha hg hP hz hs
  have g0 := gd_append.1 hg
  have g1 := gd_cons.1 g0.2
  have g2 := gd_cons.1 g1.2
  have hvl : vl (P ++ z :: (z.1, b.2) :: d :: t) = true := by
    refine (vl_iff _).2 ⟨?_, gd_append.2 ⟨g0.1, gd_cons.2 ⟨g1.1, gd_cons.2 ⟨⟨g1.1.1, g2.1.2⟩, g2.2⟩⟩⟩, ?_⟩
    · simp only [List.length_append, List.length_cons] at hn ⊢; omega
    · have : lg (P ++ z :: (z.1, b.2) :: d :: t) = lg (P ++ z :: b :: d :: t) := by rw [lg_append, lg_append]; rfl
      omega
  refine ⟨_, by rw [cl_yes hvl, jn_three ha hg], s2, s3, by omega, ?_, by rw [← s1]; exact hF⟩
  simp only [List.length_append, List.length_cons]
  omega
theorem stepR {k : Int} {F D : List Rn} (ha : al D) (hg : gd D) (hl : lg D ≤ 1099511627776) (hn : D.length ≤ 262144) (hF : flP k D = F) (m : Nat) (h : m + 2 < D.length) (hs : D[m + 1].2 < k) (hall : ∀ j (hj : j < D.length), 1 ≤ j → j < m + 1 → ¬ D[j].2 < k) :
    ∃ D', cl (D.set (m + 1) (D[m].1, D[m + 1].2)) = D' ∧ al D' ∧ gd D' ∧ lg D' ≤ 1099511627776 ∧ D'.length + 2 = D.length ∧ flP k D' = F := by
  have e : D.take m ++ D[m] :: D[m + 1] :: D[m + 2] :: D.drop (m + 3) = D := by
    rw [← List.drop_eq_getElem_cons, ← List.drop_eq_getElem_cons (by omega), ← List.drop_eq_getElem_cons (by omega), List.take_append_drop]
  have hP : ∀ x ∈ (D.take m).drop 1, ¬ x.2 < k := by
    intro x hx
    obtain ⟨j, hj, rfl⟩ := List.mem_iff_getElem.1 hx
    rw [List.length_drop, List.length_take] at hj
    rw [List.getElem_drop, List.getElem_take]
    exact hall (1 + j) (by omega) (by omega) (by omega)
  have hz : D.take m ≠ [] → ¬ D[m].2 < k := by
    intro hne
    have : 0 < m := by
      rcases Nat.eq_zero_or_pos m with h0 | h0
      · subst h0; exact absurd rfl hne
      · exact h0
    exact hall m (by omega) (by omega) (by omega)
  have hlP : (D.take m).length = m := by rw [List.length_take]; omega
  have hset : D.set (m + 1) (D[m].1, D[m + 1].2) = D.take m ++ D[m] :: (D[m].1, D[m + 1].2) :: D[m + 2] :: D.drop (m + 3) := by
    apply List.ext_getElem?
    intro q
    rw [List.getElem?_set]
    have eq : (D.take m ++ D[m] :: D[m + 1] :: D[m + 2] :: D.drop (m + 3))[q]? = D[q]? := congrArg (fun L : List Rn => L[q]?) e
    by_cases c0 : q < m
    · rw [if_neg (by omega), ← eq, List.getElem?_append_left (by omega), List.getElem?_append_left (by omega)]
    · rw [List.getElem?_append_right (by omega), hlP]
      rw [List.getElem?_append_right (by omega), hlP] at eq
      by_cases c1 : m + 1 = q
      · subst c1
        rw [if_pos rfl, if_pos (by omega)]
        simp
      · rw [if_neg c1, ← eq]
        obtain ⟨r, rfl⟩ : ∃ r, q = m + r := ⟨q - m, by omega⟩
        rw [Nat.add_sub_cancel_left]
        match r, c1 with
        | 0, _ => rfl
        | 1, c1 => exact absurd rfl c1
        | r + 2, _ => rfl
  rw [hset]
  obtain ⟨D', q1, q2, q3, q4, q5, q6⟩ := stepR0 (k := k) (F := F) (P := D.take m) (z := D[m]) (b := D[m + 1]) (d := D[m + 2]) (t := D.drop (m + 3)) (by rw [e]; exact ha) (by rw [e]; exact hg) (by rw [e]; exact hl) (by rw [e]; exact hn) (by rw [e]; exact hF) hP hz hs
  exact ⟨D', q1, q2, q3, q4, q5.trans (congrArg List.length e), q6⟩

set_option maxRecDepth 100000 in
set_option maxHeartbeats 8000000 in
theorem refFilter_any (l : List Rn) (k : Int) (V : Value) (w : World) (hT : RnArg w V l) (hlen : l.length ≤ 262144) :
    Calls Try.prog 16 #[V, .int .i64 k] w fun e w' => ∃ v : Value, e = .returned v ∧ RnRow w' w.heap.size v (flP k (cl l)) ∧ Below w.heap.size w w' := by
  have HV := Lib.hid (refValid_any l V w hT)
  cases hv : vl l with
  | false =>
    rw [hv] at HV
    have HE := Lib.hid (show flP k (cl l) = [] by rw [cl_no (by rw [hv]; decide)]; exact flP_nil k)
    obtain ⟨A, c, rfl⟩ := hT.form
    clear hT hv
    generalize flP k (cl l) = F at *
    go_enter Try.func16, Try.ntmps16
    go_wp2_with (first
      | (go_at_call 22; go_must (refine HV.out.mono ?_; rintro e1 w1 ⟨rfl, rfl⟩)))
    go_returns
    exact ⟨_, rfl, by rw [HE.out]; exact KRow.nil _ _, Below.refl _ _⟩
  | true =>
    rw [hv] at HV
    have HC := Lib.hid (refClean_any l V w hT)
    have hcv := (vl_iff _).1 (cl_vl l)
    obtain ⟨F, hF⟩ : ∃ F, F = flP k (cl l) := ⟨_, rfl⟩
    have HD0 := Lib.hid (show al (cl l) ∧ gd (cl l) ∧ lg (cl l) ≤ 1099511627776 ∧ flP k (cl l) = F ∧ (cl l).length ≤ 262144 from ⟨cl_al l, hcv.2.1, hcv.2.2, hF.symm, hcv.1⟩)
    rw [← hF]
    have HN0 := Lib.hid (show 0 + (cl l).length ≤ l.length by have := cl_len l; omega)
    have HN1 := Lib.hid hlen
    obtain ⟨A, c, rfl⟩ := hT.form
    clear hT hv hcv
    clear hF
    generalize cl l = C at *
    go_enter Try.func16, Try.ntmps16
    go_wp2_with (first
      | (go_at_call 22; go_must (refine HV.out.mono ?_; rintro e0 w0 ⟨rfl, rfl⟩))
      | (go_at_call 29; go_must (refine HC.out.mono ?_; rintro e1 w1 ⟨v1, rfl, r1, b1⟩; have R1 := Lib.hid r1; have B1 := Lib.hid b1; clear r1 b1)))
    go_loopg [5, 6] l.length (fun n vc i wr => ∃ (j : Nat) (D : List Rn), i = .int .i64 j ∧ n + j = l.length ∧ Hid (j + D.length ≤ l.length) ∧ Hid (al D ∧ gd D ∧ lg D ≤ 1099511627776 ∧ flP k D = F ∧ D.length ≤ 262144) ∧ Hid (RnRow wr w.heap.size vc D) ∧ Hid (Below w.heap.size w wr))
    case atStart => exact ⟨0, C, rfl, rfl, HN0, HD0, R1, B1⟩
    case round =>
      obtain ⟨j, D, rfl, hnj, HN, HD, HR, HB⟩ := hrel
      clear R1 B1 HN0 HD0 HC HV
      obtain ⟨UA, UN, UC, rfl, hUN⟩ := KRow.form HR.out
      clear hUN
      by_cases hj : j < l.length
      · have d0 : (j : Int) < (l.length : Int) := by omega
        have HS := Lib.hid (short_any D k _ wr (KRow.arg rnC_size HR.out) HD.out.2.2.2.2)
        by_cases hc : cn k (D.drop 1) = 0
        · have HF := Lib.hid (show D = F from (flP_id k D hc).symm.trans HD.out.2.2.2.1)
          have HX := Lib.hid (fun e => shP_no (e := e) hc)
          clear hc
          go_wp2_with (first
            | (go_at_call 30; go_must (refine HS.out.mono ?_; rintro e2 w2 ⟨hsh, rfl⟩; obtain rfl := HX.out _ hsh; clear hsh)))
          go_returns
          exact ⟨_, rfl, by have h := HR.out; rw [HF.out] at h; exact h, HB.out⟩
        · obtain ⟨m, hm, hs, hall, hX⟩ := shP_yes hc
          have HX := Lib.hid hX
          obtain ⟨D', e1, e2, e3, e4, e5, e6⟩ := stepR HD.out.1 HD.out.2.1 HD.out.2.2.1 HD.out.2.2.2.2 HD.out.2.2.2.1 m hm hs hall
          have E1 := Lib.hid e1
          have HD' := Lib.hid (show al D' ∧ gd D' ∧ lg D' ≤ 1099511627776 ∧ flP k D' = F ∧ D'.length ≤ 262144 from ⟨e2, e3, e4, e6, by have := HD.out.2.2.2.2; omega⟩)
          have E5 := Lib.hid e5
          have HMM := Lib.hid hm
          have hDl := HD.out.2.2.2.2
          have HDL := Lib.hid hDl
          have K0 := Lib.hid (KRow.lit (T := 48) rnC_size wr w.heap.size HB.out.size [] #[] rfl 0 rfl (by decide))
          have K1 := Lib.hid ((KRow.arg rnC_size HR.out).keep (ba wr (.cells #[] 48)))
          have BA := Lib.hid (HB.out.alloc HB.out.size (.cells #[] 48))
          have l3 : (m : Int) + 1 < (D.length : Int) := by omega
          have l4 : (0 : Int) ≤ (m : Int) + 1 := by omega
          have l5 : ((m : Int) + 1).toNat = m + 1 := by omega
          have l6 : (m : Int) < (D.length : Int) := by omega
          have l7 : ¬ (m : Int) + 1 < 0 := by omega
          have w10 := IntWalk.i64_in (m : Int) (by omega)
          clear hX e1 e2 e3 e4 e5 e6 hall hc hDl
          clear hs
          go_wp2_with (first
            | (go_at_call 30; go_must (refine HS.out.mono ?_; rintro e2 w2 ⟨hsh, rfl⟩; obtain rfl := HX.out _ hsh; clear hsh))
            | (at_builtin; go_must (refine wpList_append_arg (o := ⟨some 28, _, _, _, _, _⟩) Try.underlying22 run_info rfl (by omega) rnC_size rnC_one rfl (.tmp 26) (.tmp 27) rfl rfl rfl K0.out K1.out BA.out.size (by have := HDL.out; simp; omega) (by have := HDL.out; simp; omega) ?_; intro v6 w6 r6 b6; rw [List.nil_append] at r6; obtain ⟨VK, VM, rfl⟩ := KRow.full r6 (by omega); have f0 : w6.cell? ⟨VK, m * 2, none⟩ = some (.int .i64 D[m].1) := (RnRow.two r6 m (by omega)).1; have f2 : w6.cell? ⟨VK, (m + 1) * 2, none⟩ = some (.int .i64 D[m + 1].1) := (RnRow.two r6 (m + 1) (by omega)).1; have f1 := r6.frozen ((m + 1) * 2); have R6 := Lib.hid (show RnRow (w6.setCell ⟨VK, (m + 1) * 2, none⟩ (.int .i64 D[m].1)) w.heap.size (.slice (some ⟨VK, 0, none⟩) D.length VM) (D.set (m + 1) (D[m].1, D[m + 1].2)) from (by have := KRow.cellSet rnC_size r6 (m + 1) 0 (by omega) (by omega) (.int .i64 D[m].1) (D[m].1, D[m + 1].2) rfl; rw [Nat.add_zero] at this; exact this)); have B6 := Lib.hid (show Below w.heap.size w (w6.setCell ⟨VK, (m + 1) * 2, none⟩ (.int .i64 D[m].1)) from Below.setCell (BA.out.trans b6) (KRow.len r6).2.2.1 _); clear r6 b6; generalize D[m].1 = x0 at *; generalize D[m + 1].2 = x1 at *; generalize D[m + 1].1 = x2 at *))
            | (go_at_call 29; go_must (refine (refClean_any _ _ _ (KRow.arg rnC_size R6.out)).mono ?_; rintro e7 w7 ⟨v7, rfl, r7, b7⟩; rw [E1.out] at r7; have R7 := Lib.hid (KRow.mono r7 B6.out.size); have B7 := Lib.hid (B6.out.trans (b7.mono B6.out.size)); clear r7 b7)))
          go_roundg (l.length - (j + 1))
          case rel => exact ⟨j + 1, D', by go_num, by omega, Lib.hid (by have a := HN.out; have b := E5.out; omega), HD', R7, B7⟩
          case measure => omega
      · have d0 : ¬ (j : Int) < (l.length : Int) := by omega
        have HF := Lib.hid (show D = F by
          have h0 : D.length = 0 := by have := HN.out; omega
          have hd := HD.out.2.2.2.1
          rw [List.eq_nil_of_length_eq_zero h0] at hd ⊢
          rw [← hd, flP_nil])
        go_wp2
        go_returns
        exact ⟨_, rfl, by have h := HR.out; rw [HF.out] at h; exact h, HB.out⟩
end Go.Proofs.Ytemmljngglnccaa
