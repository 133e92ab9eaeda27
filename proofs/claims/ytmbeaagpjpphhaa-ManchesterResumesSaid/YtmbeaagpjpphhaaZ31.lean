/-
  Layer 17: the law of items behind other levels, where something is asked.
  Layer 17: the law of items behind other levels, for all arguments.
-/
import Derived.Test.YtmbeaagpjpphhaaZ29
import Derived.Test.YtmbeaagpjpphhaaZ09
namespace Go.Proofs.Ytmbeaagpjpphhaa
open Go Go.RowKit Go.Joins
open Sw (Rn RnRow RnArg rnC lg lg_append)
set_option linter.unusedVariables false
set_option linter.unusedSimpArgs false

theorem lv_take {A : List Rn} {j : Nat} (b : Int) (h : j < A.length) : lvL b (A.take (j + 1)) = lvL b (A.take j) ++ [⟨1, b + lg (A.take j), b + lg (A.take j) + A[j].2, A[j].1, 0, [], 0⟩] := by
  rw [List.take_succ_eq_append_getElem h, lvL_append]; rfl

set_option maxRecDepth 20000 in
set_option maxHeartbeats 8000000 in
theorem res_main (N D : Int) (z : Bool) (A R : List Rn) (VA V : Value) (w : World) (M Wt : List Ev) (P : List Ev) (hTA : RnArg w VA A) (hlA : A.length ≤ 200) (hR : nn R) (hRl : R.length ≤ 262144) (hRg : lg R ≤ 549755813888) (LG : Int) (hLG : LG = lg R)
    (CE0 : ∀ W, Below w.heap.size w W → Calls Try.prog 38 #[.agg (manA N D z), V] W fun e w' => ∃ V', e = .returned (.tuple #[V', .int .i64 0]) ∧ RnRow w' W.heap.size V' R ∧ Below W.heap.size W w')
    (CL0 : ∀ V W, RnArg W V R → Calls Try.prog 53 #[V] W fun e w' => e = .returned (.int .i64 LG) ∧ W = w')
    (CX0 : ∀ W, Below w.heap.size w W → Calls Try.prog 39 #[.agg (manA N D z), V] W fun e w' => ∃ V', e = .returned (.tuple #[V', .int .i64 0]) ∧ EvRow w' W.heap.size V' Wt ∧ Below W.heap.size W w')
    (CD0 : (∀ r ∈ A, ahP r) → ∀ V W, EvArg W V (lvL 0 A ++ lvL (lg A) R) → Calls Try.prog 42 #[.agg (manA N D z), V] W fun r w' => ∃ V', r = .returned V' ∧ EvRow w' W.heap.size V' M ∧ Below W.heap.size W w')
    (hM : (∀ r ∈ A, ahP r) → M = P ++ Wt.map (shE (lg A))) (hMl : M.length ≤ 1099511627776) (hWb : ∀ x ∈ Wt, evBd x) (ctl : ∃ AI n c, V = .slice AI n c) :
    Calls Try.prog 15 #[.agg (manA N D z), VA, V] w fun e w' => e = .returned (.bool true) ∧ Below w.heap.size w w' := by
  have CA := Lib.hid awake17_any
  have CE := Lib.hid CE0; have CL := Lib.hid CL0; have CX := Lib.hid CX0; have CD := Lib.hid CD0; have HM := Lib.hid hM; have HWB := Lib.hid hWb; have HNN := Lib.hid hR
  have HT := Lib.hid (fun j => lg_take_le hR j)
  have HT0 := Lib.hid (fun j => nn_lg (nn_take hR j))
  have HRG := Lib.hid hRg
  obtain ⟨AI, nI, cI, rfl⟩ := ctl
  obtain ⟨W, b2, eW, e2, l2, r2, B0⟩ := one_enc w N D z
  have HB0 := Lib.hid B0; have H2 := Lib.hid r2
  obtain ⟨z0, z1, z2⟩ := row3 r2
  obtain ⟨AA, cA, rfl, hAA⟩ := hTA
  have HAA := Lib.hid hAA
  have hlA' : (A.length : Int) ≤ 200 := by omega
  have hRl' : (R.length : Int) ≤ 262144 := by omega
  have hMl' : (M.length : Int) ≤ 1099511627776 := by omega
  have d2 : decide ((200 : Int) < A.length) = false := decide_eq_false (by omega)
  have d2' : decide (200 < A.length) = false := decide_eq_false (by omega)
  have d3 : decide (549755813888 < LG) = false := decide_eq_false (by omega)
  clear hAA r2 B0 CE0 CL0 CX0 CD0 hM hWb hR hRg hLG
  go_enter Try.func15, Try.ntmps15
  go_wp2_with (first
    | (rw [← eW, ← e2]; clear eW e2; go_at_call 38; go_must (refine (CE.out _ HB0.out).mono ?_; rintro e1 w1 ⟨V1, rfl, v1, b1⟩; have A1' := Lib.hid (v1.arg Sw.rnC_size); have B1 := Lib.hid (HB0.out.trans (b1.mono HB0.out.size)); have R1 := Lib.hid (H2.out.keep b1); obtain ⟨A1, c1, rfl, hA1⟩ := v1.arg Sw.rnC_size; have HA1 := Lib.hid hA1; clear hA1))
    | (go_at_call 53; go_must (refine (CL.out _ _ A1'.out).mono ?_; rintro e2 w2 ⟨rfl, rfl⟩))
    | fail)
  have HL0 := Lib.hid (KRow.lit (T := 44) evC_size w1 w1.heap.size (Nat.le_refl _) [] #[] rfl 0 rfl (by decide))
  have HBL := Lib.hid (ba w1 (.cells #[] 44))
  clear z0 z1 z2 v1 b1 H2 HB0 A1'
  go_loopw [11, 10, 9] (fun i r t wr => ∃ (j : Nat), j ≤ A.length ∧ i = .int .i64 j ∧ t = .int .i64 (lg (A.take j)) ∧ Hid (∀ x ∈ A.take j, ahP x) ∧ Hid (EvRow wr w1.heap.size r (lvL 0 (A.take j))) ∧ Hid (Below w1.heap.size w1 wr)) (fun i _ _ _ => A.length - (intOf i).toNat)
  case atStart => exact ⟨0, Nat.zero_le _, rfl, rfl, Lib.hid (fun x hx => by simp at hx), HL0, HBL⟩
  case round =>
    obtain ⟨j, hj, rfl, rfl, HG, HR, HB⟩ := hrel
    have hb := HB.out
    by_cases hjl : j < A.length
    · obtain ⟨g, o, rfl, hg', hc⟩ := HAA.out (by omega)
      obtain ⟨a0, a1⟩ := Sw.arg_two hc j hjl
      have hlt := ah_lg HG.out
      rw [List.length_take, Nat.min_eq_left hj] at hlt
      have hP := Sw.lg_take A j hjl
      have HLv := Lib.hid (lv_take 0 hjl)
      rw [Int.zero_add] at HLv
      have hll : (lvL 0 (A.take j)).length ≤ j := by rw [lvL_len, List.length_take]; omega
      have HGn : Hid (ahP (A[j].1, A[j].2) → ∀ x ∈ A.take (j + 1), ahP x) := Lib.hid fun h x hx => by
        rw [List.take_succ_eq_append_getElem hjl] at hx
        rcases List.mem_append.1 hx with hx | hx
        · exact HG.out x hx
        · simp only [List.mem_singleton] at hx; subst hx; exact h
      have HP := Lib.hid hP
      have hbw := B1.out.trans (hb.mono B1.out.size)
      have f0 := (hbw.cell (p := ⟨g, o + j * 2, none⟩) hg').trans a0
      have f1 := (hbw.cell (p := ⟨g, o + j * 2 + 1, none⟩) hg').trans a1
      have hgw : g < wr.heap.size := Nat.lt_of_lt_of_le hg' hbw.size
      clear hc a0 a1
      generalize A[j].1 = y0 at *
      generalize A[j].2 = y1 at *
      generalize lg (A.take j) = B at *
      generalize lvL 0 (A.take j) = E at *
      have hi0 : (0 : Int) ≤ (j : Int) := by omega
      have hi1 : (j : Int) < A.length := by omega
      clear hP
      by_cases h1 : y0 < 0
      · have h1' : decide (y0 < 0) = true := decide_eq_true h1
        clear HGn HG hlt
        go_wp2_with (go_at_call 36; go_must (refine (CA.out _).mono ?_; rintro e7 w7 ⟨rfl, b7⟩))
        go_returns
        exact ⟨rfl, hbw.trans (b7.mono hbw.size)⟩
      have h1' : decide (y0 < 0) = false := decide_eq_false h1
      by_cases h2 : 1 < y0
      · have h2' : decide (1 < y0) = true := decide_eq_true h2
        clear HGn HG hlt
        go_wp2_with (go_at_call 36; go_must (refine (CA.out _).mono ?_; rintro e7 w7 ⟨rfl, b7⟩))
        go_returns
        exact ⟨rfl, hbw.trans (b7.mono hbw.size)⟩
      have h2' : decide (1 < y0) = false := decide_eq_false h2
      by_cases h3 : y1 < 1
      · have h3' : decide (y1 < 1) = true := decide_eq_true h3
        clear HGn HG hlt
        go_wp2_with (go_at_call 36; go_must (refine (CA.out _).mono ?_; rintro e7 w7 ⟨rfl, b7⟩))
        go_returns
        exact ⟨rfl, hbw.trans (b7.mono hbw.size)⟩
      have h3' : decide (y1 < 1) = false := decide_eq_false h3
      by_cases h4 : 1048576 < y1
      · have h4' : decide (1048576 < y1) = true := decide_eq_true h4
        clear HGn HG hlt
        go_wp2_with (go_at_call 36; go_must (refine (CA.out _).mono ?_; rintro e7 w7 ⟨rfl, b7⟩))
        go_returns
        exact ⟨rfl, hbw.trans (b7.mono hbw.size)⟩
      have h4' : decide (1048576 < y1) = false := decide_eq_false h4
      have HGj := Lib.hid (HGn.out ⟨by simp only; omega, by simp only; omega, by simp only; omega⟩)
      have q1 : IntKind.i64.wrap (B + y1) = B + y1 := IntWalk.i64_in _ (by omega)
      have HS := Lib.hid (fun w' (hb' : Below wr.heap.size wr w') => And.intro ((hb'.cell (p := ⟨g, o + j * 2, none⟩) hgw).trans f0) (And.intro ((hb'.cell (p := ⟨g, o + j * 2 + 1, none⟩) hgw).trans f1) (hbw.trans (hb'.mono hbw.size))))
      have HS2 := Lib.hid (fun w' (hb' : Below w1.heap.size w1 w') => And.intro (((B1.out.trans (hb'.mono B1.out.size)).cell (p := ⟨g, o + j * 2, none⟩) hg').trans ((hbw.cell (p := ⟨g, o + j * 2, none⟩) hg').symm.trans f0)) (And.intro (((B1.out.trans (hb'.mono B1.out.size)).cell (p := ⟨g, o + j * 2 + 1, none⟩) hg').trans ((hbw.cell (p := ⟨g, o + j * 2 + 1, none⟩) hg').symm.trans f1)) hb'))
      have hM1 : E.length + 1 ≤ 140737488355328 := by omega
      have hM2 : (E.length + 1) * 64 ≤ 140737488355328 := by omega
      obtain ⟨UA, UN, UC, rfl, hUN⟩ := HR.out.form
      clear hUN
      have HRd := Lib.hid (show EvRow wr.drew w1.heap.size (.slice UA UN UC) E from HR.out)
      have hdr := Lib.hid (show Below w1.heap.size w1 wr.drew from hb.drew)
      clear HGn HG hlt HS
      go_wp2
      go_region_held3 (fun w' => w'.cell? ⟨g, o + j * 2, none⟩ = some (.int .i64 y0) ∧ w'.cell? ⟨g, o + j * 2 + 1, none⟩ = some (.int .i64 y1) ∧ Below w1.heap.size w1 w') (first | exact HS2.out _ hdr.out | assumption | exact HS2.out _ (hdr.out.alloc hdr.out.size _) | go_keep)
        ((refine step_append_ks (P := Try.prog) Try.underlying36 ev_info rfl (by decide) evC_size (by rfl) (.tmp 76) (.tmp 91) (by rfl) (by rfl) (by rfl) (by rfl) HRd.out hdr.out.size [(⟨1, B, B + y1, y0, 0, [], 0⟩ : Ev)] (by rfl) (by decide) (by rfl) (by rfl) hM1 hM2 ?_; intro v3 w3 r3 b3; have hw3 := HS2.out w3 (hdr.out.trans b3)))
      all_goals
        obtain ⟨e0, e1, _⟩ := hw3
        go_wp2
        go_roundw
        case rel => exact ⟨j + 1, by omega, val_int (by omega), by rw [HP.out], HGj, Lib.hid (by rw [HLv.out]; exact r3), Lib.hid (hdr.out.trans b3)⟩
        case measure => simp [intOf]; omega
    · have he : A.take j = A := List.take_of_length_le (by omega)
      rw [he] at HR HG ⊢
      clear he
      have CD' := Lib.hid (CD.out HG.out)
      have HM' := HM.out HG.out
      have hAb := ah_lg HG.out
      have HMi := Lib.hid HM'
      have hMlen : M.length = P.length + Wt.length := by rw [HM', List.length_append, List.length_map]
      have HMl := Lib.hid hMlen
      have HMq : Hid (∀ i (h : i < Wt.length) (h' : P.length + i < M.length), M[P.length + i] = shE (lg A) Wt[i]) := Lib.hid fun i h h' => by
        have : M[P.length + i]? = some (shE (lg A) Wt[i]) := by
          rw [HM', List.getElem?_append_right (by omega), Nat.add_sub_cancel_left, List.getElem?_map, List.getElem?_eq_getElem h]; rfl
        exact Option.some.inj ((List.getElem?_eq_getElem h').symm.trans this)
      have hPl : (P.length : Int) + Wt.length ≤ 1099511627776 := by omega
      have d5 : decide ((M.length : Int) < Wt.length) = false := decide_eq_false (by omega)
      have d5' : decide (M.length < Wt.length) = false := decide_eq_false (by omega)
      obtain ⟨pn, hpn⟩ : ∃ x : Int, x = P.length := ⟨_, rfl⟩
      have w5 : IntKind.i64.wrap ((M.length : Int) - Wt.length) = pn := by rw [hpn, IntWalk.i64_in _ (by omega)]; omega
      have HPN := Lib.hid hpn
      obtain ⟨LA, hLA⟩ : ∃ x, x = lvL 0 A := ⟨_, rfl⟩
      have hLAl : LA.length ≤ 200 := by rw [hLA, lvL_len]; exact hlA
      rw [← hLA] at HR CD'
      clear hLA CD HM HM' hMlen HMi HG hpn
      have HBR : 0 ≤ lg A ∧ lg A ≤ 209715200 := by omega
      clear hAb
      generalize lg A = B at *
      obtain ⟨w6, hw6⟩ : ∃ x, x = wr := ⟨_, rfl⟩
      subst hw6
      have HB6 := Lib.hid hb
      clear hb HB
      go_wp2
      go_loopw [13, 10, 12] (fun i r t wr => ∃ (k : Nat), k ≤ R.length ∧ i = .int .i64 k ∧ t = .int .i64 (B + lg (R.take k)) ∧ Hid (EvRow wr w1.heap.size r (LA ++ lvL B (R.take k))) ∧ Hid (Below w1.heap.size w1 wr)) (fun i _ _ _ => R.length - (intOf i).toNat)
      case atStart => exact ⟨0, Nat.zero_le _, rfl, by simp [lg], Lib.hid (by simpa [lvL] using HR.out), HB6⟩
      case round =>
        obtain ⟨k, hk, rfl, rfl, HR2, HB2⟩ := hrel
        have hb2 := HB2.out
        by_cases hkl : k < R.length
        · obtain ⟨g, o, rfl, hg', hc⟩ := HA1.out (by omega)
          obtain ⟨a0, a1⟩ := Sw.arg_two hc k hkl
          have hP := Sw.lg_take R k hkl
          have t0 := HT0.out k
          have t1 := HT.out (k + 1)
          have t2 := HNN.out R[k] (List.getElem_mem hkl)
          have t3 := HRG.out
          have HLv := Lib.hid (lv_take B hkl)
          have hll : (LA ++ lvL B (R.take k)).length ≤ 200 + k := by rw [List.length_append, lvL_len, List.length_take]; omega
          have HP := Lib.hid hP
          have f0 := (hb2.cell (p := ⟨g, o + k * 2, none⟩) hg').trans a0
          have f1 := (hb2.cell (p := ⟨g, o + k * 2 + 1, none⟩) hg').trans a1
          clear hc
          generalize R[k].1 = y0 at *
          generalize R[k].2 = y1 at *
          obtain ⟨BE, hBE⟩ : ∃ x, x = B + lg (R.take k) := ⟨_, rfl⟩
          have HBE := Lib.hid hBE
          rw [← hBE] at HLv ⊢
          have q1 : IntKind.i64.wrap (BE + y1) = BE + y1 := IntWalk.i64_in _ (by omega)
          have HN : Hid (B + lg (R.take (k + 1)) = BE + y1) := Lib.hid (by rw [HP.out, hBE]; omega)
          have HS2 := Lib.hid (fun w' (hb' : Below w1.heap.size w1 w') => And.intro ((hb'.cell (p := ⟨g, o + k * 2, none⟩) hg').trans a0) (And.intro ((hb'.cell (p := ⟨g, o + k * 2 + 1, none⟩) hg').trans a1) hb'))
          have HLw : Hid (LA ++ lvL B (R.take (k + 1)) = (LA ++ lvL B (R.take k)) ++ [⟨1, BE, BE + y1, y0, 0, [], 0⟩]) := Lib.hid (by rw [HLv.out, List.append_assoc])
          generalize LA ++ lvL B (R.take k) = E at *
          have hM1 : E.length + 1 ≤ 140737488355328 := by omega
          have hM2 : (E.length + 1) * 64 ≤ 140737488355328 := by omega
          have hi0 : (0 : Int) ≤ (k : Int) := by omega
          have hi1 : (k : Int) < R.length := by omega
          obtain ⟨UA, UN, UC, rfl, hUN⟩ := HR2.out.form
          clear hUN a0 a1 hP t0 t1 t2 t3 hBE HLv
          have HRd := Lib.hid (show EvRow wr.drew w1.heap.size (.slice UA UN UC) E from HR2.out)
          have hdr := Lib.hid (show Below w1.heap.size w1 wr.drew from hb2.drew)
          go_wp2
          go_region_held3 (fun w' => w'.cell? ⟨g, o + k * 2, none⟩ = some (.int .i64 y0) ∧ w'.cell? ⟨g, o + k * 2 + 1, none⟩ = some (.int .i64 y1) ∧ Below w1.heap.size w1 w') (first | exact HS2.out _ hdr.out | assumption | exact HS2.out _ (hdr.out.alloc hdr.out.size _) | go_keep)
            ((refine step_append_ks (P := Try.prog) Try.underlying36 ev_info rfl (by decide) evC_size (by rfl) (.tmp 107) (.tmp 122) (by rfl) (by rfl) (by rfl) (by rfl) HRd.out hdr.out.size [(⟨1, BE, BE + y1, y0, 0, [], 0⟩ : Ev)] (by rfl) (by decide) (by rfl) (by rfl) hM1 hM2 ?_; intro v3 w3 r3 b3; have hw3 := HS2.out w3 (hdr.out.trans b3)))
          all_goals
            obtain ⟨e0, e1, _⟩ := hw3
            go_wp2
            go_roundw
            case rel => exact ⟨k + 1, by omega, val_int (by omega), by rw [HN.out], Lib.hid (by rw [HLw.out]; exact r3), Lib.hid (hdr.out.trans b3)⟩
            case measure => simp [intOf]; omega
        · have he : R.take k = R := List.take_of_length_le (by omega)
          rw [he] at HR2
          clear he
          have hbw := Lib.hid (B1.out.trans (hb2.mono B1.out.size))
          have RW := Lib.hid (R1.out.keep hb2)
          obtain ⟨z0, z1, z2⟩ := row3 RW.out
          have lw := RW.out.lt
          obtain ⟨UA, UN, UC, rfl, hUN⟩ := HR2.out.form
          clear hUN
          have HRa := Lib.hid (HR2.out.arg evC_size)
          generalize B + lg (R.take k) = BEnd at *
          go_wp2_with (first
            | (go_at_call 42; go_must (refine (CD'.out _ _ HRa.out).mono ?_; rintro e7 w7 ⟨V7, rfl, v7, k7⟩; have BW7 := Lib.hid (hbw.out.trans (k7.mono hbw.out.size)); have RW7 := Lib.hid (RW.out.keep k7); obtain ⟨z0, z1, z2⟩ := row3 RW7.out; have lw7 := RW7.out.lt; have HA7 := Lib.hid (v7.arg evC_size); obtain ⟨A7, c7, rfl, hA7⟩ := v7.arg evC_size; clear hA7))
            | (go_at_call 39; go_must (refine (CX.out _ BW7.out).mono ?_; rintro e8 w8 ⟨V8, rfl, v8, k8⟩; have BW8 := Lib.hid (BW7.out.trans (k8.mono BW7.out.size)); have HA8 := Lib.hid (HA7.out.keep k8); obtain ⟨A8, c8, rfl, hA8⟩ := v8.arg evC_size; have H8 := Lib.hid hA8; clear hA8))
            | fail)
          obtain ⟨A7', c7', eA7, hA7⟩ := HA8.out
          simp only [Value.slice.injEq] at eA7
          obtain ⟨rfl, _, rfl⟩ := eA7
          have H7 := Lib.hid hA7
          clear hA7 HA8
          clear v7 k7 v8 HA7 HRa HR2 HR HB2 HB6 hb2 CD' CX CE CL RW RW7 z0 z1 z2
          go_loopw [17] (fun i wr => ∃ (k m : Nat), k ≤ Wt.length ∧ i = .int .i64 k ∧ Hid (Below w8.heap.size w8 wr)) (fun i _ => Wt.length - (intOf i).toNat)
          case atStart => exact ⟨0, 0, Nat.zero_le _, rfl, Lib.hid (Below.refl _ _)⟩
          case round =>
            obtain ⟨i, m, hi, rfl, HB9⟩ := hrel
            have hb9 := HB9.out
            by_cases hil : i < Wt.length
            · have hqm : P.length + i < M.length := by have := HMl.out; omega
              obtain ⟨g7, o7, rfl, hg7, hc7⟩ := H7.out (by omega)
              obtain ⟨g8, o8, rfl, hg8, hc8⟩ := H8.out (by omega)
              have hmq := HMq.out i hil hqm
              have hbd := HWB.out Wt[i] (List.getElem_mem hil)
              obtain ⟨q, hq⟩ : ∃ q, q = P.length + i := ⟨_, rfl⟩
              have hqm' : q < M.length := by omega
              obtain ⟨a0, a1, a2, a3, a4, a5, a6⟩ := arg_seven hc7 q hqm'
              have hMq : M[q] = shE B Wt[i] := by subst hq; exact hmq
              rw [hMq] at a0 a1 a2 a3 a4 a5 a6
              obtain ⟨b0, b1, b2', b3, b4, b5, b6⟩ := arg_seven hc8 i hil
              have g7w : g7 < w8.heap.size := hg7
              have f0 := (hb9.cell (p := ⟨g7, o7 + q * 7, none⟩) g7w).trans a0
              have f1 := (hb9.cell (p := ⟨g7, o7 + q * 7 + 1, none⟩) g7w).trans a1
              have f2 := (hb9.cell (p := ⟨g7, o7 + q * 7 + 2, none⟩) g7w).trans a2
              have f3 := (hb9.cell (p := ⟨g7, o7 + q * 7 + 3, none⟩) g7w).trans a3
              have f4 := (hb9.cell (p := ⟨g7, o7 + q * 7 + 4, none⟩) g7w).trans a4
              have f5 := (hb9.cell (p := ⟨g7, o7 + q * 7 + 5, none⟩) g7w).trans a5
              have f6 := (hb9.cell (p := ⟨g7, o7 + q * 7 + 6, none⟩) g7w).trans a6
              have s0 := (hb9.cell (p := ⟨g8, o8 + i * 7, none⟩) hg8).trans b0
              have s1 := (hb9.cell (p := ⟨g8, o8 + i * 7 + 1, none⟩) hg8).trans b1
              have s2 := (hb9.cell (p := ⟨g8, o8 + i * 7 + 2, none⟩) hg8).trans b2'
              have s3 := (hb9.cell (p := ⟨g8, o8 + i * 7 + 3, none⟩) hg8).trans b3
              have s4 := (hb9.cell (p := ⟨g8, o8 + i * 7 + 4, none⟩) hg8).trans b4
              have s5 := (hb9.cell (p := ⟨g8, o8 + i * 7 + 5, none⟩) hg8).trans b5
              have s6 := (hb9.cell (p := ⟨g8, o8 + i * 7 + 6, none⟩) hg8).trans b6
              have hgw7 : g7 < wr.heap.size := Nat.lt_of_lt_of_le hg7 hb9.size
              have hgw8 : g8 < wr.heap.size := Nat.lt_of_lt_of_le hg8 hb9.size
              have Q := fun W => neq_ev Wt[i].k Wt[i].f Wt[i].t Wt[i].v Wt[i].a ⟨Wt[i].d.toArray⟩ Wt[i].u Wt[i].k Wt[i].f Wt[i].t Wt[i].v Wt[i].a ⟨Wt[i].d.toArray⟩ Wt[i].u W
              rw [elem_eqF, decide_eq_true rfl] at Q
              simp only [shE] at f0 f1 f2 f3 f4 f5 f6
              have w6 : IntKind.i64.wrap (pn + (i : Int)) = (q : Int) := by rw [HPN.out, IntWalk.i64_in _ (by omega)]; omega
              unfold evBd at hbd
              clear hc7 hc8 a0 a1 a2 a3 a4 a5 a6 b0 b1 b2' b3 b4 b5 b6 hmq hMq hqm
              generalize (⟨Wt[i].d.toArray⟩ : ByteArray) = x5 at *
              generalize Wt[i].k = x0 at *
              generalize Wt[i].f = x1 at *
              generalize Wt[i].t = x2 at *
              generalize Wt[i].v = x3 at *
              generalize Wt[i].a = x4 at *
              generalize Wt[i].u = x6 at *
              obtain ⟨F1, hF1⟩ : ∃ x, x = x1 + B := ⟨_, rfl⟩
              obtain ⟨F2, hF2⟩ : ∃ x, x = x2 + B := ⟨_, rfl⟩
              rw [← hF1] at f1; rw [← hF2] at f2
              have w7' : IntKind.i64.wrap (F1 - B) = x1 := by rw [hF1, IntWalk.i64_in _ (by omega)]; omega
              have w8' : IntKind.i64.wrap (F2 - B) = x2 := by rw [hF2, IntWalk.i64_in _ (by omega)]; omega
              have hq0 : (0 : Int) ≤ q := by omega
              have hq1 : (q : Int) < M.length := by omega
              have hi0 : (0 : Int) ≤ i := by omega
              have hi1 : (i : Int) < Wt.length := by omega
              clear hF1 hF2 hbd hq
              go_wp2
              go_quiet (fail)
              go_wp2
              go_roundw
              case rel => exact ⟨i + 1, 0, by omega, val_int (by omega), Lib.hid (by (repeat' (first | with_reducible exact Below.refl _ _ | with_reducible exact Nat.le_refl _ | with_reducible assumption | with_reducible refine below_drewN ?_ _ | with_reducible refine Below.drew ?_ | with_reducible refine Below.trans ?_ (Below.mono (by assumption) ?_) | with_reducible refine Below.alloc ?_ ?_ _ | with_reducible refine Below.setCell ?_ ?_ _ | with_reducible refine le_setCell ?_ _ _ | with_reducible refine le_alloc ?_ _ | with_reducible refine le_drewN ?_ _ | with_reducible refine le_drew ?_ | with_reducible refine Nat.le_trans ?_ (Below.size (by assumption)) | (simp only [World.size_alloc, World.size_setCell]; omega) | omega)))⟩
              case measure => simp [intOf]; omega
            · have B9 := Lib.hid (BW8.out.trans (hb9.mono BW8.out.size))
              go_wp2_with (first
                | (go_at_call 36; go_must (refine (CA.out _).mono ?_; rintro e7 w7 ⟨rfl, b7⟩; have BB := Lib.hid (B9.out.trans (b7.mono B9.out.size))))
                | fail)
              go_returns
              exact ⟨rfl, BB.out⟩

end Go.Proofs.Ytmbeaagpjpphhaa

namespace Go.Proofs.Ytmbeaagpjpphhaa
open Go Go.RowKit Go.Joins
open Sw (Rn RnRow RnArg rnC lg lg_append)
set_option linter.unusedVariables false

theorem law_resumes17 (N D : Int) (z : Bool) (A : List Rn) (l : List It) (VA V : Value) (w : World) (hN0 : -9223372036854775808 ≤ N) (hN1 : N ≤ 9223372036854775807) (hD0 : -9223372036854775808 ≤ D) (hD1 : D ≤ 9223372036854775807) (hTA : RnArg w VA A) (hT : ItArg w V l) (hl : l.length ≤ 140737488351232) (hd : ∀ j (h : j < l.length), l[j].d.size ≤ 140737488351232) :
    Calls Try.prog 15 #[.agg (manA N D z), VA, V] w fun e w' => e = .returned (.bool true) ∧ Below w.heap.size w w' := by
  by_cases hh : menE N D l ≠ 0 ∨ 200 < A.length ∨ 549755813888 < lg (menR N D z l)
  · exact res_not N D z A l VA V w hN0 hN1 hD0 hD1 hTA hT hl hd hh
  have he : menE N D l = 0 := Classical.not_not.1 fun h => hh (.inl h)
  have h2 : A.length ≤ 200 := Nat.le_of_not_lt fun h => hh (.inr (.inl h))
  have h3 : lg (menR N D z l) ≤ 549755813888 := Int.not_lt.1 fun h => hh (.inr (.inr h))
  obtain ⟨hB, hk, hm, _, _, hv⟩ := menR_ok z he
  obtain ⟨n1, n2, n3⟩ := menR_nn N D z l
  have hwl : (meL N D z l) = (mnR z N D (lvL 0 (menR N D z l))).o := by unfold meL; rw [if_pos he]
  obtain ⟨P, hP⟩ : ∃ P, (∀ r ∈ A, ahP r) → (mnR z N D (lvL 0 A ++ lvL (lg A) (menR N D z l))).o = P ++ (meL N D z l).map (shE (lg A)) := by
    by_cases hA : ∀ r ∈ A, ahP r
    · have ha := ah_lg hA
      obtain ⟨P, hP⟩ := resume z he A (fun r hr => ⟨(hA r hr).1, (hA r hr).2.1⟩) (by omega)
      exact ⟨P, fun _ => hP⟩
    · exact ⟨[], fun h => absurd h hA⟩
  have hlen : (lvL 0 A ++ lvL (lg A) (menR N D z l)).length ≤ 1099511627776 := by rw [List.length_append, lvL_len, lvL_len]; omega
  have hdl : ∀ j (h : j < (lvL 0 A ++ lvL (lg A) (menR N D z l)).length), (lvL 0 A ++ lvL (lg A) (menR N D z l))[j].d.length ≤ 140737488351232 := by
    intro j hj
    by_cases hjl : j < (lvL 0 A).length
    · rw [List.getElem_append_left hjl]; exact lvL_d 0 A j hjl
    · rw [List.getElem_append_right (by omega)]; exact lvL_d _ _ _ _
  have hform := hT
  obtain ⟨AI, cI, eV, _⟩ := hform
  refine res_main N D z A (menR N D z l) VA V w _ (meL N D z l) P hTA h2 n1 n3 h3 (lg (menR N D z l)) rfl ?_ ?_ ?_ ?_ hP ?_ ?_ ⟨AI, _, cI, eV⟩
  · intro W hb
    have := encode17_any N D z l V W hN0 hN1 hD0 hD1 (hT.keep hb) hl hd
    rw [he] at this; exact this
  · intro V W h
    have := Sw.refLong_any (menR N D z l) V W h
    rw [show Sw.lgV (menR N D z l) = lg (menR N D z l) by unfold Sw.lgV; rw [if_pos hv]] at this
    exact this
  · intro W hb
    have := expect17_any N D z l V W hN0 hN1 hD0 hD1 (hT.keep hb) hl hd
    rw [he] at this; exact this
  · intro _ V W h
    exact manDecode_any N D z _ V W h hB hk hlen hdl
  · exact Nat.le_trans (mnR_len z N D _) hlen
  · rw [hwl]; exact mn_out hB _

end Go.Proofs.Ytmbeaagpjpphhaa
