/-
  The walk of the statement SpanOrders.
-/
import Derived.Test.YtpeiiomimfiebaaW7
import Derived.Test.YtpeiiomimfiebaaW12
import Derived.Test.YtpeiiomimfiebaaK1
import Derived.Deep.RegionHeld3
import Derived.IntWalk
namespace Go.Proofs.Ytpeiiomimfiebaa
open Go Go.RowKit Go.Joins
set_option linter.unusedVariables false
set_option linter.unusedSimpArgs false

/-- The elements from the last down to the place r, each twice. -/
def dbl (l : List Sp) (r : Nat) : List Sp := (l.drop r).reverse.flatMap fun s => [s, s]
theorem dbl_step (l : List Sp) (k : Nat) (hk : k < l.length) : dbl l k = dbl l (k + 1) ++ [l[k], l[k]] := by
  unfold dbl
  rw [List.drop_eq_getElem_cons hk, List.reverse_cons, List.flatMap_append]
  rfl
theorem dbl_end (l : List Sp) : dbl l l.length = [] := by unfold dbl; simp
theorem dbl_mem (l : List Sp) (s : Sp) : s ∈ l ↔ s ∈ dbl l 0 := by unfold dbl; simp
theorem dbl_length (l : List Sp) (r : Nat) : (dbl l r).length = 2 * (l.length - r) := by
  unfold dbl
  generalize hm : (l.drop r).reverse = m
  have h1 : m.length = l.length - r := by rw [← hm]; simp
  rw [← h1]
  clear h1 hm
  induction m with
  | nil => rfl
  | cons a m ih => rw [List.flatMap_cons, List.length_append, ih]; simp; omega
/-- What the region of the first loop holds of the world. -/
theorem held4 {w0 w w' : World} {G o1 o2 : Nat} {v1 v2 : Value}
    (h : w.cell? ⟨G, o1, none⟩ = some v1 ∧ w.cell? ⟨G, o2, none⟩ = some v2 ∧ Below w0.heap.size w0 w ∧ G < w.heap.size) (hb : Below w.heap.size w w') :
    w'.cell? ⟨G, o1, none⟩ = some v1 ∧ w'.cell? ⟨G, o2, none⟩ = some v2 ∧ Below w0.heap.size w0 w' ∧ G < w'.heap.size := by
  obtain ⟨h1, h2, h6, l1⟩ := h
  exact ⟨(hb.cell (p := ⟨G, o1, none⟩) l1).trans h1, (hb.cell (p := ⟨G, o2, none⟩) l1).trans h2, h6.trans (hb.mono h6.size), Nat.lt_of_lt_of_le l1 hb.size⟩

set_option maxRecDepth 20000 in
set_option maxHeartbeats 4000000 in
theorem law_orders (l : List Sp) (v : Value) (w : World) (hT : SpArg w v l) : Calls Try.prog 7 #[v] w fun e w' => e = .returned (.bool true) ∧ Below w.heap.size w w' := by
  have HT := Lib.hid (fun W (hb : Below w.heap.size w W) => KArg.keep hT hb)
  by_cases hn : 100 < l.length
  · obtain ⟨A, c, rfl, hA⟩ := hT
    clear hA HT
    have hn' : (100 : Int) < l.length := by omega
    go_enter Try.func7, Try.ntmps7
    go_wp2_with (first
      | (go_at_call 9; go_must (refine (lives_any _).mono ?_; rintro e1 w1 ⟨rfl, b1⟩)))
    go_returns
    exact ⟨rfl, b1⟩
  have CJ := Lib.hid (fun l' V W h hl => join_any l' V W h hl)
  have CS := Lib.hid (fun J V V' W h1 h2 hl => same_any J V V' W h1 h2 hl)
  have CT := Lib.hid (fun W h => total_any l v W h (by omega))
  obtain ⟨k1, k2, _⟩ := un_all l
  have HP := Lib.hid (tot_part (un l) k1 k2); have HV := Lib.hid (vl_range k2)
  have E1 := Lib.hid (un_same l (dbl l 0) (dbl_mem l)); have E2 := Lib.hid (un_un l)
  have hJl : (un l).length ≤ 100 := Nat.le_trans (un_length l) (by omega)
  have hD := fun r => dbl_length l r
  generalize hJ : un l = J at *
  have HJ := Lib.hid hJ
  clear k1 k2 hJ
  obtain ⟨A, c, rfl, hA⟩ := hT
  have HA := Lib.hid hA
  have hn' : (l.length : Int) ≤ 100 := by omega
  have hJ' : (J.length : Int) ≤ 100 := by omega
  have HD := Lib.hid hD
  clear hA hn hD
  go_enter Try.func7, Try.ntmps7
  go_wp2_with (first
    | (go_at_call 9; go_must (refine (lives_any _).mono ?_; rintro e1 w1 ⟨rfl, b1⟩; have B1 := Lib.hid b1; clear b1)))
  go_loopw [4, 3] (fun x M wr => ∃ (r : Nat) (V : Int), r ≤ l.length ∧ V = r - 1 ∧ x = .int .i64 V ∧ Hid (SpRow wr w.heap.size M (dbl l r)) ∧ Hid (Below w.heap.size w wr)) (fun x _ _ => (intOf x + 1).toNat)
  case atStart => exact ⟨l.length, _, Nat.le_refl _, rfl, by first | rfl | go_num, Lib.hid (by rw [dbl_end]; exact KRow.lit spC_size w1 w.heap.size B1.out.size [] #[] rfl 0 rfl (by simp)), Lib.hid (B1.out.alloc B1.out.size _)⟩
  case round =>
    obtain ⟨r, V, hr, hV, rfl, HR, HB⟩ := hrel
    have hb := HB.out
    cases r with
    | zero =>
      obtain rfl : V = -1 := by omega
      clear hV
      have XM := Lib.hid (HR.out.arg spC_size)
      have hM := HD.out 0
      clear HR
      go_wp2_with (first
        | (go_at_call 17; go_must (refine (CJ.out l _ _ (HT.out _ hb) (by omega)).mono ?_; rintro e2 w2 ⟨U, rfl, r2, b2⟩; rw [HJ.out] at r2; have X2 := Lib.hid (r2.arg spC_size); have B2 := Lib.hid (hb.trans (b2.mono hb.size)); have M2 := Lib.hid (XM.out.keep b2); clear r2)))
      have X2' := X2.out
      obtain ⟨A2, c2, rfl, hA2⟩ := X2'
      have HA2 := Lib.hid hA2
      clear hA2
      go_loopw [7, 6] (fun x n wr2 => ∃ j m : Nat, j ≤ J.length ∧ x = .int .i64 j ∧ n = .int .i64 (tot (J.take j)) ∧ wr2 = w2.drewN m) (fun x _ _ => J.length - (intOf x).toNat)
      case atStart => exact ⟨0, 0, Nat.zero_le _, rfl, rfl, rfl⟩
      case round =>
        obtain ⟨j, m, hj, rfl, rfl, hwr⟩ := hrel
        by_cases hjl : j < J.length
        · obtain ⟨g, o, rfl, hg, hc⟩ := HA2.out (by omega)
          obtain ⟨f0, f1⟩ := arg_two hc j hjl
          clear hc
          have ht : tot (J.take (j + 1)) = tot (J.take j) + (J[j].2 - J[j].1) := by rw [List.take_succ_eq_append_getElem hjl, tot_snoc]
          have h1 := HP.out j
          have h2 := HP.out (j + 1)
          obtain ⟨h3, h4, h5⟩ := HV.out J[j] (List.getElem_mem hjl)
          generalize J[j].1 = x0 at *
          generalize J[j].2 = x1 at *
          rw [ht] at h2
          have HTo := Lib.hid ht
          clear ht
          generalize tot (J.take j) = T at *
          have q1 : ¬ x0 < 0 := by omega
          have q2 : ¬ (1099511627776 : Int) < x1 := by omega
          have q3 : ¬ x1 ≤ x0 := by omega
          have q4 : ¬ (1099511627776 : Int) < T + x1 - x0 := by omega
          have w1' : IntKind.i64.wrap (T + x1) = T + x1 := IntWalk.i64_in _ (by omega)
          have w2' : IntKind.i64.wrap (T + x1 - x0) = T + x1 - x0 := IntWalk.i64_in _ (by omega)
          clear h1 h2 h3 h4 h5
          subst hwr
          go_wp2
          go_quiet (fail)
          go_wp2
          go_quiet (fail)
          go_wp2
          go_roundw
          case rel => exact ⟨j + 1, _, by omega, by go_num, val_int (by rw [HTo.out]; omega), rfl⟩
          case measure => simp [intOf]; omega
        · have he : J.take j = J := List.take_of_length_le (by omega)
          rw [he]
          have BW := Lib.hid (show Below w2.heap.size w2 (w2.drewN m) from Go.below_drewN (Below.refl _ _) _)
          have XJ := Lib.hid (X2.out.keep BW.out)
          have XMm := Lib.hid (M2.out.keep BW.out)
          have BB := Lib.hid (B2.out.trans (BW.out.mono B2.out.size))
          subst hwr
          clear BW X2 M2 XM B2
          generalize w2.drewN m = W at *
          generalize tot J = T at *
          go_wp2_with (first
            | (go_at_call 17; go_must (first
                | (refine (CJ.out J _ _ X4.out (by omega)).mono ?_; rintro e5 w5 ⟨U5, rfl, r5, b5⟩; rw [E2.out] at r5; have X5 := Lib.hid (r5.arg spC_size); have J5 := Lib.hid (X4.out.keep b5); have B5 := Lib.hid (B4.out.trans (b5.mono B4.out.size)); clear r5)
                | (refine (CJ.out (dbl l 0) _ _ XMm.out (by omega)).mono ?_; rintro e3 w3 ⟨U3, rfl, r3, b3⟩; rw [← E1.out] at r3; have X3 := Lib.hid (r3.arg spC_size); have J3 := Lib.hid (XJ.out.keep b3); have B3 := Lib.hid (BB.out.trans (b3.mono BB.out.size)); clear r3)))
            | (go_at_call 16; go_must (first
                | (refine (CS.out J _ _ _ X5.out J5.out (by omega)).mono ?_; rintro e6 w6 ⟨rfl, b6⟩; have B6 := Lib.hid (B5.out.trans (b6.mono B5.out.size)))
                | (refine (CS.out J _ _ _ X3.out J3.out (by omega)).mono ?_; rintro e4 w4 ⟨rfl, b4⟩; have X4 := Lib.hid (J3.out.keep b4); have B4 := Lib.hid (B3.out.trans (b4.mono B3.out.size)))))
            | (go_at_call 21; go_must (refine (CT.out _ (HT.out _ B6.out)).mono ?_; rintro e7 w7 ⟨rfl, b7⟩; have B7 := Lib.hid (B6.out.trans (b7.mono B6.out.size)))))
          go_returns
          exact ⟨by first | rfl | simp, B7.out⟩
    | succ k =>
      obtain rfl : V = (k : Int) := by omega
      have hkl : k < l.length := by omega
      obtain ⟨g, o, rfl, hg, hc⟩ := HA.out (by omega)
      obtain ⟨a0, a1⟩ := arg_two hc k hkl
      have HS := Lib.hid (fun W (hW : Below w.heap.size w W) => (show W.cell? ⟨g, o + k * 2, none⟩ = _ ∧ W.cell? ⟨g, o + k * 2 + 1, none⟩ = _ ∧ Below w.heap.size w W from ⟨(hW.cell (p := ⟨g, o + k * 2, none⟩) hg).trans a0, (hW.cell (p := ⟨g, o + k * 2 + 1, none⟩) hg).trans a1, hW⟩))
      clear a0 a1 hc hV
      have hst : dbl l k = dbl l (k + 1) ++ [(l[k].1, l[k].2), (l[k].1, l[k].2)] := dbl_step l k hkl
      have hdl := HD.out (k + 1)
      generalize l[k].1 = x0 at *
      generalize l[k].2 = x1 at *
      have HST := Lib.hid hst
      generalize dbl l (k + 1) = M0 at *
      have hM : M0.length ≤ 200 := by omega
      clear hst hdl
      have hM1 : M0.length + 2 ≤ 140737488355328 := by omega
      have hM2 : (M0.length + 2) * 16 ≤ 140737488355328 := by omega
      obtain ⟨UA, UN, UC, rfl, hUN⟩ := HR.out.form
      clear hUN
      have hi0 : (0 : Int) ≤ (k : Int) := by omega
      have hi1 : (k : Int) < l.length := by omega
      have HRd := Lib.hid (show SpRow wr.drew w.heap.size (.slice UA UN UC) M0 from HR.out)
      have hdr := Lib.hid (show Below w.heap.size w wr.drew from hb.drew)
      go_wp2
      go_region_held3 (fun w' => w'.cell? ⟨g, o + k * 2, none⟩ = some (.int .i64 x0) ∧ w'.cell? ⟨g, o + k * 2 + 1, none⟩ = some (.int .i64 x1) ∧ Below w.heap.size w w') (first | exact HS.out _ hdr.out | assumption | exact HS.out _ (hdr.out.alloc hdr.out.size _) | go_keep)
        ((refine step_append_ks (P := Try.prog) Try.underlying29 span_info rfl (by decide) spC_size (by rfl) (.tmp 21) (.tmp 30) (by rfl) (by rfl) (by rfl) (by rfl) HRd.out hdr.out.size [(x0, x1), (x0, x1)] (by rfl) (by decide) (by rfl) (by rfl) hM1 hM2 ?_; intro v3 w3 r3 b3; have hw3 := HS.out w3 (hdr.out.trans b3)))
      all_goals
        go_wp2
        go_roundw
        case rel => exact ⟨k, (k : Int) - 1, by omega, rfl, by first | rfl | go_num, Lib.hid (by rw [HST.out]; exact r3), Lib.hid (hdr.out.trans b3)⟩
        case measure => first | (simp [intOf]; done) | (simp [intOf]; omega)

end Go.Proofs.Ytpeiiomimfiebaa
