/-
  The walks of slices.IsSortedFunc over events, and of Ordered.
-/
import Derived.Test.YtiimdkamgehioaaDoorA4
import Derived.Test.YtiimdkamgehioaaDoorA6
namespace Go.Proofs.YtiimdkamgehioaaDoor
open Go Go.RowKit Go.Joins
set_option linter.unusedVariables false
set_option linter.unusedSimpArgs false

open Classical in
noncomputable def oB (l : List Ev) : Bool := decide (oE l)
open Classical in
theorem oB_false {l : List Ev} {m : Nat} (h : m + 1 < l.length) (hl : lE l[m + 1] l[m] = true) : oB l = false := by
  unfold oB
  rw [decide_eq_false_iff_not, oE_iff]
  intro h2
  rw [h2 m h] at hl
  cases hl
open Classical in
theorem oB_true {l : List Ev} (h : ∀ m (hm : m + 1 < l.length), lE l[m + 1] l[m] = false) : oB l = true := by
  unfold oB
  rw [decide_eq_true_eq, oE_iff]
  exact h
theorem held_two {w W W' : World} {g1 o1 m : Nat} {x0 x1 x2 x3 x4 x6 y0 y1 y2 y3 y4 y6 : Int} {x5 y5 : ByteArray} (h : W.cell? ⟨g1, o1 + (m + 1) * 7, none⟩ = some (.int .i64 x0) ∧ W.cell? ⟨g1, o1 + (m + 1) * 7 + 1, none⟩ = some (.int .i64 x1) ∧ W.cell? ⟨g1, o1 + (m + 1) * 7 + 2, none⟩ = some (.int .i64 x2) ∧ W.cell? ⟨g1, o1 + (m + 1) * 7 + 3, none⟩ = some (.int .i64 x3) ∧ W.cell? ⟨g1, o1 + (m + 1) * 7 + 4, none⟩ = some (.int .i64 x4) ∧ W.cell? ⟨g1, o1 + (m + 1) * 7 + 5, none⟩ = some (.string x5) ∧ W.cell? ⟨g1, o1 + (m + 1) * 7 + 6, none⟩ = some (.int .i64 x6) ∧ W.cell? ⟨g1, o1 + m * 7, none⟩ = some (.int .i64 y0) ∧ W.cell? ⟨g1, o1 + m * 7 + 1, none⟩ = some (.int .i64 y1) ∧ W.cell? ⟨g1, o1 + m * 7 + 2, none⟩ = some (.int .i64 y2) ∧ W.cell? ⟨g1, o1 + m * 7 + 3, none⟩ = some (.int .i64 y3) ∧ W.cell? ⟨g1, o1 + m * 7 + 4, none⟩ = some (.int .i64 y4) ∧ W.cell? ⟨g1, o1 + m * 7 + 5, none⟩ = some (.string y5) ∧ W.cell? ⟨g1, o1 + m * 7 + 6, none⟩ = some (.int .i64 y6) ∧ Below w.heap.size w W ∧ g1 < W.heap.size) (hb : Below W.heap.size W W') : W'.cell? ⟨g1, o1 + (m + 1) * 7, none⟩ = some (.int .i64 x0) ∧ W'.cell? ⟨g1, o1 + (m + 1) * 7 + 1, none⟩ = some (.int .i64 x1) ∧ W'.cell? ⟨g1, o1 + (m + 1) * 7 + 2, none⟩ = some (.int .i64 x2) ∧ W'.cell? ⟨g1, o1 + (m + 1) * 7 + 3, none⟩ = some (.int .i64 x3) ∧ W'.cell? ⟨g1, o1 + (m + 1) * 7 + 4, none⟩ = some (.int .i64 x4) ∧ W'.cell? ⟨g1, o1 + (m + 1) * 7 + 5, none⟩ = some (.string x5) ∧ W'.cell? ⟨g1, o1 + (m + 1) * 7 + 6, none⟩ = some (.int .i64 x6) ∧ W'.cell? ⟨g1, o1 + m * 7, none⟩ = some (.int .i64 y0) ∧ W'.cell? ⟨g1, o1 + m * 7 + 1, none⟩ = some (.int .i64 y1) ∧ W'.cell? ⟨g1, o1 + m * 7 + 2, none⟩ = some (.int .i64 y2) ∧ W'.cell? ⟨g1, o1 + m * 7 + 3, none⟩ = some (.int .i64 y3) ∧ W'.cell? ⟨g1, o1 + m * 7 + 4, none⟩ = some (.int .i64 y4) ∧ W'.cell? ⟨g1, o1 + m * 7 + 5, none⟩ = some (.string y5) ∧ W'.cell? ⟨g1, o1 + m * 7 + 6, none⟩ = some (.int .i64 y6) ∧ Below w.heap.size w W' ∧ g1 < W'.heap.size := by
  obtain ⟨a0, a1, a2, a3, a4, a5, a6, b0, b1, b2, b3, b4, b5, b6, hB, l1⟩ := h
  have hs := hb.size
  have hB' : Below w.heap.size w W' := hB.trans (hb.mono hB.size)
  exact ⟨(hb.cell l1).trans a0, (hb.cell l1).trans a1, (hb.cell l1).trans a2, (hb.cell l1).trans a3, (hb.cell l1).trans a4, (hb.cell l1).trans a5, (hb.cell l1).trans a6, (hb.cell l1).trans b0, (hb.cell l1).trans b1, (hb.cell l1).trans b2, (hb.cell l1).trans b3, (hb.cell l1).trans b4, (hb.cell l1).trans b5, (hb.cell l1).trans b6, hB', by omega⟩

set_option maxRecDepth 20000 in
set_option maxHeartbeats 4000000 in
theorem issorted_any (l : List Ev) (V : Value) (w : World) (h1 : EvArg w V l) (hl : l.length ≤ 1000) :
    Calls Tryd.prog 48 #[V, .func (.func 31) #[] #[]] w fun e w' => e = .returned (.bool (oB l)) ∧ Below w.heap.size w w' := by
  obtain ⟨A1, c1, rfl, h1⟩ := h1
  have hl' : (l.length : Int) ≤ 1000 := by omega
  have H1 := Lib.hid h1
  have HF := Lib.hid (fun m h hl => oB_false (l := l) (m := m) h hl)
  have HT := Lib.hid (fun h => oB_true (l := l) h)
  clear h1
  generalize oB l = R at *
  go_enter Tryd.func48, Tryd.ntmps48
  go_wp2
  go_loopw [5] (fun x wr => ∃ (k : Int), (k = -1 ∧ l.length = 0 ∨ 0 ≤ k ∧ k < l.length) ∧ x = .int .i64 k ∧ Hid (∀ m (hm : m + 1 < l.length), k ≤ m → lE l[m + 1] l[m] = false) ∧ Hid (Below w.heap.size w wr)) (fun x _ => (intOf x).toNat)
  case atStart => exact ⟨(l.length : Int) - 1, by omega, rfl, Lib.hid (fun m hm h => by omega), Lib.hid (Below.refl _ _)⟩
  case round =>
    obtain ⟨k, hk, rfl, HZ, HB⟩ := hrel
    have hb := HB.out
    by_cases hpos : 0 < k
    · obtain ⟨m, rfl⟩ : ∃ m : Nat, k = (m : Int) + 1 := ⟨(k - 1).toNat, by omega⟩
      have hm : m + 1 < l.length := by omega
      have hm1 : (m : Int) + 1 < l.length := by omega
      have hm2 : (m : Int) < l.length := by omega
      have hi0 : (0 : Int) ≤ (m : Int) := by omega
      have hi1 : (0 : Int) < (m : Int) + 1 := by omega
      have hi3 : (0 : Int) ≤ (m : Int) + 1 := by omega
      have hi4 : ((m : Int) + 1).toNat = m + 1 := by omega
      have hw1 : IntKind.i64.wrap ((m : Int) + 1 - 1) = (m : Int) := by rw [Int.add_sub_cancel]; exact IntWalk.i64_in _ (by omega)
      have hw2 : IntKind.i64.wrap (m : Int) = (m : Int) := IntWalk.i64_in _ (by omega)
      obtain ⟨g1, o1, rfl, hg1, hc1⟩ := H1.out (by omega)
      have H2 : ∀ j (hj : j < l.length) i, i < 7 → wr.cell? ⟨g1, o1 + j * 7 + i, none⟩ = (evC l[j])[i]? := fun j hj i hi => (hb.cell (p := ⟨g1, o1 + j * 7 + i, none⟩) hg1).trans (hc1 j hj i hi)
      obtain ⟨a0, a1, a2, a3, a4, a5, a6⟩ := arg_seven H2 (m + 1) hm
      obtain ⟨b0, b1, b2, b3, b4, b5, b6⟩ := arg_seven H2 m (by omega)
      have hgr : g1 < wr.heap.size := Nat.lt_of_lt_of_le hg1 hb.size
      have CC := fun W => compare_xy l[m + 1].k l[m + 1].f l[m + 1].t l[m + 1].v l[m + 1].a ⟨l[m + 1].d.toArray⟩ l[m + 1].u l[m].k l[m].f l[m].t l[m].v l[m].a ⟨l[m].d.toArray⟩ l[m].u W
      have hneg := cpE_neg l[m + 1] l[m]
      have hcc : cpE ⟨l[m + 1].k, l[m + 1].f, l[m + 1].t, l[m + 1].v, l[m + 1].a, (⟨l[m + 1].d.toArray⟩ : ByteArray).data.toList, l[m + 1].u⟩ ⟨l[m].k, l[m].f, l[m].t, l[m].v, l[m].a, (⟨l[m].d.toArray⟩ : ByteArray).data.toList, l[m].u⟩ = cpE l[m + 1] l[m] := rfl
      rw [hcc] at CC
      have HC := Lib.hid CC
      have HFm := Lib.hid (HF.out m hm)
      have HZm := Lib.hid (fun (h : lE l[m + 1] l[m] = false) (j : Nat) (hj : j + 1 < l.length) (hkj : (m : Int) ≤ j) => (by
        by_cases e : j = m
        · subst e; exact h
        · exact HZ.out j hj (by omega) : lE l[j + 1] l[j] = false))
      clear hc1 H2 CC hcc HZ HF
      generalize cpE l[m + 1] l[m] = z at *
      generalize hlt : lE l[m + 1] l[m] = L at *
      clear hlt
      generalize (⟨l[m + 1].d.toArray⟩ : ByteArray) = x5 at *; generalize l[m + 1].k = x0 at *; generalize l[m + 1].f = x1 at *; generalize l[m + 1].t = x2 at *; generalize l[m + 1].v = x3 at *; generalize l[m + 1].a = x4 at *; generalize l[m + 1].u = x6 at *
      generalize (⟨l[m].d.toArray⟩ : ByteArray) = y5 at *; generalize l[m].k = y0 at *; generalize l[m].f = y1 at *; generalize l[m].t = y2 at *; generalize l[m].v = y3 at *; generalize l[m].a = y4 at *; generalize l[m].u = y6 at *
      have HS := Lib.hid (show wr.cell? ⟨g1, o1 + (m + 1) * 7, none⟩ = some (.int .i64 x0) ∧ wr.cell? ⟨g1, o1 + (m + 1) * 7 + 1, none⟩ = some (.int .i64 x1) ∧ wr.cell? ⟨g1, o1 + (m + 1) * 7 + 2, none⟩ = some (.int .i64 x2) ∧ wr.cell? ⟨g1, o1 + (m + 1) * 7 + 3, none⟩ = some (.int .i64 x3) ∧ wr.cell? ⟨g1, o1 + (m + 1) * 7 + 4, none⟩ = some (.int .i64 x4) ∧ wr.cell? ⟨g1, o1 + (m + 1) * 7 + 5, none⟩ = some (.string x5) ∧ wr.cell? ⟨g1, o1 + (m + 1) * 7 + 6, none⟩ = some (.int .i64 x6) ∧ wr.cell? ⟨g1, o1 + m * 7, none⟩ = some (.int .i64 y0) ∧ wr.cell? ⟨g1, o1 + m * 7 + 1, none⟩ = some (.int .i64 y1) ∧ wr.cell? ⟨g1, o1 + m * 7 + 2, none⟩ = some (.int .i64 y2) ∧ wr.cell? ⟨g1, o1 + m * 7 + 3, none⟩ = some (.int .i64 y3) ∧ wr.cell? ⟨g1, o1 + m * 7 + 4, none⟩ = some (.int .i64 y4) ∧ wr.cell? ⟨g1, o1 + m * 7 + 5, none⟩ = some (.string y5) ∧ wr.cell? ⟨g1, o1 + m * 7 + 6, none⟩ = some (.int .i64 y6) ∧ Below w.heap.size w wr ∧ g1 < wr.heap.size from ⟨a0, a1, a2, a3, a4, a5, a6, b0, b1, b2, b3, b4, b5, b6, hb, hgr⟩)
      go_wp2
      go_region_held3 (fun w' => w'.cell? ⟨g1, o1 + (m + 1) * 7, none⟩ = some (.int .i64 x0) ∧ w'.cell? ⟨g1, o1 + (m + 1) * 7 + 1, none⟩ = some (.int .i64 x1) ∧ w'.cell? ⟨g1, o1 + (m + 1) * 7 + 2, none⟩ = some (.int .i64 x2) ∧ w'.cell? ⟨g1, o1 + (m + 1) * 7 + 3, none⟩ = some (.int .i64 x3) ∧ w'.cell? ⟨g1, o1 + (m + 1) * 7 + 4, none⟩ = some (.int .i64 x4) ∧ w'.cell? ⟨g1, o1 + (m + 1) * 7 + 5, none⟩ = some (.string x5) ∧ w'.cell? ⟨g1, o1 + (m + 1) * 7 + 6, none⟩ = some (.int .i64 x6) ∧ w'.cell? ⟨g1, o1 + m * 7, none⟩ = some (.int .i64 y0) ∧ w'.cell? ⟨g1, o1 + m * 7 + 1, none⟩ = some (.int .i64 y1) ∧ w'.cell? ⟨g1, o1 + m * 7 + 2, none⟩ = some (.int .i64 y2) ∧ w'.cell? ⟨g1, o1 + m * 7 + 3, none⟩ = some (.int .i64 y3) ∧ w'.cell? ⟨g1, o1 + m * 7 + 4, none⟩ = some (.int .i64 y4) ∧ w'.cell? ⟨g1, o1 + m * 7 + 5, none⟩ = some (.string y5) ∧ w'.cell? ⟨g1, o1 + m * 7 + 6, none⟩ = some (.int .i64 y6) ∧ Below w.heap.size w w' ∧ g1 < w'.heap.size) (first | assumption | exact held_two HS.out (Below.refl _ _).drew | exact held_two (by assumption) ((ba _ _).drew) | exact held_two (by assumption) (Below.refl _ _).drew | fail)
        (first | (go_at_call 31; refine (HC.out _).mono ?_; rintro e1 w1 ⟨rfl, b1, d1⟩; have h1 := held_two (by assumption) b1))
      rename_i hS1
      have HB1 := Lib.hid hS1.2.2.2.2.2.2.2.2.2.2.2.2.2.2.1
      clear hS1 HS a0 a1 a2 a3 a4 a5 a6 b0 b1 b2 b3 b4 b5 b6
      cases L
      · have hz : ¬ z < 0 := by simpa using hneg
        have hz2 := decide_eq_false hz
        go_wp2
        go_roundw
        case rel => exact ⟨m, by omega, by go_num, Lib.hid (HZm.out rfl), HB1⟩
        case measure => simp [intOf]
      · have hz : z < 0 := by simpa using hneg
        have hz2 := decide_eq_true hz
        obtain rfl := HFm.out rfl
        go_wp2
        go_returns
        exact ⟨rfl, HB1.out⟩
    · have hR : R = true := HT.out fun m hm => HZ.out m hm (by omega)
      subst hR
      go_wp2
      go_returns
      exact ⟨rfl, hb⟩

set_option maxHeartbeats 1000000 in
theorem ordered_any (l : List Ev) (V : Value) (w : World) (h1 : EvArg w V l) (hl : l.length ≤ 1000) :
    Calls Tryd.prog 28 #[V] w fun e w' => e = .returned (.bool (oB l)) ∧ Below w.heap.size w w' := by
  have C1 := Lib.hid (issorted_any l V w h1 hl)
  clear h1
  generalize oB l = R at *
  go_enter Tryd.func28, Tryd.ntmps28
  go_wp2_with (go_at_call 48; go_must (refine C1.out.mono ?_; rintro e1 w1 ⟨rfl, b1⟩))
  go_returns
  exact ⟨rfl, b1⟩

end Go.Proofs.YtiimdkamgehioaaDoor
