/-
  The walk of the statement SpanApart.
-/
import Derived.Test.YtpeiiomimfiebaaW9
import Derived.Test.YtpeiiomimfiebaaW3
import Derived.Test.YtpeiiomimfiebaaW12
import Derived.Deep.RegionWith
import Derived.Deep.RegionHeld3
import Derived.Deep.CutRange
import Derived.IntWalk
namespace Go.Proofs.Ytpeiiomimfiebaa
open Go Go.RowKit Go.Joins
set_option linter.unusedVariables false
set_option linter.unusedSimpArgs false

theorem Can.step {j : List Sp} (h : Can j) (i : Nat) (hi : i + 1 < j.length) : j[i].2 < j[i + 1].1 := List.pairwise_iff_getElem.1 h.2 i (i + 1) (by omega) hi (by omega)
/-- What regions that draw their order hold of the world: cells of two blocks. -/
theorem heldC {w0 w w' : World} {G b o1 o2 o3 : Nat} {v1 v2 v3 v4 v5 : Value}
    (h : w.cell? ⟨G, o1, none⟩ = some v1 ∧ w.cell? ⟨G, o2, none⟩ = some v2 ∧ w.cell? ⟨G, o3, none⟩ = some v3 ∧ w.cell? ⟨b, 0, none⟩ = some v4 ∧ w.cell? ⟨b, 1, none⟩ = some v5 ∧ Below w0.heap.size w0 w ∧ G < w.heap.size ∧ b < w.heap.size) (hb : Below w.heap.size w w') :
    w'.cell? ⟨G, o1, none⟩ = some v1 ∧ w'.cell? ⟨G, o2, none⟩ = some v2 ∧ w'.cell? ⟨G, o3, none⟩ = some v3 ∧ w'.cell? ⟨b, 0, none⟩ = some v4 ∧ w'.cell? ⟨b, 1, none⟩ = some v5 ∧ Below w0.heap.size w0 w' ∧ G < w'.heap.size ∧ b < w'.heap.size := by
  obtain ⟨h1, h2, h3, h4, h5, h6, l1, l2⟩ := h
  exact ⟨(hb.cell (p := ⟨G, o1, none⟩) l1).trans h1, (hb.cell (p := ⟨G, o2, none⟩) l1).trans h2, (hb.cell (p := ⟨G, o3, none⟩) l1).trans h3, (hb.cell (p := ⟨b, 0, none⟩) l2).trans h4, (hb.cell (p := ⟨b, 1, none⟩) l2).trans h5, h6.trans (hb.mono h6.size), Nat.lt_of_lt_of_le l1 hb.size, Nat.lt_of_lt_of_le l2 hb.size⟩
theorem validB_xy (x y : Int) (w : World) : Calls Try.prog 12 #[.agg #[.int .i64 x, .int .i64 y]] w fun e w' => e = .returned (.bool (vl (x, y))) ∧ Below w.heap.size w w' := (valid_xy x y w).mono fun _ _ ⟨h1, h2⟩ => ⟨h1, by rw [h2]; exact ba w _⟩

set_option maxRecDepth 20000 in
set_option maxHeartbeats 60000000 in
theorem law_apart (l : List Sp) (v : Value) (u z : Int) (w : World) (hT : SpArg w v l) : Calls Try.prog 6 #[v, .agg #[.int .i64 u, .int .i64 z]] w fun e w' => e = .returned (.bool true) ∧ Below w.heap.size w w' := by
  have CV := Lib.hid validB_xy
  have HT := Lib.hid (fun W (hb : Below w.heap.size w W) => KArg.keep hT hb)
  by_cases hn : 200 < l.length
  · obtain ⟨A, c, rfl, hA⟩ := hT
    clear hA HT
    have hn' : (200 : Int) < l.length := by omega
    go_enter Try.func6, Try.ntmps6
    go_wp2_with (first
      | (go_at_call 9; go_must (refine (lives_any _).mono ?_; rintro e1 w1 ⟨rfl, b1⟩)))
    go_returns
    exact ⟨rfl, (by repeat' (first | with_reducible exact Below.refl _ _ | with_reducible exact Nat.le_refl _ | with_reducible assumption | with_reducible refine below_drewN ?_ _ | with_reducible refine Below.drew ?_ | with_reducible refine Below.trans ?_ (Below.mono (by assumption) ?_) | with_reducible refine Below.alloc ?_ ?_ _ | with_reducible refine Below.setCell ?_ ?_ _ | with_reducible refine le_setCell ?_ _ _ | with_reducible refine le_alloc ?_ _ | with_reducible refine le_drewN ?_ _ | with_reducible refine le_drew ?_ | with_reducible refine Nat.le_trans ?_ (Below.size (by assumption)) | (simp only [World.size_alloc, World.size_setCell]; omega)))⟩
  have CJ := Lib.hid (fun W h => join_any l v W h (by omega))
  have CG := Lib.hid (fun W h => gaps_any l v u z W h (by omega))
  obtain ⟨j1, j2, _⟩ := un_all l
  obtain ⟨g1, g2, _⟩ := ga_all l (u, z)
  have HJ1 := Lib.hid (fun i hi => j1.step i hi); have HJ2 := Lib.hid j2
  have HG1 := Lib.hid (fun i hi => g1.step i hi); have HG2 := Lib.hid g2
  have hJl : ((un l).length : Int) ≤ 200 := by have := un_length l; omega
  have hGl : ((ga l (u, z)).length : Int) ≤ 201 := by have := ga_length l (u, z); omega
  clear j1 j2 g1 g2
  generalize un l = J at *
  generalize ga l (u, z) = GA at *
  obtain ⟨A, c, rfl, hA⟩ := hT
  have hn' : (l.length : Int) ≤ 200 := by omega
  clear hA hn
  go_enter Try.func6, Try.ntmps6
  go_upto_region 5 with (first
    | (go_at_call 9; go_must (refine (lives_any _).mono ?_; rintro e1 W ⟨rfl, b1⟩; have R1 := (RowAt.new w 23 #[.int .i64 u, .int .i64 z]).keep b1; have a0 : W.cell? ⟨w.heap.size, 0, none⟩ = some (.int .i64 u) := R1.cell 0; have a1 : W.cell? ⟨w.heap.size, 1, none⟩ = some (.int .i64 z) := R1.cell 1)))
  have BW : Below w.heap.size w W := (by repeat' (first | with_reducible exact Below.refl _ _ | with_reducible exact Nat.le_refl _ | with_reducible assumption | with_reducible refine below_drewN ?_ _ | with_reducible refine Below.drew ?_ | with_reducible refine Below.trans ?_ (Below.mono (by assumption) ?_) | with_reducible refine Below.alloc ?_ ?_ _ | with_reducible refine Below.setCell ?_ ?_ _ | with_reducible refine le_setCell ?_ _ _ | with_reducible refine le_alloc ?_ _ | with_reducible refine le_drewN ?_ _ | with_reducible refine le_drew ?_ | with_reducible refine Nat.le_trans ?_ (Below.size (by assumption)) | (simp only [World.size_alloc, World.size_setCell]; omega)))
  have HB0 := Lib.hid (fun X (hb : Below W.heap.size W X) => (R1.keep hb).cell 0)
  have HB1 := Lib.hid (fun X (hb : Below W.heap.size W X) => (R1.keep hb).cell 1)
  have hlW := R1.lt
  clear R1 b1
  go_cut [5, 6] from 14 to 18 (fun s7 s8 wx => Hid (SpArg wx s7 J) ∧ Hid (SpArg wx s8 GA) ∧ Hid (Below w.heap.size w wx) ∧ Hid (∀ X, Below wx.heap.size wx X → X.cell? ⟨w.heap.size, 0, none⟩ = some (.int .i64 u) ∧ X.cell? ⟨w.heap.size, 1, none⟩ = some (.int .i64 z)))
  case first =>
    go_region_with (first
      | (go_at_call 17; refine (CJ.out _ (HT.out _ (by repeat' (first | with_reducible exact Below.refl _ _ | with_reducible exact Nat.le_refl _ | with_reducible assumption | with_reducible refine below_drewN ?_ _ | with_reducible refine Below.drew ?_ | with_reducible refine Below.trans ?_ (Below.mono (by assumption) ?_) | with_reducible refine Below.alloc ?_ ?_ _ | with_reducible refine Below.setCell ?_ ?_ _ | with_reducible refine le_setCell ?_ _ _ | with_reducible refine le_alloc ?_ _ | with_reducible refine le_drewN ?_ _ | with_reducible refine le_drew ?_ | with_reducible refine Nat.le_trans ?_ (Below.size (by assumption)) | (simp only [World.size_alloc, World.size_setCell]; omega))))).mono ?_; rintro ea wa ⟨ua, rfl, ra, bja⟩; have xa := ra.arg spC_size; clear ra; have ka0 : wa.cell? ⟨w.heap.size, 0, none⟩ = some (.int .i64 u) := HB0.out wa (by repeat' (first | with_reducible exact Below.refl _ _ | with_reducible exact Nat.le_refl _ | with_reducible assumption | with_reducible refine below_drewN ?_ _ | with_reducible refine Below.drew ?_ | with_reducible refine Below.trans ?_ (Below.mono (by assumption) ?_) | with_reducible refine Below.alloc ?_ ?_ _ | with_reducible refine Below.setCell ?_ ?_ _ | with_reducible refine le_setCell ?_ _ _ | with_reducible refine le_alloc ?_ _ | with_reducible refine le_drewN ?_ _ | with_reducible refine le_drew ?_ | with_reducible refine Nat.le_trans ?_ (Below.size (by assumption)) | (simp only [World.size_alloc, World.size_setCell]; omega))); have ka1 : wa.cell? ⟨w.heap.size, 1, none⟩ = some (.int .i64 z) := HB1.out wa (by repeat' (first | with_reducible exact Below.refl _ _ | with_reducible exact Nat.le_refl _ | with_reducible assumption | with_reducible refine below_drewN ?_ _ | with_reducible refine Below.drew ?_ | with_reducible refine Below.trans ?_ (Below.mono (by assumption) ?_) | with_reducible refine Below.alloc ?_ ?_ _ | with_reducible refine Below.setCell ?_ ?_ _ | with_reducible refine le_setCell ?_ _ _ | with_reducible refine le_alloc ?_ _ | with_reducible refine le_drewN ?_ _ | with_reducible refine le_drew ?_ | with_reducible refine Nat.le_trans ?_ (Below.size (by assumption)) | (simp only [World.size_alloc, World.size_setCell]; omega))))
      | (go_at_call 19; refine (CG.out _ (HT.out _ (by repeat' (first | with_reducible exact Below.refl _ _ | with_reducible exact Nat.le_refl _ | with_reducible assumption | with_reducible refine below_drewN ?_ _ | with_reducible refine Below.drew ?_ | with_reducible refine Below.trans ?_ (Below.mono (by assumption) ?_) | with_reducible refine Below.alloc ?_ ?_ _ | with_reducible refine Below.setCell ?_ ?_ _ | with_reducible refine le_setCell ?_ _ _ | with_reducible refine le_alloc ?_ _ | with_reducible refine le_drewN ?_ _ | with_reducible refine le_drew ?_ | with_reducible refine Nat.le_trans ?_ (Below.size (by assumption)) | (simp only [World.size_alloc, World.size_setCell]; omega))))).mono ?_; rintro eb wb ⟨ub, rfl, rb, bgb⟩; have xb := rb.arg spC_size; clear rb; have kb0 : wb.cell? ⟨w.heap.size, 0, none⟩ = some (.int .i64 u) := HB0.out wb (by repeat' (first | with_reducible exact Below.refl _ _ | with_reducible exact Nat.le_refl _ | with_reducible assumption | with_reducible refine below_drewN ?_ _ | with_reducible refine Below.drew ?_ | with_reducible refine Below.trans ?_ (Below.mono (by assumption) ?_) | with_reducible refine Below.alloc ?_ ?_ _ | with_reducible refine Below.setCell ?_ ?_ _ | with_reducible refine le_setCell ?_ _ _ | with_reducible refine le_alloc ?_ _ | with_reducible refine le_drewN ?_ _ | with_reducible refine le_drew ?_ | with_reducible refine Nat.le_trans ?_ (Below.size (by assumption)) | (simp only [World.size_alloc, World.size_setCell]; omega))); have kb1 : wb.cell? ⟨w.heap.size, 1, none⟩ = some (.int .i64 z) := HB1.out wb (by repeat' (first | with_reducible exact Below.refl _ _ | with_reducible exact Nat.le_refl _ | with_reducible assumption | with_reducible refine below_drewN ?_ _ | with_reducible refine Below.drew ?_ | with_reducible refine Below.trans ?_ (Below.mono (by assumption) ?_) | with_reducible refine Below.alloc ?_ ?_ _ | with_reducible refine Below.setCell ?_ ?_ _ | with_reducible refine le_setCell ?_ _ _ | with_reducible refine le_alloc ?_ _ | with_reducible refine le_drewN ?_ _ | with_reducible refine le_drew ?_ | with_reducible refine Nat.le_trans ?_ (Below.size (by assumption)) | (simp only [World.size_alloc, World.size_setCell]; omega)))))
    all_goals
      go_wp2_with fail
      go_meet
      first
        | exact ⟨Lib.hid xa, Lib.hid (xb.keep (by repeat' (first | with_reducible exact Below.refl _ _ | with_reducible exact Nat.le_refl _ | with_reducible assumption | with_reducible refine below_drewN ?_ _ | with_reducible refine Below.drew ?_ | with_reducible refine Below.trans ?_ (Below.mono (by assumption) ?_) | with_reducible refine Below.alloc ?_ ?_ _ | with_reducible refine Below.setCell ?_ ?_ _ | with_reducible refine le_setCell ?_ _ _ | with_reducible refine le_alloc ?_ _ | with_reducible refine le_drewN ?_ _ | with_reducible refine le_drew ?_ | with_reducible refine Nat.le_trans ?_ (Below.size (by assumption)) | (simp only [World.size_alloc, World.size_setCell]; omega)))), Lib.hid (by repeat' (first | with_reducible exact Below.refl _ _ | with_reducible exact Nat.le_refl _ | with_reducible assumption | with_reducible refine below_drewN ?_ _ | with_reducible refine Below.drew ?_ | with_reducible refine Below.trans ?_ (Below.mono (by assumption) ?_) | with_reducible refine Below.alloc ?_ ?_ _ | with_reducible refine Below.setCell ?_ ?_ _ | with_reducible refine le_setCell ?_ _ _ | with_reducible refine le_alloc ?_ _ | with_reducible refine le_drewN ?_ _ | with_reducible refine le_drew ?_ | with_reducible refine Nat.le_trans ?_ (Below.size (by assumption)) | (simp only [World.size_alloc, World.size_setCell]; omega))), Lib.hid (fun X hX => ⟨HB0.out X ((show Below W.heap.size W _ from (by repeat' (first | with_reducible exact Below.refl _ _ | with_reducible exact Nat.le_refl _ | with_reducible assumption | with_reducible refine below_drewN ?_ _ | with_reducible refine Below.drew ?_ | with_reducible refine Below.trans ?_ (Below.mono (by assumption) ?_) | with_reducible refine Below.alloc ?_ ?_ _ | with_reducible refine Below.setCell ?_ ?_ _ | with_reducible refine le_setCell ?_ _ _ | with_reducible refine le_alloc ?_ _ | with_reducible refine le_drewN ?_ _ | with_reducible refine le_drew ?_ | with_reducible refine Nat.le_trans ?_ (Below.size (by assumption)) | (simp only [World.size_alloc, World.size_setCell]; omega)))).trans (hX.mono (Below.size (show Below W.heap.size W _ from (by repeat' (first | with_reducible exact Below.refl _ _ | with_reducible exact Nat.le_refl _ | with_reducible assumption | with_reducible refine below_drewN ?_ _ | with_reducible refine Below.drew ?_ | with_reducible refine Below.trans ?_ (Below.mono (by assumption) ?_) | with_reducible refine Below.alloc ?_ ?_ _ | with_reducible refine Below.setCell ?_ ?_ _ | with_reducible refine le_setCell ?_ _ _ | with_reducible refine le_alloc ?_ _ | with_reducible refine le_drewN ?_ _ | with_reducible refine le_drew ?_ | with_reducible refine Nat.le_trans ?_ (Below.size (by assumption)) | (simp only [World.size_alloc, World.size_setCell]; omega))))))), HB1.out X ((show Below W.heap.size W _ from (by repeat' (first | with_reducible exact Below.refl _ _ | with_reducible exact Nat.le_refl _ | with_reducible assumption | with_reducible refine below_drewN ?_ _ | with_reducible refine Below.drew ?_ | with_reducible refine Below.trans ?_ (Below.mono (by assumption) ?_) | with_reducible refine Below.alloc ?_ ?_ _ | with_reducible refine Below.setCell ?_ ?_ _ | with_reducible refine le_setCell ?_ _ _ | with_reducible refine le_alloc ?_ _ | with_reducible refine le_drewN ?_ _ | with_reducible refine le_drew ?_ | with_reducible refine Nat.le_trans ?_ (Below.size (by assumption)) | (simp only [World.size_alloc, World.size_setCell]; omega)))).trans (hX.mono (Below.size (show Below W.heap.size W _ from (by repeat' (first | with_reducible exact Below.refl _ _ | with_reducible exact Nat.le_refl _ | with_reducible assumption | with_reducible refine below_drewN ?_ _ | with_reducible refine Below.drew ?_ | with_reducible refine Below.trans ?_ (Below.mono (by assumption) ?_) | with_reducible refine Below.alloc ?_ ?_ _ | with_reducible refine Below.setCell ?_ ?_ _ | with_reducible refine le_setCell ?_ _ _ | with_reducible refine le_alloc ?_ _ | with_reducible refine le_drewN ?_ _ | with_reducible refine le_drew ?_ | with_reducible refine Nat.le_trans ?_ (Below.size (by assumption)) | (simp only [World.size_alloc, World.size_setCell]; omega)))))))⟩)⟩
        | exact ⟨Lib.hid (xa.keep (by repeat' (first | with_reducible exact Below.refl _ _ | with_reducible exact Nat.le_refl _ | with_reducible assumption | with_reducible refine below_drewN ?_ _ | with_reducible refine Below.drew ?_ | with_reducible refine Below.trans ?_ (Below.mono (by assumption) ?_) | with_reducible refine Below.alloc ?_ ?_ _ | with_reducible refine Below.setCell ?_ ?_ _ | with_reducible refine le_setCell ?_ _ _ | with_reducible refine le_alloc ?_ _ | with_reducible refine le_drewN ?_ _ | with_reducible refine le_drew ?_ | with_reducible refine Nat.le_trans ?_ (Below.size (by assumption)) | (simp only [World.size_alloc, World.size_setCell]; omega)))), Lib.hid xb, Lib.hid (by repeat' (first | with_reducible exact Below.refl _ _ | with_reducible exact Nat.le_refl _ | with_reducible assumption | with_reducible refine below_drewN ?_ _ | with_reducible refine Below.drew ?_ | with_reducible refine Below.trans ?_ (Below.mono (by assumption) ?_) | with_reducible refine Below.alloc ?_ ?_ _ | with_reducible refine Below.setCell ?_ ?_ _ | with_reducible refine le_setCell ?_ _ _ | with_reducible refine le_alloc ?_ _ | with_reducible refine le_drewN ?_ _ | with_reducible refine le_drew ?_ | with_reducible refine Nat.le_trans ?_ (Below.size (by assumption)) | (simp only [World.size_alloc, World.size_setCell]; omega))), Lib.hid (fun X hX => ⟨HB0.out X ((show Below W.heap.size W _ from (by repeat' (first | with_reducible exact Below.refl _ _ | with_reducible exact Nat.le_refl _ | with_reducible assumption | with_reducible refine below_drewN ?_ _ | with_reducible refine Below.drew ?_ | with_reducible refine Below.trans ?_ (Below.mono (by assumption) ?_) | with_reducible refine Below.alloc ?_ ?_ _ | with_reducible refine Below.setCell ?_ ?_ _ | with_reducible refine le_setCell ?_ _ _ | with_reducible refine le_alloc ?_ _ | with_reducible refine le_drewN ?_ _ | with_reducible refine le_drew ?_ | with_reducible refine Nat.le_trans ?_ (Below.size (by assumption)) | (simp only [World.size_alloc, World.size_setCell]; omega)))).trans (hX.mono (Below.size (show Below W.heap.size W _ from (by repeat' (first | with_reducible exact Below.refl _ _ | with_reducible exact Nat.le_refl _ | with_reducible assumption | with_reducible refine below_drewN ?_ _ | with_reducible refine Below.drew ?_ | with_reducible refine Below.trans ?_ (Below.mono (by assumption) ?_) | with_reducible refine Below.alloc ?_ ?_ _ | with_reducible refine Below.setCell ?_ ?_ _ | with_reducible refine le_setCell ?_ _ _ | with_reducible refine le_alloc ?_ _ | with_reducible refine le_drewN ?_ _ | with_reducible refine le_drew ?_ | with_reducible refine Nat.le_trans ?_ (Below.size (by assumption)) | (simp only [World.size_alloc, World.size_setCell]; omega))))))), HB1.out X ((show Below W.heap.size W _ from (by repeat' (first | with_reducible exact Below.refl _ _ | with_reducible exact Nat.le_refl _ | with_reducible assumption | with_reducible refine below_drewN ?_ _ | with_reducible refine Below.drew ?_ | with_reducible refine Below.trans ?_ (Below.mono (by assumption) ?_) | with_reducible refine Below.alloc ?_ ?_ _ | with_reducible refine Below.setCell ?_ ?_ _ | with_reducible refine le_setCell ?_ _ _ | with_reducible refine le_alloc ?_ _ | with_reducible refine le_drewN ?_ _ | with_reducible refine le_drew ?_ | with_reducible refine Nat.le_trans ?_ (Below.size (by assumption)) | (simp only [World.size_alloc, World.size_setCell]; omega)))).trans (hX.mono (Below.size (show Below W.heap.size W _ from (by repeat' (first | with_reducible exact Below.refl _ _ | with_reducible exact Nat.le_refl _ | with_reducible assumption | with_reducible refine below_drewN ?_ _ | with_reducible refine Below.drew ?_ | with_reducible refine Below.trans ?_ (Below.mono (by assumption) ?_) | with_reducible refine Below.alloc ?_ ?_ _ | with_reducible refine Below.setCell ?_ ?_ _ | with_reducible refine le_setCell ?_ _ _ | with_reducible refine le_alloc ?_ _ | with_reducible refine le_drewN ?_ _ | with_reducible refine le_drew ?_ | with_reducible refine Nat.le_trans ?_ (Below.size (by assumption)) | (simp only [World.size_alloc, World.size_setCell]; omega)))))))⟩)⟩
  case rest =>
    obtain ⟨XJ, XG, BX, BOX⟩ := hcut
    clear HB0 HB1 CJ CG a0 a1 HT
    have hlc : w.heap.size < wc.heap.size := World.block_lt_of_cell? wc ⟨w.heap.size, 0, none⟩ (BOX.out wc (Below.refl _ _)).1
    have XJ' := XJ.out
    have XG' := XG.out
    obtain ⟨A1, c1, rfl, hA1⟩ := XJ'
    obtain ⟨A2, c2, rfl, hA2⟩ := XG'
    have HA1 := Lib.hid hA1; have HA2 := Lib.hid hA2
    clear XJ XG hA1 hA2
    go_wp2
    go_loopw [7] (fun x wr => ∃ j : Nat, j ≤ J.length ∧ x = .int .i64 j ∧ Hid (Below wc.heap.size wc wr)) (fun x _ => J.length - (intOf x).toNat)
    case atStart => exact ⟨0, Nat.zero_le _, rfl, Lib.hid (Below.refl _ _)⟩
    case round =>
      skip
      obtain ⟨j, hj, rfl, HB⟩ := hrel
      have hb := HB.out
      by_cases hjl : j < J.length
      · obtain ⟨G, o, rfl, hG, hc⟩ := HA1.out (by omega)
        obtain ⟨a0, a1⟩ := arg_two hc j hjl
        have f0 := (hb.cell (p := ⟨G, o + j * 2, none⟩) hG).trans a0
        have f1 := (hb.cell (p := ⟨G, o + j * 2 + 1, none⟩) hG).trans a1
        obtain ⟨q0, q1⟩ := BOX.out _ hb
        have hvv := HJ2.out J[j] (List.getElem_mem hjl)
        clear a0 a1
        cases j with
        | zero =>
          clear hc
          have hv' := Lib.hid hvv
          generalize hx : J[0] = X at *
          obtain ⟨x0, x1⟩ := X
          have hvv := hv'.out
          simp only [Nat.zero_mul, Nat.add_zero] at hvv f0 f1
          have f3 := f0
          have hv := hvv
          clear hvv hv' hx
          rw [show ((0 : Nat) : Int) = 0 from rfl]
          have hS : wr.drew.cell? ⟨G, o, none⟩ = some (.int .i64 x0) ∧ wr.drew.cell? ⟨G, o + 1, none⟩ = some (.int .i64 x1) ∧ wr.drew.cell? ⟨G, o, none⟩ = some (.int .i64 x0) ∧ wr.drew.cell? ⟨w.heap.size, 0, none⟩ = some (.int .i64 u) ∧ wr.drew.cell? ⟨w.heap.size, 1, none⟩ = some (.int .i64 z) ∧ Below wc.heap.size wc wr.drew ∧ G < wr.drew.heap.size ∧ w.heap.size < wr.drew.heap.size := ⟨f0, f1, f3, q0, q1, hb.drew, Nat.lt_of_lt_of_le hG hb.size, Nat.lt_of_lt_of_le hlc hb.size⟩
          have hs := Lib.hid hS
          have CV1 : Hid (∀ w, Calls Try.prog 12 #[.agg #[.int .i64 x0, .int .i64 x1]] w fun e w' => e = .returned (.bool true) ∧ Below w.heap.size w w') := fun w => by have h := CV.out x0 x1 w; rw [hv] at h; exact h
          clear hS f0 f1 f3 q0 q1 hb
          go_wp2
          refine wp_region_held_drew (S := fun w' => w'.cell? ⟨G, o, none⟩ = some (.int .i64 x0) ∧ w'.cell? ⟨G, o + 1, none⟩ = some (.int .i64 x1) ∧ w'.cell? ⟨G, o, none⟩ = some (.int .i64 x0) ∧ w'.cell? ⟨w.heap.size, 0, none⟩ = some (.int .i64 u) ∧ w'.cell? ⟨w.heap.size, 1, none⟩ = some (.int .i64 z) ∧ Below wc.heap.size wc w' ∧ G < w'.heap.size ∧ w.heap.size < w'.heap.size) (by kernel_rfl) ?_ (fun hH => ?_)
          · exact hs.out
          refine wpAnyH_take (i := 0) (oi := { dst := some 25, op := Go.Op.move (Go.Operand.tmp 5), type := 29, pos := "law.go:87", after := #[], guard := none }) (v := ?_) rfl ?_ ?_ ?_ ?_ (Or.inl ⟨?_, ?_⟩) hH ?_
          rotate_left
          · kernel_rfl
          · kernel_rfl
          · kernel_rfl
          · exact fun _ _ _ h => h
          · kernel_rfl
          · intro wS hSw
            try dsimp only at hSw
            go_simp
            try with_reducible rfl
          try simp only [Act.put, List.setIfInBounds_toArray, List.set_cons_zero, List.set_cons_succ]
          refine wpAnyH_take (i := 1) (oi := { dst := some 26, op := Go.Op.move (Go.Operand.tmp 7), type := 3, pos := "law.go:87", after := #[], guard := none }) (v := ?_) rfl ?_ ?_ ?_ ?_ (Or.inl ⟨?_, ?_⟩) hH ?_
          rotate_left
          · kernel_rfl
          · kernel_rfl
          · kernel_rfl
          · exact fun _ _ _ h => h
          · kernel_rfl
          · intro wS hSw
            try dsimp only at hSw
            go_simp
            try with_reducible rfl
          try simp only [Act.put, List.setIfInBounds_toArray, List.set_cons_zero, List.set_cons_succ]
          refine wpAnyH_take (i := 2) (oi := { dst := some 27, op := Go.Op.indexAddr 29 (Go.Operand.tmp 25) (Go.Operand.tmp 26), type := 0, pos := "law.go:87", after := #[{ on := 0, ground := Go.Ground.data }, { on := 1, ground := Go.Ground.data }], guard := none }) (v := ?_) rfl ?_ ?_ ?_ ?_ (Or.inl ⟨?_, ?_⟩) hH ?_
          rotate_left
          · kernel_rfl
          · kernel_rfl
          · kernel_rfl
          · exact fun _ _ _ h => h
          · kernel_rfl
          · intro wS hSw
            try dsimp only at hSw
            go_simp
            try with_reducible rfl
          try simp only [Act.put, List.setIfInBounds_toArray, List.set_cons_zero, List.set_cons_succ]
          refine wpAnyH_take (i := 3) (oi := { dst := some 28, op := Go.Op.load 23 (Go.Operand.tmp 27), type := 23, pos := "law.go:87", after := #[{ on := 2, ground := Go.Ground.data }], guard := none }) (v := ?_) rfl ?_ ?_ ?_ ?_ (Or.inl ⟨?_, ?_⟩) hH ?_
          rotate_left
          · kernel_rfl
          · kernel_rfl
          · kernel_rfl
          · exact fun _ _ _ h => h
          · kernel_rfl
          · intro wS hSw
            try dsimp only at hSw
            go_simp
            try with_reducible rfl
          try simp only [Act.put, List.setIfInBounds_toArray, List.set_cons_zero, List.set_cons_succ]
          refine wpAnyH_ready (rs := [4]) (by kernel_rfl) (by simp) ?_
          refine AllReadyH.cons rfl (fun K hK => ?_) AllReadyH.nil
          go_simp
          refine (CV1.out _).mono ?_
          rintro e5 w5 ⟨rfl, b5⟩
          try go_wp2_with fail
          refine hK.out _ _ ?_ (fun hH2 => ?_)
          · exact heldC hs.out b5
          clear hK K hH
          try simp only [Act.put, List.setIfInBounds_toArray, List.set_cons_zero, List.set_cons_succ]
          refine wpAnyH_take (i := 5) (oi := { dst := some 30, op := Go.Op.unOp Go.UnOp.not 4 (Go.Operand.tmp 29), type := 4, pos := "law.go:87", after := #[{ on := 4, ground := Go.Ground.data }], guard := none }) (v := ?_) rfl ?_ ?_ ?_ ?_ (Or.inl ⟨?_, ?_⟩) hH2 ?_
          rotate_left
          · kernel_rfl
          · kernel_rfl
          · kernel_rfl
          · exact fun _ _ _ h => h
          · kernel_rfl
          · intro wS hSw
            try dsimp only at hSw
            go_simp
            try with_reducible rfl
          try simp only [Act.put, List.setIfInBounds_toArray, List.set_cons_zero, List.set_cons_succ]
          refine wpAnyH_take (i := 6) (oi := { dst := some 31, op := Go.Op.move (Go.Operand.tmp 30), type := 4, pos := "law.go:87", after := #[{ on := 5, ground := Go.Ground.data }, { on := 4, ground := Go.Ground.chain }], guard := none }) (v := ?_) rfl ?_ ?_ ?_ ?_ (Or.inl ⟨?_, ?_⟩) hH2 ?_
          rotate_left
          · kernel_rfl
          · kernel_rfl
          · kernel_rfl
          · exact fun _ _ _ h => h
          · kernel_rfl
          · intro wS hSw
            try dsimp only at hSw
            go_simp
            try with_reducible rfl
          try simp only [Act.put, List.setIfInBounds_toArray, List.set_cons_zero, List.set_cons_succ]
          refine wpAnyH_take (i := 7) (oi := { dst := some 32, op := Go.Op.move (Go.Operand.tmp 7), type := 3, pos := "law.go:87", after := #[{ on := 6, ground := Go.Ground.guard }], guard := some (6, false) }) (v := ?_) rfl ?_ ?_ ?_ ?_ (Or.inl ⟨?_, ?_⟩) hH2 ?_
          rotate_left
          · kernel_rfl
          · kernel_rfl
          · kernel_rfl
          · exact fun _ _ _ h => h
          · kernel_rfl
          · intro wS hSw
            try dsimp only at hSw
            go_simp
            try with_reducible rfl
          try simp only [Act.put, List.setIfInBounds_toArray, List.set_cons_zero, List.set_cons_succ]
          refine wpAnyH_take (i := 8) (oi := { dst := some 33, op := Go.Op.binOp Go.BinOp.gtr 3 (Go.Operand.tmp 32) (Go.Operand.const (Go.Value.int Go.IntKind.i64 0)) 3, type := 4, pos := "law.go:87", after := #[{ on := 7, ground := Go.Ground.data }, { on := 6, ground := Go.Ground.guard }], guard := some (6, false) }) (v := ?_) rfl ?_ ?_ ?_ ?_ (Or.inl ⟨?_, ?_⟩) hH2 ?_
          rotate_left
          · kernel_rfl
          · kernel_rfl
          · kernel_rfl
          · exact fun _ _ _ h => h
          · kernel_rfl
          · intro wS hSw
            try dsimp only at hSw
            go_simp
            try with_reducible rfl
          try simp only [Act.put, List.setIfInBounds_toArray, List.set_cons_zero, List.set_cons_succ]
          refine wpAnyH_take (i := 9) (oi := { dst := some 34, op := Go.Op.move (Go.Operand.tmp 33), type := 4, pos := "law.go:87", after := #[{ on := 8, ground := Go.Ground.data }, { on := 6, ground := Go.Ground.chain }, { on := 6, ground := Go.Ground.guard }], guard := some (6, false) }) (v := ?_) rfl ?_ ?_ ?_ ?_ (Or.inl ⟨?_, ?_⟩) hH2 ?_
          rotate_left
          · kernel_rfl
          · kernel_rfl
          · kernel_rfl
          · exact fun _ _ _ h => h
          · kernel_rfl
          · intro wS hSw
            try dsimp only at hSw
            go_simp
            try with_reducible rfl
          try simp only [Act.put, List.setIfInBounds_toArray, List.set_cons_zero, List.set_cons_succ]
          refine wpAnyH_take (i := 10) (oi := { dst := some 35, op := Go.Op.move (Go.Operand.tmp 5), type := 29, pos := "law.go:87", after := #[{ on := 9, ground := Go.Ground.guard }], guard := some (9, true) }) (v := undef) rfl ?_ ?_ ?_ ?_ ?_ hH2 ?_
          · kernel_rfl
          · kernel_rfl
          · kernel_rfl
          · exact fun _ _ _ h => h
          · exact Or.inr ⟨by kernel_rfl, rfl⟩
          try simp only [Act.put, List.setIfInBounds_toArray, List.set_cons_zero, List.set_cons_succ]
          refine wpAnyH_take (i := 11) (oi := { dst := some 36, op := Go.Op.move (Go.Operand.tmp 7), type := 3, pos := "law.go:87", after := #[{ on := 9, ground := Go.Ground.guard }], guard := some (9, true) }) (v := undef) rfl ?_ ?_ ?_ ?_ ?_ hH2 ?_
          · kernel_rfl
          · kernel_rfl
          · kernel_rfl
          · exact fun _ _ _ h => h
          · exact Or.inr ⟨by kernel_rfl, rfl⟩
          try simp only [Act.put, List.setIfInBounds_toArray, List.set_cons_zero, List.set_cons_succ]
          refine wpAnyH_take (i := 12) (oi := { dst := some 37, op := Go.Op.indexAddr 29 (Go.Operand.tmp 35) (Go.Operand.tmp 36), type := 0, pos := "law.go:87", after := #[{ on := 10, ground := Go.Ground.data }, { on := 11, ground := Go.Ground.data }, { on := 9, ground := Go.Ground.guard }], guard := some (9, true) }) (v := undef) rfl ?_ ?_ ?_ ?_ ?_ hH2 ?_
          · kernel_rfl
          · kernel_rfl
          · kernel_rfl
          · exact fun _ _ _ h => h
          · exact Or.inr ⟨by kernel_rfl, rfl⟩
          try simp only [Act.put, List.setIfInBounds_toArray, List.set_cons_zero, List.set_cons_succ]
          refine wpAnyH_take (i := 13) (oi := { dst := some 38, op := Go.Op.fieldAddr 23 (Go.Operand.tmp 37) 0, type := 0, pos := "law.go:87", after := #[{ on := 12, ground := Go.Ground.data }, { on := 9, ground := Go.Ground.guard }], guard := some (9, true) }) (v := undef) rfl ?_ ?_ ?_ ?_ ?_ hH2 ?_
          · kernel_rfl
          · kernel_rfl
          · kernel_rfl
          · exact fun _ _ _ h => h
          · exact Or.inr ⟨by kernel_rfl, rfl⟩
          try simp only [Act.put, List.setIfInBounds_toArray, List.set_cons_zero, List.set_cons_succ]
          refine wpAnyH_take (i := 14) (oi := { dst := some 39, op := Go.Op.load 3 (Go.Operand.tmp 38), type := 3, pos := "law.go:87", after := #[{ on := 13, ground := Go.Ground.data }, { on := 9, ground := Go.Ground.guard }], guard := some (9, true) }) (v := undef) rfl ?_ ?_ ?_ ?_ ?_ hH2 ?_
          · kernel_rfl
          · kernel_rfl
          · kernel_rfl
          · exact fun _ _ _ h => h
          · exact Or.inr ⟨by kernel_rfl, rfl⟩
          try simp only [Act.put, List.setIfInBounds_toArray, List.set_cons_zero, List.set_cons_succ]
          refine wpAnyH_take (i := 15) (oi := { dst := some 40, op := Go.Op.move (Go.Operand.tmp 5), type := 29, pos := "law.go:87", after := #[{ on := 9, ground := Go.Ground.guard }], guard := some (9, true) }) (v := undef) rfl ?_ ?_ ?_ ?_ ?_ hH2 ?_
          · kernel_rfl
          · kernel_rfl
          · kernel_rfl
          · exact fun _ _ _ h => h
          · exact Or.inr ⟨by kernel_rfl, rfl⟩
          try simp only [Act.put, List.setIfInBounds_toArray, List.set_cons_zero, List.set_cons_succ]
          refine wpAnyH_take (i := 16) (oi := { dst := some 41, op := Go.Op.move (Go.Operand.tmp 7), type := 3, pos := "law.go:87", after := #[{ on := 9, ground := Go.Ground.guard }], guard := some (9, true) }) (v := undef) rfl ?_ ?_ ?_ ?_ ?_ hH2 ?_
          · kernel_rfl
          · kernel_rfl
          · kernel_rfl
          · exact fun _ _ _ h => h
          · exact Or.inr ⟨by kernel_rfl, rfl⟩
          try simp only [Act.put, List.setIfInBounds_toArray, List.set_cons_zero, List.set_cons_succ]
          refine wpAnyH_take (i := 17) (oi := { dst := some 42, op := Go.Op.binOp Go.BinOp.sub 3 (Go.Operand.tmp 41) (Go.Operand.const (Go.Value.int Go.IntKind.i64 1)) 3, type := 3, pos := "law.go:87", after := #[{ on := 16, ground := Go.Ground.data }, { on := 9, ground := Go.Ground.guard }], guard := some (9, true) }) (v := undef) rfl ?_ ?_ ?_ ?_ ?_ hH2 ?_
          · kernel_rfl
          · kernel_rfl
          · kernel_rfl
          · exact fun _ _ _ h => h
          · exact Or.inr ⟨by kernel_rfl, rfl⟩
          try simp only [Act.put, List.setIfInBounds_toArray, List.set_cons_zero, List.set_cons_succ]
          refine wpAnyH_take (i := 18) (oi := { dst := some 43, op := Go.Op.indexAddr 29 (Go.Operand.tmp 40) (Go.Operand.tmp 42), type := 0, pos := "law.go:87", after := #[{ on := 15, ground := Go.Ground.data }, { on := 17, ground := Go.Ground.data }, { on := 9, ground := Go.Ground.guard }], guard := some (9, true) }) (v := undef) rfl ?_ ?_ ?_ ?_ ?_ hH2 ?_
          · kernel_rfl
          · kernel_rfl
          · kernel_rfl
          · exact fun _ _ _ h => h
          · exact Or.inr ⟨by kernel_rfl, rfl⟩
          try simp only [Act.put, List.setIfInBounds_toArray, List.set_cons_zero, List.set_cons_succ]
          refine wpAnyH_take (i := 19) (oi := { dst := some 44, op := Go.Op.fieldAddr 23 (Go.Operand.tmp 43) 1, type := 0, pos := "law.go:87", after := #[{ on := 18, ground := Go.Ground.data }, { on := 9, ground := Go.Ground.guard }], guard := some (9, true) }) (v := undef) rfl ?_ ?_ ?_ ?_ ?_ hH2 ?_
          · kernel_rfl
          · kernel_rfl
          · kernel_rfl
          · exact fun _ _ _ h => h
          · exact Or.inr ⟨by kernel_rfl, rfl⟩
          try simp only [Act.put, List.setIfInBounds_toArray, List.set_cons_zero, List.set_cons_succ]
          refine wpAnyH_take (i := 20) (oi := { dst := some 45, op := Go.Op.load 3 (Go.Operand.tmp 44), type := 3, pos := "law.go:87", after := #[{ on := 19, ground := Go.Ground.data }, { on := 9, ground := Go.Ground.guard }], guard := some (9, true) }) (v := undef) rfl ?_ ?_ ?_ ?_ ?_ hH2 ?_
          · kernel_rfl
          · kernel_rfl
          · kernel_rfl
          · exact fun _ _ _ h => h
          · exact Or.inr ⟨by kernel_rfl, rfl⟩
          try simp only [Act.put, List.setIfInBounds_toArray, List.set_cons_zero, List.set_cons_succ]
          refine wpAnyH_take (i := 21) (oi := { dst := some 46, op := Go.Op.binOp Go.BinOp.leq 3 (Go.Operand.tmp 39) (Go.Operand.tmp 45) 3, type := 4, pos := "law.go:87", after := #[{ on := 14, ground := Go.Ground.data }, { on := 20, ground := Go.Ground.data }, { on := 9, ground := Go.Ground.guard }], guard := some (9, true) }) (v := undef) rfl ?_ ?_ ?_ ?_ ?_ hH2 ?_
          · kernel_rfl
          · kernel_rfl
          · kernel_rfl
          · exact fun _ _ _ h => h
          · exact Or.inr ⟨by kernel_rfl, rfl⟩
          try simp only [Act.put, List.setIfInBounds_toArray, List.set_cons_zero, List.set_cons_succ]
          refine wpAnyH_take (i := 22) (oi := { dst := some 47, op := Go.Op.pick (Go.Operand.tmp 34) (Go.Operand.tmp 46) (Go.Operand.const (Go.Value.bool false)), type := 4, pos := "law.go:87", after := #[{ on := 9, ground := Go.Ground.data }, { on := 21, ground := Go.Ground.data }, { on := 6, ground := Go.Ground.guard }], guard := some (6, false) }) (v := ?_) rfl ?_ ?_ ?_ ?_ (Or.inl ⟨?_, ?_⟩) hH2 ?_
          rotate_left
          · kernel_rfl
          · kernel_rfl
          · kernel_rfl
          · exact fun _ _ _ h => h
          · kernel_rfl
          · intro wS hSw
            try dsimp only at hSw
            go_simp
            try with_reducible rfl
          try simp only [Act.put, List.setIfInBounds_toArray, List.set_cons_zero, List.set_cons_succ]
          refine wpAnyH_take (i := 23) (oi := { dst := some 48, op := Go.Op.pick (Go.Operand.tmp 31) (Go.Operand.const (Go.Value.bool true)) (Go.Operand.tmp 47), type := 4, pos := "law.go:87", after := #[{ on := 6, ground := Go.Ground.data }, { on := 22, ground := Go.Ground.data }], guard := none }) (v := ?_) rfl ?_ ?_ ?_ ?_ (Or.inl ⟨?_, ?_⟩) hH2 ?_
          rotate_left
          · kernel_rfl
          · kernel_rfl
          · kernel_rfl
          · exact fun _ _ _ h => h
          · kernel_rfl
          · intro wS hSw
            try dsimp only at hSw
            go_simp
            try with_reducible rfl
          try simp only [Act.put, List.setIfInBounds_toArray, List.set_cons_zero, List.set_cons_succ]
          refine wpAnyH_done (by kernel_rfl) ?_ _
          have hB9 := hH2.2.2.2.2.2.1
          clear hH2
          go_wp2
          go_roundw
          case rel => exact ⟨0 + 1, by omega, by first | rfl | go_num, Lib.hid hB9⟩
          case measure => simp [intOf]; omega
        | succ i =>
          have hst := HJ1.out i hjl
          obtain ⟨_, a1⟩ := arg_two hc i (by omega)
          have f3 := (hb.cell (p := ⟨G, o + i * 2 + 1, none⟩) hG).trans a1
          clear hc a1
          generalize J[i + 1] = X at *
          generalize J[i] = Y at *
          obtain ⟨x0, x1⟩ := X
          obtain ⟨y0, y1⟩ := Y
          simp only at hvv hst f0 f1 f3
          have hst2 : ¬ x0 ≤ y1 := by omega
          clear hst
          have hv := hvv
          clear hvv
          have hiL : (i : Int) + 1 < J.length := by omega
          have hi0 : (0 : Int) ≤ (i : Int) := by omega
          have hi1 : (0 : Int) < (i : Int) + 1 := by omega
          have hi3 : (0 : Int) ≤ (i : Int) + 1 := by omega
          have hi4 : ((i : Int) + 1).toNat = i + 1 := by omega
          rw [show ((i + 1 : Nat) : Int) = (i : Int) + 1 from by omega]
          have hi2 : (i : Int) < J.length := by omega
          have hw1 : IntKind.i64.wrap ((i : Int) + 1 - 1) = (i : Int) := by rw [Int.add_sub_cancel]; exact IntWalk.i64_in _ (by omega)
          have hw2 : IntKind.i64.wrap (i : Int) = (i : Int) := IntWalk.i64_in _ (by omega)
          have hS : wr.cell? ⟨G, o + (i + 1) * 2, none⟩ = some (.int .i64 x0) ∧ wr.cell? ⟨G, o + (i + 1) * 2 + 1, none⟩ = some (.int .i64 x1) ∧ wr.cell? ⟨G, o + i * 2 + 1, none⟩ = some (.int .i64 y1) ∧ wr.cell? ⟨w.heap.size, 0, none⟩ = some (.int .i64 u) ∧ wr.cell? ⟨w.heap.size, 1, none⟩ = some (.int .i64 z) ∧ Below wc.heap.size wc wr ∧ G < wr.heap.size ∧ w.heap.size < wr.heap.size := ⟨f0, f1, f3, q0, q1, hb, Nat.lt_of_lt_of_le hG hb.size, Nat.lt_of_lt_of_le hlc hb.size⟩
          have hs := Lib.hid hS
          clear hS f0 f1 f3 q0 q1 hb
          go_wp2
          go_region_held3 (fun w' => w'.cell? ⟨G, o + (i + 1) * 2, none⟩ = some (.int .i64 x0) ∧ w'.cell? ⟨G, o + (i + 1) * 2 + 1, none⟩ = some (.int .i64 x1) ∧ w'.cell? ⟨G, o + i * 2 + 1, none⟩ = some (.int .i64 y1) ∧ w'.cell? ⟨w.heap.size, 0, none⟩ = some (.int .i64 u) ∧ w'.cell? ⟨w.heap.size, 1, none⟩ = some (.int .i64 z) ∧ Below wc.heap.size wc w' ∧ G < w'.heap.size ∧ w.heap.size < w'.heap.size) (first | exact ⟨hs.out.1, hs.out.2.1, hs.out.2.2.1, hs.out.2.2.2.1, hs.out.2.2.2.2.1, hs.out.2.2.2.2.2.1.drew, hs.out.2.2.2.2.2.2.1, hs.out.2.2.2.2.2.2.2⟩ | assumption | go_keep)
            (first
              | (go_at_call 12; refine (CV.out _ _ _).mono ?_; rintro e5 w5 ⟨rfl, b5⟩; have h5 := heldC (by assumption) b5))
          all_goals go_wp2
          all_goals
            have hB9 := h5.2.2.2.2.2.1
            go_roundw
            case rel => exact ⟨i + 1 + 1, by omega, by first | rfl | go_num, Lib.hid hB9⟩
            case measure => simp [intOf]; omega
      · skip
        go_wp2
        go_loopw [8] (fun x wr => ∃ j : Nat, j ≤ GA.length ∧ x = .int .i64 j ∧ Hid (Below wc.heap.size wc wr)) (fun x _ => GA.length - (intOf x).toNat)
        case atStart => exact ⟨0, Nat.zero_le _, rfl, Lib.hid hb⟩
        case round =>
          clear hb HB
          obtain ⟨j, hj, rfl, HB⟩ := hrel
          have hb := HB.out
          by_cases hjl : j < GA.length
          · obtain ⟨G, o, rfl, hG, hc⟩ := HA2.out (by omega)
            obtain ⟨a0, a1⟩ := arg_two hc j hjl
            have f0 := (hb.cell (p := ⟨G, o + j * 2, none⟩) hG).trans a0
            have f1 := (hb.cell (p := ⟨G, o + j * 2 + 1, none⟩) hG).trans a1
            obtain ⟨q0, q1⟩ := BOX.out _ hb
            have hvv := HG2.out GA[j] (List.getElem_mem hjl)
            clear a0 a1
            cases j with
            | zero =>
              clear hc
              have hv' := Lib.hid hvv
              generalize hx : GA[0] = X at *
              obtain ⟨x0, x1⟩ := X
              have hvv := hv'.out
              simp only [Nat.zero_mul, Nat.add_zero] at hvv f0 f1
              have f3 := f0
              obtain ⟨hv, hu1, hz1⟩ := hvv
              have hu2 : ¬ x0 < u := by omega
              have hz2 : ¬ z < x1 := by omega
              have hu3 : decide (x0 < u) = false := decide_eq_false hu2
              have hz3 : decide (z < x1) = false := decide_eq_false hz2
              clear hu1 hz1
              clear hvv hv' hx
              rw [show ((0 : Nat) : Int) = 0 from rfl]
              have hS : wr.drew.cell? ⟨G, o, none⟩ = some (.int .i64 x0) ∧ wr.drew.cell? ⟨G, o + 1, none⟩ = some (.int .i64 x1) ∧ wr.drew.cell? ⟨G, o, none⟩ = some (.int .i64 x0) ∧ wr.drew.cell? ⟨w.heap.size, 0, none⟩ = some (.int .i64 u) ∧ wr.drew.cell? ⟨w.heap.size, 1, none⟩ = some (.int .i64 z) ∧ Below wc.heap.size wc wr.drew ∧ G < wr.drew.heap.size ∧ w.heap.size < wr.drew.heap.size := ⟨f0, f1, f3, q0, q1, hb.drew, Nat.lt_of_lt_of_le hG hb.size, Nat.lt_of_lt_of_le hlc hb.size⟩
              have hs := Lib.hid hS
              have CV1 : Hid (∀ w, Calls Try.prog 12 #[.agg #[.int .i64 x0, .int .i64 x1]] w fun e w' => e = .returned (.bool true) ∧ Below w.heap.size w w') := fun w => by have h := CV.out x0 x1 w; rw [hv] at h; exact h
              clear hS f0 f1 f3 q0 q1 hb
              go_wp2
              refine wp_region_held_drew (S := fun w' => w'.cell? ⟨G, o, none⟩ = some (.int .i64 x0) ∧ w'.cell? ⟨G, o + 1, none⟩ = some (.int .i64 x1) ∧ w'.cell? ⟨G, o, none⟩ = some (.int .i64 x0) ∧ w'.cell? ⟨w.heap.size, 0, none⟩ = some (.int .i64 u) ∧ w'.cell? ⟨w.heap.size, 1, none⟩ = some (.int .i64 z) ∧ Below wc.heap.size wc w' ∧ G < w'.heap.size ∧ w.heap.size < w'.heap.size) (by kernel_rfl) ?_ (fun hH => ?_)
              · exact hs.out
              refine wpAnyH_take (i := 0) (oi := { dst := some 55, op := Go.Op.move (Go.Operand.tmp 6), type := 29, pos := "law.go:92", after := #[], guard := none }) (v := ?_) rfl ?_ ?_ ?_ ?_ (Or.inl ⟨?_, ?_⟩) hH ?_
              rotate_left
              · kernel_rfl
              · kernel_rfl
              · kernel_rfl
              · exact fun _ _ _ h => h
              · kernel_rfl
              · intro wS hSw
                try dsimp only at hSw
                go_simp
                try with_reducible rfl
              try simp only [Act.put, List.setIfInBounds_toArray, List.set_cons_zero, List.set_cons_succ]
              refine wpAnyH_take (i := 1) (oi := { dst := some 56, op := Go.Op.move (Go.Operand.tmp 8), type := 3, pos := "law.go:92", after := #[], guard := none }) (v := ?_) rfl ?_ ?_ ?_ ?_ (Or.inl ⟨?_, ?_⟩) hH ?_
              rotate_left
              · kernel_rfl
              · kernel_rfl
              · kernel_rfl
              · exact fun _ _ _ h => h
              · kernel_rfl
              · intro wS hSw
                try dsimp only at hSw
                go_simp
                try with_reducible rfl
              try simp only [Act.put, List.setIfInBounds_toArray, List.set_cons_zero, List.set_cons_succ]
              refine wpAnyH_take (i := 2) (oi := { dst := some 57, op := Go.Op.indexAddr 29 (Go.Operand.tmp 55) (Go.Operand.tmp 56), type := 0, pos := "law.go:92", after := #[{ on := 0, ground := Go.Ground.data }, { on := 1, ground := Go.Ground.data }], guard := none }) (v := ?_) rfl ?_ ?_ ?_ ?_ (Or.inl ⟨?_, ?_⟩) hH ?_
              rotate_left
              · kernel_rfl
              · kernel_rfl
              · kernel_rfl
              · exact fun _ _ _ h => h
              · kernel_rfl
              · intro wS hSw
                try dsimp only at hSw
                go_simp
                try with_reducible rfl
              try simp only [Act.put, List.setIfInBounds_toArray, List.set_cons_zero, List.set_cons_succ]
              refine wpAnyH_take (i := 3) (oi := { dst := some 58, op := Go.Op.load 23 (Go.Operand.tmp 57), type := 23, pos := "law.go:92", after := #[{ on := 2, ground := Go.Ground.data }], guard := none }) (v := ?_) rfl ?_ ?_ ?_ ?_ (Or.inl ⟨?_, ?_⟩) hH ?_
              rotate_left
              · kernel_rfl
              · kernel_rfl
              · kernel_rfl
              · exact fun _ _ _ h => h
              · kernel_rfl
              · intro wS hSw
                try dsimp only at hSw
                go_simp
                try with_reducible rfl
              try simp only [Act.put, List.setIfInBounds_toArray, List.set_cons_zero, List.set_cons_succ]
              refine wpAnyH_ready (rs := [4]) (by kernel_rfl) (by simp) ?_
              refine AllReadyH.cons rfl (fun K hK => ?_) AllReadyH.nil
              go_simp
              refine (CV1.out _).mono ?_
              rintro e5 w5 ⟨rfl, b5⟩
              try go_wp2_with fail
              refine hK.out _ _ ?_ (fun hH2 => ?_)
              · exact heldC hs.out b5
              clear hK K hH
              try simp only [Act.put, List.setIfInBounds_toArray, List.set_cons_zero, List.set_cons_succ]
              refine wpAnyH_take (i := 5) (oi := { dst := some 60, op := Go.Op.unOp Go.UnOp.not 4 (Go.Operand.tmp 59), type := 4, pos := "law.go:92", after := #[{ on := 4, ground := Go.Ground.data }], guard := none }) (v := ?_) rfl ?_ ?_ ?_ ?_ (Or.inl ⟨?_, ?_⟩) hH2 ?_
              rotate_left
              · kernel_rfl
              · kernel_rfl
              · kernel_rfl
              · exact fun _ _ _ h => h
              · kernel_rfl
              · intro wS hSw
                try dsimp only at hSw
                go_simp
                try with_reducible rfl
              try simp only [Act.put, List.setIfInBounds_toArray, List.set_cons_zero, List.set_cons_succ]
              refine wpAnyH_take (i := 6) (oi := { dst := some 61, op := Go.Op.move (Go.Operand.tmp 60), type := 4, pos := "law.go:92", after := #[{ on := 5, ground := Go.Ground.data }, { on := 4, ground := Go.Ground.chain }], guard := none }) (v := ?_) rfl ?_ ?_ ?_ ?_ (Or.inl ⟨?_, ?_⟩) hH2 ?_
              rotate_left
              · kernel_rfl
              · kernel_rfl
              · kernel_rfl
              · exact fun _ _ _ h => h
              · kernel_rfl
              · intro wS hSw
                try dsimp only at hSw
                go_simp
                try with_reducible rfl
              try simp only [Act.put, List.setIfInBounds_toArray, List.set_cons_zero, List.set_cons_succ]
              refine wpAnyH_take (i := 7) (oi := { dst := some 62, op := Go.Op.move (Go.Operand.tmp 8), type := 3, pos := "law.go:92", after := #[{ on := 6, ground := Go.Ground.guard }], guard := some (6, false) }) (v := ?_) rfl ?_ ?_ ?_ ?_ (Or.inl ⟨?_, ?_⟩) hH2 ?_
              rotate_left
              · kernel_rfl
              · kernel_rfl
              · kernel_rfl
              · exact fun _ _ _ h => h
              · kernel_rfl
              · intro wS hSw
                try dsimp only at hSw
                go_simp
                try with_reducible rfl
              try simp only [Act.put, List.setIfInBounds_toArray, List.set_cons_zero, List.set_cons_succ]
              refine wpAnyH_take (i := 8) (oi := { dst := some 63, op := Go.Op.binOp Go.BinOp.gtr 3 (Go.Operand.tmp 62) (Go.Operand.const (Go.Value.int Go.IntKind.i64 0)) 3, type := 4, pos := "law.go:92", after := #[{ on := 7, ground := Go.Ground.data }, { on := 6, ground := Go.Ground.guard }], guard := some (6, false) }) (v := ?_) rfl ?_ ?_ ?_ ?_ (Or.inl ⟨?_, ?_⟩) hH2 ?_
              rotate_left
              · kernel_rfl
              · kernel_rfl
              · kernel_rfl
              · exact fun _ _ _ h => h
              · kernel_rfl
              · intro wS hSw
                try dsimp only at hSw
                go_simp
                try with_reducible rfl
              try simp only [Act.put, List.setIfInBounds_toArray, List.set_cons_zero, List.set_cons_succ]
              refine wpAnyH_take (i := 9) (oi := { dst := some 64, op := Go.Op.move (Go.Operand.tmp 63), type := 4, pos := "law.go:92", after := #[{ on := 8, ground := Go.Ground.data }, { on := 6, ground := Go.Ground.chain }, { on := 6, ground := Go.Ground.guard }], guard := some (6, false) }) (v := ?_) rfl ?_ ?_ ?_ ?_ (Or.inl ⟨?_, ?_⟩) hH2 ?_
              rotate_left
              · kernel_rfl
              · kernel_rfl
              · kernel_rfl
              · exact fun _ _ _ h => h
              · kernel_rfl
              · intro wS hSw
                try dsimp only at hSw
                go_simp
                try with_reducible rfl
              try simp only [Act.put, List.setIfInBounds_toArray, List.set_cons_zero, List.set_cons_succ]
              refine wpAnyH_take (i := 10) (oi := { dst := some 65, op := Go.Op.move (Go.Operand.tmp 6), type := 29, pos := "law.go:92", after := #[{ on := 9, ground := Go.Ground.guard }], guard := some (9, true) }) (v := undef) rfl ?_ ?_ ?_ ?_ ?_ hH2 ?_
              · kernel_rfl
              · kernel_rfl
              · kernel_rfl
              · exact fun _ _ _ h => h
              · exact Or.inr ⟨by kernel_rfl, rfl⟩
              try simp only [Act.put, List.setIfInBounds_toArray, List.set_cons_zero, List.set_cons_succ]
              refine wpAnyH_take (i := 11) (oi := { dst := some 66, op := Go.Op.move (Go.Operand.tmp 8), type := 3, pos := "law.go:92", after := #[{ on := 9, ground := Go.Ground.guard }], guard := some (9, true) }) (v := undef) rfl ?_ ?_ ?_ ?_ ?_ hH2 ?_
              · kernel_rfl
              · kernel_rfl
              · kernel_rfl
              · exact fun _ _ _ h => h
              · exact Or.inr ⟨by kernel_rfl, rfl⟩
              try simp only [Act.put, List.setIfInBounds_toArray, List.set_cons_zero, List.set_cons_succ]
              refine wpAnyH_take (i := 12) (oi := { dst := some 67, op := Go.Op.indexAddr 29 (Go.Operand.tmp 65) (Go.Operand.tmp 66), type := 0, pos := "law.go:92", after := #[{ on := 10, ground := Go.Ground.data }, { on := 11, ground := Go.Ground.data }, { on := 9, ground := Go.Ground.guard }], guard := some (9, true) }) (v := undef) rfl ?_ ?_ ?_ ?_ ?_ hH2 ?_
              · kernel_rfl
              · kernel_rfl
              · kernel_rfl
              · exact fun _ _ _ h => h
              · exact Or.inr ⟨by kernel_rfl, rfl⟩
              try simp only [Act.put, List.setIfInBounds_toArray, List.set_cons_zero, List.set_cons_succ]
              refine wpAnyH_take (i := 13) (oi := { dst := some 68, op := Go.Op.fieldAddr 23 (Go.Operand.tmp 67) 0, type := 0, pos := "law.go:92", after := #[{ on := 12, ground := Go.Ground.data }, { on := 9, ground := Go.Ground.guard }], guard := some (9, true) }) (v := undef) rfl ?_ ?_ ?_ ?_ ?_ hH2 ?_
              · kernel_rfl
              · kernel_rfl
              · kernel_rfl
              · exact fun _ _ _ h => h
              · exact Or.inr ⟨by kernel_rfl, rfl⟩
              try simp only [Act.put, List.setIfInBounds_toArray, List.set_cons_zero, List.set_cons_succ]
              refine wpAnyH_take (i := 14) (oi := { dst := some 69, op := Go.Op.load 3 (Go.Operand.tmp 68), type := 3, pos := "law.go:92", after := #[{ on := 13, ground := Go.Ground.data }, { on := 9, ground := Go.Ground.guard }], guard := some (9, true) }) (v := undef) rfl ?_ ?_ ?_ ?_ ?_ hH2 ?_
              · kernel_rfl
              · kernel_rfl
              · kernel_rfl
              · exact fun _ _ _ h => h
              · exact Or.inr ⟨by kernel_rfl, rfl⟩
              try simp only [Act.put, List.setIfInBounds_toArray, List.set_cons_zero, List.set_cons_succ]
              refine wpAnyH_take (i := 15) (oi := { dst := some 70, op := Go.Op.move (Go.Operand.tmp 6), type := 29, pos := "law.go:92", after := #[{ on := 9, ground := Go.Ground.guard }], guard := some (9, true) }) (v := undef) rfl ?_ ?_ ?_ ?_ ?_ hH2 ?_
              · kernel_rfl
              · kernel_rfl
              · kernel_rfl
              · exact fun _ _ _ h => h
              · exact Or.inr ⟨by kernel_rfl, rfl⟩
              try simp only [Act.put, List.setIfInBounds_toArray, List.set_cons_zero, List.set_cons_succ]
              refine wpAnyH_take (i := 16) (oi := { dst := some 71, op := Go.Op.move (Go.Operand.tmp 8), type := 3, pos := "law.go:92", after := #[{ on := 9, ground := Go.Ground.guard }], guard := some (9, true) }) (v := undef) rfl ?_ ?_ ?_ ?_ ?_ hH2 ?_
              · kernel_rfl
              · kernel_rfl
              · kernel_rfl
              · exact fun _ _ _ h => h
              · exact Or.inr ⟨by kernel_rfl, rfl⟩
              try simp only [Act.put, List.setIfInBounds_toArray, List.set_cons_zero, List.set_cons_succ]
              refine wpAnyH_take (i := 17) (oi := { dst := some 72, op := Go.Op.binOp Go.BinOp.sub 3 (Go.Operand.tmp 71) (Go.Operand.const (Go.Value.int Go.IntKind.i64 1)) 3, type := 3, pos := "law.go:92", after := #[{ on := 16, ground := Go.Ground.data }, { on := 9, ground := Go.Ground.guard }], guard := some (9, true) }) (v := undef) rfl ?_ ?_ ?_ ?_ ?_ hH2 ?_
              · kernel_rfl
              · kernel_rfl
              · kernel_rfl
              · exact fun _ _ _ h => h
              · exact Or.inr ⟨by kernel_rfl, rfl⟩
              try simp only [Act.put, List.setIfInBounds_toArray, List.set_cons_zero, List.set_cons_succ]
              refine wpAnyH_take (i := 18) (oi := { dst := some 73, op := Go.Op.indexAddr 29 (Go.Operand.tmp 70) (Go.Operand.tmp 72), type := 0, pos := "law.go:92", after := #[{ on := 15, ground := Go.Ground.data }, { on := 17, ground := Go.Ground.data }, { on := 9, ground := Go.Ground.guard }], guard := some (9, true) }) (v := undef) rfl ?_ ?_ ?_ ?_ ?_ hH2 ?_
              · kernel_rfl
              · kernel_rfl
              · kernel_rfl
              · exact fun _ _ _ h => h
              · exact Or.inr ⟨by kernel_rfl, rfl⟩
              try simp only [Act.put, List.setIfInBounds_toArray, List.set_cons_zero, List.set_cons_succ]
              refine wpAnyH_take (i := 19) (oi := { dst := some 74, op := Go.Op.fieldAddr 23 (Go.Operand.tmp 73) 1, type := 0, pos := "law.go:92", after := #[{ on := 18, ground := Go.Ground.data }, { on := 9, ground := Go.Ground.guard }], guard := some (9, true) }) (v := undef) rfl ?_ ?_ ?_ ?_ ?_ hH2 ?_
              · kernel_rfl
              · kernel_rfl
              · kernel_rfl
              · exact fun _ _ _ h => h
              · exact Or.inr ⟨by kernel_rfl, rfl⟩
              try simp only [Act.put, List.setIfInBounds_toArray, List.set_cons_zero, List.set_cons_succ]
              refine wpAnyH_take (i := 20) (oi := { dst := some 75, op := Go.Op.load 3 (Go.Operand.tmp 74), type := 3, pos := "law.go:92", after := #[{ on := 19, ground := Go.Ground.data }, { on := 9, ground := Go.Ground.guard }], guard := some (9, true) }) (v := undef) rfl ?_ ?_ ?_ ?_ ?_ hH2 ?_
              · kernel_rfl
              · kernel_rfl
              · kernel_rfl
              · exact fun _ _ _ h => h
              · exact Or.inr ⟨by kernel_rfl, rfl⟩
              try simp only [Act.put, List.setIfInBounds_toArray, List.set_cons_zero, List.set_cons_succ]
              refine wpAnyH_take (i := 21) (oi := { dst := some 76, op := Go.Op.binOp Go.BinOp.leq 3 (Go.Operand.tmp 69) (Go.Operand.tmp 75) 3, type := 4, pos := "law.go:92", after := #[{ on := 14, ground := Go.Ground.data }, { on := 20, ground := Go.Ground.data }, { on := 9, ground := Go.Ground.guard }], guard := some (9, true) }) (v := undef) rfl ?_ ?_ ?_ ?_ ?_ hH2 ?_
              · kernel_rfl
              · kernel_rfl
              · kernel_rfl
              · exact fun _ _ _ h => h
              · exact Or.inr ⟨by kernel_rfl, rfl⟩
              try simp only [Act.put, List.setIfInBounds_toArray, List.set_cons_zero, List.set_cons_succ]
              refine wpAnyH_take (i := 22) (oi := { dst := some 77, op := Go.Op.pick (Go.Operand.tmp 64) (Go.Operand.tmp 76) (Go.Operand.const (Go.Value.bool false)), type := 4, pos := "law.go:92", after := #[{ on := 9, ground := Go.Ground.data }, { on := 21, ground := Go.Ground.data }, { on := 6, ground := Go.Ground.guard }], guard := some (6, false) }) (v := ?_) rfl ?_ ?_ ?_ ?_ (Or.inl ⟨?_, ?_⟩) hH2 ?_
              rotate_left
              · kernel_rfl
              · kernel_rfl
              · kernel_rfl
              · exact fun _ _ _ h => h
              · kernel_rfl
              · intro wS hSw
                try dsimp only at hSw
                go_simp
                try with_reducible rfl
              try simp only [Act.put, List.setIfInBounds_toArray, List.set_cons_zero, List.set_cons_succ]
              refine wpAnyH_take (i := 23) (oi := { dst := some 78, op := Go.Op.pick (Go.Operand.tmp 61) (Go.Operand.const (Go.Value.bool true)) (Go.Operand.tmp 77), type := 4, pos := "law.go:92", after := #[{ on := 6, ground := Go.Ground.data }, { on := 22, ground := Go.Ground.data }], guard := none }) (v := ?_) rfl ?_ ?_ ?_ ?_ (Or.inl ⟨?_, ?_⟩) hH2 ?_
              rotate_left
              · kernel_rfl
              · kernel_rfl
              · kernel_rfl
              · exact fun _ _ _ h => h
              · kernel_rfl
              · intro wS hSw
                try dsimp only at hSw
                go_simp
                try with_reducible rfl
              try simp only [Act.put, List.setIfInBounds_toArray, List.set_cons_zero, List.set_cons_succ]
              refine wpAnyH_take (i := 24) (oi := { dst := some 79, op := Go.Op.move (Go.Operand.tmp 78), type := 4, pos := "law.go:92", after := #[{ on := 23, ground := Go.Ground.data }, { on := 9, ground := Go.Ground.chain }], guard := none }) (v := ?_) rfl ?_ ?_ ?_ ?_ (Or.inl ⟨?_, ?_⟩) hH2 ?_
              rotate_left
              · kernel_rfl
              · kernel_rfl
              · kernel_rfl
              · exact fun _ _ _ h => h
              · kernel_rfl
              · intro wS hSw
                try dsimp only at hSw
                go_simp
                try with_reducible rfl
              try simp only [Act.put, List.setIfInBounds_toArray, List.set_cons_zero, List.set_cons_succ]
              refine wpAnyH_take (i := 25) (oi := { dst := some 80, op := Go.Op.move (Go.Operand.tmp 6), type := 29, pos := "law.go:92", after := #[{ on := 24, ground := Go.Ground.guard }], guard := some (24, false) }) (v := ?_) rfl ?_ ?_ ?_ ?_ (Or.inl ⟨?_, ?_⟩) hH2 ?_
              rotate_left
              · kernel_rfl
              · kernel_rfl
              · kernel_rfl
              · exact fun _ _ _ h => h
              · kernel_rfl
              · intro wS hSw
                try dsimp only at hSw
                go_simp
                try with_reducible rfl
              try simp only [Act.put, List.setIfInBounds_toArray, List.set_cons_zero, List.set_cons_succ]
              refine wpAnyH_take (i := 26) (oi := { dst := some 81, op := Go.Op.move (Go.Operand.tmp 8), type := 3, pos := "law.go:92", after := #[{ on := 24, ground := Go.Ground.guard }], guard := some (24, false) }) (v := ?_) rfl ?_ ?_ ?_ ?_ (Or.inl ⟨?_, ?_⟩) hH2 ?_
              rotate_left
              · kernel_rfl
              · kernel_rfl
              · kernel_rfl
              · exact fun _ _ _ h => h
              · kernel_rfl
              · intro wS hSw
                try dsimp only at hSw
                go_simp
                try with_reducible rfl
              try simp only [Act.put, List.setIfInBounds_toArray, List.set_cons_zero, List.set_cons_succ]
              refine wpAnyH_take (i := 27) (oi := { dst := some 82, op := Go.Op.indexAddr 29 (Go.Operand.tmp 80) (Go.Operand.tmp 81), type := 0, pos := "law.go:92", after := #[{ on := 25, ground := Go.Ground.data }, { on := 26, ground := Go.Ground.data }, { on := 24, ground := Go.Ground.guard }], guard := some (24, false) }) (v := ?_) rfl ?_ ?_ ?_ ?_ (Or.inl ⟨?_, ?_⟩) hH2 ?_
              rotate_left
              · kernel_rfl
              · kernel_rfl
              · kernel_rfl
              · exact fun _ _ _ h => h
              · kernel_rfl
              · intro wS hSw
                try dsimp only at hSw
                go_simp
                try with_reducible rfl
              try simp only [Act.put, List.setIfInBounds_toArray, List.set_cons_zero, List.set_cons_succ]
              refine wpAnyH_take (i := 28) (oi := { dst := some 83, op := Go.Op.fieldAddr 23 (Go.Operand.tmp 82) 0, type := 0, pos := "law.go:92", after := #[{ on := 27, ground := Go.Ground.data }, { on := 24, ground := Go.Ground.guard }], guard := some (24, false) }) (v := ?_) rfl ?_ ?_ ?_ ?_ (Or.inl ⟨?_, ?_⟩) hH2 ?_
              rotate_left
              · kernel_rfl
              · kernel_rfl
              · kernel_rfl
              · exact fun _ _ _ h => h
              · kernel_rfl
              · intro wS hSw
                try dsimp only at hSw
                go_simp
                try with_reducible rfl
              try simp only [Act.put, List.setIfInBounds_toArray, List.set_cons_zero, List.set_cons_succ]
              refine wpAnyH_take (i := 29) (oi := { dst := some 84, op := Go.Op.load 3 (Go.Operand.tmp 83), type := 3, pos := "law.go:92", after := #[{ on := 28, ground := Go.Ground.data }, { on := 24, ground := Go.Ground.guard }], guard := some (24, false) }) (v := ?_) rfl ?_ ?_ ?_ ?_ (Or.inl ⟨?_, ?_⟩) hH2 ?_
              rotate_left
              · kernel_rfl
              · kernel_rfl
              · kernel_rfl
              · exact fun _ _ _ h => h
              · kernel_rfl
              · intro wS hSw
                try dsimp only at hSw
                go_simp
                try with_reducible rfl
              try simp only [Act.put, List.setIfInBounds_toArray, List.set_cons_zero, List.set_cons_succ]
              refine wpAnyH_take (i := 30) (oi := { dst := some 85, op := Go.Op.fieldAddr 23 (Go.Operand.tmp 3) 0, type := 0, pos := "law.go:92", after := #[{ on := 24, ground := Go.Ground.guard }], guard := some (24, false) }) (v := ?_) rfl ?_ ?_ ?_ ?_ (Or.inl ⟨?_, ?_⟩) hH2 ?_
              rotate_left
              · kernel_rfl
              · kernel_rfl
              · kernel_rfl
              · exact fun _ _ _ h => h
              · kernel_rfl
              · intro wS hSw
                try dsimp only at hSw
                go_simp
                try with_reducible rfl
              try simp only [Act.put, List.setIfInBounds_toArray, List.set_cons_zero, List.set_cons_succ]
              refine wpAnyH_take (i := 31) (oi := { dst := some 86, op := Go.Op.load 3 (Go.Operand.tmp 85), type := 3, pos := "law.go:92", after := #[{ on := 30, ground := Go.Ground.data }, { on := 24, ground := Go.Ground.guard }], guard := some (24, false) }) (v := ?_) rfl ?_ ?_ ?_ ?_ (Or.inl ⟨?_, ?_⟩) hH2 ?_
              rotate_left
              · kernel_rfl
              · kernel_rfl
              · kernel_rfl
              · exact fun _ _ _ h => h
              · kernel_rfl
              · intro wS hSw
                try dsimp only at hSw
                go_simp
                try with_reducible rfl
              try simp only [Act.put, List.setIfInBounds_toArray, List.set_cons_zero, List.set_cons_succ]
              refine wpAnyH_take (i := 32) (oi := { dst := some 87, op := Go.Op.binOp Go.BinOp.lss 3 (Go.Operand.tmp 84) (Go.Operand.tmp 86) 3, type := 4, pos := "law.go:92", after := #[{ on := 29, ground := Go.Ground.data }, { on := 31, ground := Go.Ground.data }, { on := 24, ground := Go.Ground.guard }], guard := some (24, false) }) (v := ?_) rfl ?_ ?_ ?_ ?_ (Or.inl ⟨?_, ?_⟩) hH2 ?_
              rotate_left
              · kernel_rfl
              · kernel_rfl
              · kernel_rfl
              · exact fun _ _ _ h => h
              · kernel_rfl
              · intro wS hSw
                try dsimp only at hSw
                go_simp
                try with_reducible rfl
              try simp only [Act.put, List.setIfInBounds_toArray, List.set_cons_zero, List.set_cons_succ]
              refine wpAnyH_take (i := 33) (oi := { dst := some 88, op := Go.Op.pick (Go.Operand.tmp 79) (Go.Operand.const (Go.Value.bool true)) (Go.Operand.tmp 87), type := 4, pos := "law.go:92", after := #[{ on := 24, ground := Go.Ground.data }, { on := 32, ground := Go.Ground.data }], guard := none }) (v := ?_) rfl ?_ ?_ ?_ ?_ (Or.inl ⟨?_, ?_⟩) hH2 ?_
              rotate_left
              · kernel_rfl
              · kernel_rfl
              · kernel_rfl
              · exact fun _ _ _ h => h
              · kernel_rfl
              · intro wS hSw
                try dsimp only at hSw
                go_simp
                try with_reducible rfl
              try simp only [Act.put, List.setIfInBounds_toArray, List.set_cons_zero, List.set_cons_succ]
              refine wpAnyH_take (i := 34) (oi := { dst := some 89, op := Go.Op.move (Go.Operand.tmp 88), type := 4, pos := "law.go:92", after := #[{ on := 33, ground := Go.Ground.data }, { on := 24, ground := Go.Ground.chain }], guard := none }) (v := ?_) rfl ?_ ?_ ?_ ?_ (Or.inl ⟨?_, ?_⟩) hH2 ?_
              rotate_left
              · kernel_rfl
              · kernel_rfl
              · kernel_rfl
              · exact fun _ _ _ h => h
              · kernel_rfl
              · intro wS hSw
                try dsimp only at hSw
                go_simp
                try with_reducible rfl
              try simp only [Act.put, List.setIfInBounds_toArray, List.set_cons_zero, List.set_cons_succ]
              refine wpAnyH_take (i := 35) (oi := { dst := some 90, op := Go.Op.move (Go.Operand.tmp 6), type := 29, pos := "law.go:92", after := #[{ on := 34, ground := Go.Ground.guard }], guard := some (34, false) }) (v := ?_) rfl ?_ ?_ ?_ ?_ (Or.inl ⟨?_, ?_⟩) hH2 ?_
              rotate_left
              · kernel_rfl
              · kernel_rfl
              · kernel_rfl
              · exact fun _ _ _ h => h
              · kernel_rfl
              · intro wS hSw
                try dsimp only at hSw
                go_simp
                try with_reducible rfl
              try simp only [Act.put, List.setIfInBounds_toArray, List.set_cons_zero, List.set_cons_succ]
              refine wpAnyH_take (i := 36) (oi := { dst := some 91, op := Go.Op.move (Go.Operand.tmp 8), type := 3, pos := "law.go:92", after := #[{ on := 34, ground := Go.Ground.guard }], guard := some (34, false) }) (v := ?_) rfl ?_ ?_ ?_ ?_ (Or.inl ⟨?_, ?_⟩) hH2 ?_
              rotate_left
              · kernel_rfl
              · kernel_rfl
              · kernel_rfl
              · exact fun _ _ _ h => h
              · kernel_rfl
              · intro wS hSw
                try dsimp only at hSw
                go_simp
                try with_reducible rfl
              try simp only [Act.put, List.setIfInBounds_toArray, List.set_cons_zero, List.set_cons_succ]
              refine wpAnyH_take (i := 37) (oi := { dst := some 92, op := Go.Op.indexAddr 29 (Go.Operand.tmp 90) (Go.Operand.tmp 91), type := 0, pos := "law.go:92", after := #[{ on := 35, ground := Go.Ground.data }, { on := 36, ground := Go.Ground.data }, { on := 34, ground := Go.Ground.guard }], guard := some (34, false) }) (v := ?_) rfl ?_ ?_ ?_ ?_ (Or.inl ⟨?_, ?_⟩) hH2 ?_
              rotate_left
              · kernel_rfl
              · kernel_rfl
              · kernel_rfl
              · exact fun _ _ _ h => h
              · kernel_rfl
              · intro wS hSw
                try dsimp only at hSw
                go_simp
                try with_reducible rfl
              try simp only [Act.put, List.setIfInBounds_toArray, List.set_cons_zero, List.set_cons_succ]
              refine wpAnyH_take (i := 38) (oi := { dst := some 93, op := Go.Op.fieldAddr 23 (Go.Operand.tmp 92) 1, type := 0, pos := "law.go:92", after := #[{ on := 37, ground := Go.Ground.data }, { on := 34, ground := Go.Ground.guard }], guard := some (34, false) }) (v := ?_) rfl ?_ ?_ ?_ ?_ (Or.inl ⟨?_, ?_⟩) hH2 ?_
              rotate_left
              · kernel_rfl
              · kernel_rfl
              · kernel_rfl
              · exact fun _ _ _ h => h
              · kernel_rfl
              · intro wS hSw
                try dsimp only at hSw
                go_simp
                try with_reducible rfl
              try simp only [Act.put, List.setIfInBounds_toArray, List.set_cons_zero, List.set_cons_succ]
              refine wpAnyH_take (i := 39) (oi := { dst := some 94, op := Go.Op.load 3 (Go.Operand.tmp 93), type := 3, pos := "law.go:92", after := #[{ on := 38, ground := Go.Ground.data }, { on := 34, ground := Go.Ground.guard }], guard := some (34, false) }) (v := ?_) rfl ?_ ?_ ?_ ?_ (Or.inl ⟨?_, ?_⟩) hH2 ?_
              rotate_left
              · kernel_rfl
              · kernel_rfl
              · kernel_rfl
              · exact fun _ _ _ h => h
              · kernel_rfl
              · intro wS hSw
                try dsimp only at hSw
                go_simp
                try with_reducible rfl
              try simp only [Act.put, List.setIfInBounds_toArray, List.set_cons_zero, List.set_cons_succ]
              refine wpAnyH_take (i := 40) (oi := { dst := some 95, op := Go.Op.fieldAddr 23 (Go.Operand.tmp 3) 1, type := 0, pos := "law.go:92", after := #[{ on := 34, ground := Go.Ground.guard }], guard := some (34, false) }) (v := ?_) rfl ?_ ?_ ?_ ?_ (Or.inl ⟨?_, ?_⟩) hH2 ?_
              rotate_left
              · kernel_rfl
              · kernel_rfl
              · kernel_rfl
              · exact fun _ _ _ h => h
              · kernel_rfl
              · intro wS hSw
                try dsimp only at hSw
                go_simp
                try with_reducible rfl
              try simp only [Act.put, List.setIfInBounds_toArray, List.set_cons_zero, List.set_cons_succ]
              refine wpAnyH_take (i := 41) (oi := { dst := some 96, op := Go.Op.load 3 (Go.Operand.tmp 95), type := 3, pos := "law.go:92", after := #[{ on := 40, ground := Go.Ground.data }, { on := 34, ground := Go.Ground.guard }], guard := some (34, false) }) (v := ?_) rfl ?_ ?_ ?_ ?_ (Or.inl ⟨?_, ?_⟩) hH2 ?_
              rotate_left
              · kernel_rfl
              · kernel_rfl
              · kernel_rfl
              · exact fun _ _ _ h => h
              · kernel_rfl
              · intro wS hSw
                try dsimp only at hSw
                go_simp
                try with_reducible rfl
              try simp only [Act.put, List.setIfInBounds_toArray, List.set_cons_zero, List.set_cons_succ]
              refine wpAnyH_take (i := 42) (oi := { dst := some 97, op := Go.Op.binOp Go.BinOp.gtr 3 (Go.Operand.tmp 94) (Go.Operand.tmp 96) 3, type := 4, pos := "law.go:92", after := #[{ on := 39, ground := Go.Ground.data }, { on := 41, ground := Go.Ground.data }, { on := 34, ground := Go.Ground.guard }], guard := some (34, false) }) (v := ?_) rfl ?_ ?_ ?_ ?_ (Or.inl ⟨?_, ?_⟩) hH2 ?_
              rotate_left
              · kernel_rfl
              · kernel_rfl
              · kernel_rfl
              · exact fun _ _ _ h => h
              · kernel_rfl
              · intro wS hSw
                try dsimp only at hSw
                go_simp
                try with_reducible rfl
              try simp only [Act.put, List.setIfInBounds_toArray, List.set_cons_zero, List.set_cons_succ]
              refine wpAnyH_take (i := 43) (oi := { dst := some 98, op := Go.Op.pick (Go.Operand.tmp 89) (Go.Operand.const (Go.Value.bool true)) (Go.Operand.tmp 97), type := 4, pos := "law.go:92", after := #[{ on := 34, ground := Go.Ground.data }, { on := 42, ground := Go.Ground.data }], guard := none }) (v := ?_) rfl ?_ ?_ ?_ ?_ (Or.inl ⟨?_, ?_⟩) hH2 ?_
              rotate_left
              · kernel_rfl
              · kernel_rfl
              · kernel_rfl
              · exact fun _ _ _ h => h
              · kernel_rfl
              · intro wS hSw
                try dsimp only at hSw
                go_simp
                try with_reducible rfl
              try simp only [Act.put, List.setIfInBounds_toArray, List.set_cons_zero, List.set_cons_succ]
              refine wpAnyH_done (by kernel_rfl) ?_ _
              have hB9 := hH2.2.2.2.2.2.1
              clear hH2
              go_wp2
              go_roundw
              case rel => exact ⟨0 + 1, by omega, by first | rfl | go_num, Lib.hid hB9⟩
              case measure => simp [intOf]; omega
            | succ i =>
              have hst := HG1.out i hjl
              obtain ⟨_, a1⟩ := arg_two hc i (by omega)
              have f3 := (hb.cell (p := ⟨G, o + i * 2 + 1, none⟩) hG).trans a1
              clear hc a1
              generalize GA[i + 1] = X at *
              generalize GA[i] = Y at *
              obtain ⟨x0, x1⟩ := X
              obtain ⟨y0, y1⟩ := Y
              simp only at hvv hst f0 f1 f3
              have hst2 : ¬ x0 ≤ y1 := by omega
              have hst3 : decide (x0 ≤ y1) = false := decide_eq_false hst2
              clear hst
              obtain ⟨hv, hu1, hz1⟩ := hvv
              have hu2 : ¬ x0 < u := by omega
              have hz2 : ¬ z < x1 := by omega
              have hu3 : decide (x0 < u) = false := decide_eq_false hu2
              have hz3 : decide (z < x1) = false := decide_eq_false hz2
              clear hu1 hz1
              have hiL : (i : Int) + 1 < GA.length := by omega
              have hi0 : (0 : Int) ≤ (i : Int) := by omega
              have hi1 : (0 : Int) < (i : Int) + 1 := by omega
              have hi3 : (0 : Int) ≤ (i : Int) + 1 := by omega
              have hi4 : ((i : Int) + 1).toNat = i + 1 := by omega
              rw [show ((i + 1 : Nat) : Int) = (i : Int) + 1 from by omega]
              have hi2 : (i : Int) < GA.length := by omega
              have hw1 : IntKind.i64.wrap ((i : Int) + 1 - 1) = (i : Int) := by rw [Int.add_sub_cancel]; exact IntWalk.i64_in _ (by omega)
              have hw2 : IntKind.i64.wrap (i : Int) = (i : Int) := IntWalk.i64_in _ (by omega)
              have hS : wr.cell? ⟨G, o + (i + 1) * 2, none⟩ = some (.int .i64 x0) ∧ wr.cell? ⟨G, o + (i + 1) * 2 + 1, none⟩ = some (.int .i64 x1) ∧ wr.cell? ⟨G, o + i * 2 + 1, none⟩ = some (.int .i64 y1) ∧ wr.cell? ⟨w.heap.size, 0, none⟩ = some (.int .i64 u) ∧ wr.cell? ⟨w.heap.size, 1, none⟩ = some (.int .i64 z) ∧ Below wc.heap.size wc wr ∧ G < wr.heap.size ∧ w.heap.size < wr.heap.size := ⟨f0, f1, f3, q0, q1, hb, Nat.lt_of_lt_of_le hG hb.size, Nat.lt_of_lt_of_le hlc hb.size⟩
              have hs := Lib.hid hS
              clear hS f0 f1 f3 q0 q1 hb
              go_wp2
              go_region_held3 (fun w' => w'.cell? ⟨G, o + (i + 1) * 2, none⟩ = some (.int .i64 x0) ∧ w'.cell? ⟨G, o + (i + 1) * 2 + 1, none⟩ = some (.int .i64 x1) ∧ w'.cell? ⟨G, o + i * 2 + 1, none⟩ = some (.int .i64 y1) ∧ w'.cell? ⟨w.heap.size, 0, none⟩ = some (.int .i64 u) ∧ w'.cell? ⟨w.heap.size, 1, none⟩ = some (.int .i64 z) ∧ Below wc.heap.size wc w' ∧ G < w'.heap.size ∧ w.heap.size < w'.heap.size) (first | exact ⟨hs.out.1, hs.out.2.1, hs.out.2.2.1, hs.out.2.2.2.1, hs.out.2.2.2.2.1, hs.out.2.2.2.2.2.1.drew, hs.out.2.2.2.2.2.2.1, hs.out.2.2.2.2.2.2.2⟩ | assumption | go_keep)
                (first
                  | (go_at_call 12; refine (CV.out _ _ _).mono ?_; rintro e5 w5 ⟨rfl, b5⟩; have h5 := heldC (by assumption) b5))
              all_goals go_wp2
              all_goals
                have hB9 := h5.2.2.2.2.2.1
                go_roundw
                case rel => exact ⟨i + 1 + 1, by omega, by first | rfl | go_num, Lib.hid hB9⟩
                case measure => simp [intOf]; omega
          · skip
            go_wp2
            go_returns
            exact ⟨rfl, BX.out.trans (hb.mono BX.out.size)⟩

end Go.Proofs.Ytpeiiomimfiebaa
