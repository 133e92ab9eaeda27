/-
  The walk of the statement SpanLists.
-/
import Derived.Test.YtpeiiomimfiebaaW7
import Derived.Test.YtpeiiomimfiebaaW9
import Derived.Test.YtpeiiomimfiebaaW11
import Derived.Test.YtpeiiomimfiebaaW12
import Derived.Deep.RegionHeld3
namespace Go.Proofs.Ytpeiiomimfiebaa
open Go Go.RowKit Go.Joins
set_option linter.unusedVariables false
set_option linter.unusedSimpArgs false

/-- What the region holds of the world: the box of the span, and old memory. -/
theorem heldBox {w0 w w' : World} {b : Nat} {v1 v2 : Value}
    (h : w.cell? ⟨b, 0, none⟩ = some v1 ∧ w.cell? ⟨b, 1, none⟩ = some v2 ∧ Below w0.heap.size w0 w ∧ b < w.heap.size) (hb : Below w.heap.size w w') :
    w'.cell? ⟨b, 0, none⟩ = some v1 ∧ w'.cell? ⟨b, 1, none⟩ = some v2 ∧ Below w0.heap.size w0 w' ∧ b < w'.heap.size := by
  obtain ⟨h1, h2, h6, l1⟩ := h
  exact ⟨(hb.cell (p := ⟨b, 0, none⟩) l1).trans h1, (hb.cell (p := ⟨b, 1, none⟩) l1).trans h2, h6.trans (hb.mono h6.size), Nat.lt_of_lt_of_le l1 hb.size⟩
theorem boxB {w0 w : World} {b : Nat} {v1 v2 : Value} (h : w.cell? ⟨b, 0, none⟩ = some v1 ∧ w.cell? ⟨b, 1, none⟩ = some v2 ∧ Below w0.heap.size w0 w ∧ b < w.heap.size) : Below w0.heap.size w0 w := h.2.2.1

set_option maxRecDepth 20000 in
set_option maxHeartbeats 4000000 in
theorem law_lists (l : List Sp) (v : Value) (u z t : Int) (w : World) (hT : SpArg w v l) : Calls Try.prog 4 #[v, .agg #[.int .i64 u, .int .i64 z], .int .i64 t] w fun e w' => e = .returned (.bool true) ∧ Below w.heap.size w w' := by
  have HT := Lib.hid (fun W (hb : Below w.heap.size w W) => KArg.keep hT hb)
  by_cases hn : 60 < l.length
  · obtain ⟨A, c, rfl, hA⟩ := hT
    clear hA HT
    have hn' : (60 : Int) < l.length := by omega
    go_enter Try.func4, Try.ntmps4
    go_wp2_with (first
      | (go_at_call 9; go_must (refine (lives_any _).mono ?_; rintro e1 w1 ⟨rfl, b1⟩)))
    go_returns
    exact ⟨rfl, (by repeat' (first | with_reducible exact Below.refl _ _ | with_reducible exact Nat.le_refl _ | with_reducible assumption | with_reducible refine below_drewN ?_ _ | with_reducible refine Below.drew ?_ | with_reducible refine Below.trans ?_ (Below.mono (by assumption) ?_) | with_reducible refine Below.alloc ?_ ?_ _ | with_reducible refine Below.setCell ?_ ?_ _ | with_reducible refine le_setCell ?_ _ _ | with_reducible refine le_alloc ?_ _ | with_reducible refine le_drewN ?_ _ | with_reducible refine le_drew ?_ | with_reducible refine Nat.le_trans ?_ (Below.size (by assumption)) | (simp only [World.size_alloc, World.size_setCell]; omega)))⟩
  have CJ := Lib.hid (fun W h => join_any l v W h (by omega))
  have CK := Lib.hid (fun W h => refJoin_any l v W h (by omega))
  have CG := Lib.hid (fun W h => gaps_any l v u z W h (by omega))
  have CH := Lib.hid (fun W h => refGaps_any l v u z W h (by omega))
  have CT := fun W h => total_any l v W h (by omega)
  have CU := fun W h => refTotal_any l v W h (by omega)
  have CF := fun W h => find_any l v t W h (by omega)
  have CE := fun W h => refFind_any l v t W h (by omega)
  have CS := Lib.hid (fun J V V' W h1 h2 hl => same_any J V V' W h1 h2 hl)
  have hJl : (un l).length ≤ 1099511627776 := Nat.le_trans (un_length l) (by omega)
  have hGl : (ga l (u, z)).length ≤ 1099511627776 := Nat.le_trans (ga_length l (u, z)) (by omega)
  generalize un l = J at *
  generalize ga l (u, z) = GA at *
  generalize tot J = T at *
  generalize fnd l t = k at *
  have HCT := Lib.hid CT; have HCU := Lib.hid CU; have HCF := Lib.hid CF; have HCE := Lib.hid CE
  obtain ⟨A, c, rfl, hA⟩ := hT
  have hn' : (l.length : Int) ≤ 60 := by omega
  clear hA hn CT CU CF CE
  go_enter Try.func4, Try.ntmps4
  go_wp2_with (first
    | (go_at_call 9; go_must (refine (lives_any _).mono ?_; rintro e1 W ⟨rfl, b1⟩; have R1 := Lib.hid ((RowAt.new w 23 #[.int .i64 u, .int .i64 z]).keep b1); have B1 := Lib.hid (show Below w.heap.size w W from (ba w _).trans (b1.mono (le_alloc (Nat.le_refl _) _))); clear b1)))
  go_region_held3 (fun w' => w'.cell? ⟨w.heap.size, 0, none⟩ = some (.int .i64 u) ∧ w'.cell? ⟨w.heap.size, 1, none⟩ = some (.int .i64 z) ∧ Below w.heap.size w w' ∧ w.heap.size < w'.heap.size) (first | exact ⟨R1.out.cell 0, R1.out.cell 1, B1.out.drew, R1.out.lt⟩ | assumption | go_keep)
    (first
      | (go_at_call 17; refine (CJ.out _ (HT.out _ (boxB (by assumption)))).mono ?_; rintro ea wa ⟨ua, rfl, ra, bja⟩; have xa := Lib.hid (ra.arg spC_size); clear ra; have h1 := heldBox (by assumption) bja)
      | (go_at_call 18; refine (CK.out _ (HT.out _ (boxB (by assumption)))).mono ?_; rintro eb wb ⟨ub, rfl, rb, bjb⟩; have xb := Lib.hid (rb.arg spC_size); clear rb; have h2 := heldBox (by assumption) bjb)
      | (go_at_call 19; refine (CG.out _ (HT.out _ (boxB (by assumption)))).mono ?_; rintro ec wc ⟨uc, rfl, rc, bgc⟩; have xc := Lib.hid (rc.arg spC_size); clear rc; have h3 := heldBox (by assumption) bgc)
      | (go_at_call 20; refine (CH.out _ (HT.out _ (boxB (by assumption)))).mono ?_; rintro ed wd ⟨ud, rfl, rd, bgd⟩; have xd := Lib.hid (rd.arg spC_size); clear rd; have h4 := heldBox (by assumption) bgd)
      | (go_at_call 16; first
          | (refine (CS.out GA _ _ _ (xc.out.keep (by repeat' (first | with_reducible exact Below.refl _ _ | with_reducible exact Nat.le_refl _ | with_reducible assumption | with_reducible refine below_drewN ?_ _ | with_reducible refine Below.drew ?_ | with_reducible refine Below.trans ?_ (Below.mono (by assumption) ?_) | with_reducible refine Below.alloc ?_ ?_ _ | with_reducible refine Below.setCell ?_ ?_ _ | with_reducible refine le_setCell ?_ _ _ | with_reducible refine le_alloc ?_ _ | with_reducible refine le_drewN ?_ _ | with_reducible refine le_drew ?_ | with_reducible refine Nat.le_trans ?_ (Below.size (by assumption)) | (simp only [World.size_alloc, World.size_setCell]; omega)))) (xd.out.keep (by repeat' (first | with_reducible exact Below.refl _ _ | with_reducible exact Nat.le_refl _ | with_reducible assumption | with_reducible refine below_drewN ?_ _ | with_reducible refine Below.drew ?_ | with_reducible refine Below.trans ?_ (Below.mono (by assumption) ?_) | with_reducible refine Below.alloc ?_ ?_ _ | with_reducible refine Below.setCell ?_ ?_ _ | with_reducible refine le_setCell ?_ _ _ | with_reducible refine le_alloc ?_ _ | with_reducible refine le_drewN ?_ _ | with_reducible refine le_drew ?_ | with_reducible refine Nat.le_trans ?_ (Below.size (by assumption)) | (simp only [World.size_alloc, World.size_setCell]; omega)))) hGl).mono ?_; rintro ee we ⟨rfl, bse⟩; have h5 := heldBox (by assumption) bse)
          | (refine (CS.out J _ _ _ (xa.out.keep (by repeat' (first | with_reducible exact Below.refl _ _ | with_reducible exact Nat.le_refl _ | with_reducible assumption | with_reducible refine below_drewN ?_ _ | with_reducible refine Below.drew ?_ | with_reducible refine Below.trans ?_ (Below.mono (by assumption) ?_) | with_reducible refine Below.alloc ?_ ?_ _ | with_reducible refine Below.setCell ?_ ?_ _ | with_reducible refine le_setCell ?_ _ _ | with_reducible refine le_alloc ?_ _ | with_reducible refine le_drewN ?_ _ | with_reducible refine le_drew ?_ | with_reducible refine Nat.le_trans ?_ (Below.size (by assumption)) | (simp only [World.size_alloc, World.size_setCell]; omega)))) (xb.out.keep (by repeat' (first | with_reducible exact Below.refl _ _ | with_reducible exact Nat.le_refl _ | with_reducible assumption | with_reducible refine below_drewN ?_ _ | with_reducible refine Below.drew ?_ | with_reducible refine Below.trans ?_ (Below.mono (by assumption) ?_) | with_reducible refine Below.alloc ?_ ?_ _ | with_reducible refine Below.setCell ?_ ?_ _ | with_reducible refine le_setCell ?_ _ _ | with_reducible refine le_alloc ?_ _ | with_reducible refine le_drewN ?_ _ | with_reducible refine le_drew ?_ | with_reducible refine Nat.le_trans ?_ (Below.size (by assumption)) | (simp only [World.size_alloc, World.size_setCell]; omega)))) hJl).mono ?_; rintro ef wf ⟨rfl, bsf⟩; have h6 := heldBox (by assumption) bsf))
      | (go_at_call 21; refine (HCT.out _ (HT.out _ (boxB (by assumption)))).mono ?_; rintro eg wg ⟨rfl, btg⟩; have h7 := heldBox (by assumption) btg)
      | (go_at_call 22; refine (HCU.out _ (HT.out _ (boxB (by assumption)))).mono ?_; rintro eh wh ⟨rfl, bth⟩; have h8 := heldBox (by assumption) bth)
      | (go_at_call 23; refine (HCF.out _ (HT.out _ (boxB (by assumption)))).mono ?_; rintro ei wi ⟨rfl, bfi⟩; have h9 := heldBox (by assumption) bfi)
      | (go_at_call 24; refine (HCE.out _ (HT.out _ (boxB (by assumption)))).mono ?_; rintro ej wj ⟨rfl, bfj⟩; have h10 := heldBox (by assumption) bfj))
  all_goals go_wp2
  all_goals go_returns
  all_goals (refine ⟨by first | rfl | simp, ?_⟩; rename_i hh; exact hh.2.2.1)

end Go.Proofs.Ytpeiiomimfiebaa
