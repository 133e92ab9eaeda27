/-
  The walk of the statement SpanPartition.
-/
import Derived.Test.YtpeiiomimfiebaaW7
import Derived.Test.YtpeiiomimfiebaaW9
import Derived.Test.YtpeiiomimfiebaaW12
import Derived.Deep.RegionWith
import Derived.Deep.CutRange
namespace Go.Proofs.Ytpeiiomimfiebaa
open Go Go.RowKit Go.Joins
set_option linter.unusedVariables false
set_option linter.unusedSimpArgs false

theorem cnt_un (l : List Sp) (t : Int) : cnt (un l) t = if cov l t then 1 else 0 := by
  obtain ⟨h1, _, h3⟩ := un_all l
  rw [h1.cnt_eq]
  by_cases h : cov l t = true
  · rw [if_pos ((h3 t).2 h), if_pos h]
  · rw [if_neg (fun hm => h ((h3 t).1 hm)), if_neg h]
theorem cnt_ga (l : List Sp) (all : Sp) (t : Int) (hv : vl all = true) (h1 : all.1 ≤ t) (h2 : t < all.2) : cnt (ga l all) t = if cov l t then 0 else 1 := by
  obtain ⟨g1, _, g3⟩ := ga_all l all
  rw [g1.cnt_eq]
  cases h : cov l t with
  | true => rw [if_neg (fun hm => by have := ((g3 t).1 hm).2.2; rw [h] at this; cases this)]; rfl
  | false => rw [if_pos ((g3 t).2 ⟨hv, ⟨h1, h2⟩, h⟩)]; rfl

set_option maxRecDepth 20000 in
set_option maxHeartbeats 4000000 in
theorem law_partition (l : List Sp) (v : Value) (u z t : Int) (w : World) (hT : SpArg w v l) : Calls Try.prog 5 #[v, .agg #[.int .i64 u, .int .i64 z], .int .i64 t] w fun e w' => e = .returned (.bool true) ∧ Below w.heap.size w w' := by
  have CV := Lib.hid valid_xy
  have HT := Lib.hid (fun W (hb : Below w.heap.size w W) => KArg.keep hT hb)
  have early : ∀ (hx : 200 < l.length ∨ (¬ 200 < l.length ∧ (vl (u, z) = false ∨ (vl (u, z) = true ∧ t < u) ∨ (vl (u, z) = true ∧ ¬ t < u ∧ z ≤ t)))), Calls Try.prog 5 #[v, .agg #[.int .i64 u, .int .i64 z], .int .i64 t] w fun e w' => e = .returned (.bool true) ∧ Below w.heap.size w w' := by
    intro hx
    obtain ⟨A, c, rfl, hA⟩ := hT
    clear hA HT
    rcases hx with hn | ⟨hn, hx⟩
    · have hn' : (200 : Int) < l.length := by omega
      go_enter Try.func5, Try.ntmps5
      go_wp2_with (first
        | (go_at_call 9; go_must (refine (lives_any _).mono ?_; rintro e1 w1 ⟨rfl, b1⟩)))
      go_returns
      exact ⟨rfl, (by repeat' (first | with_reducible exact Below.refl _ _ | with_reducible exact Nat.le_refl _ | with_reducible assumption | with_reducible refine below_drewN ?_ _ | with_reducible refine Below.drew ?_ | with_reducible refine Below.trans ?_ (Below.mono (by assumption) ?_) | with_reducible refine Below.alloc ?_ ?_ _ | with_reducible refine Below.setCell ?_ ?_ _ | with_reducible refine le_setCell ?_ _ _ | with_reducible refine le_alloc ?_ _ | with_reducible refine le_drewN ?_ _ | with_reducible refine le_drew ?_ | with_reducible refine Nat.le_trans ?_ (Below.size (by assumption)) | (simp only [World.size_alloc, World.size_setCell]; omega)))⟩
    · have hn' : (l.length : Int) ≤ 200 := by omega
      clear hn
      rcases hx with h2 | ⟨h2, h3⟩ | ⟨h2, h3, h4⟩
      all_goals
        go_enter Try.func5, Try.ntmps5
        go_wp2_with (first
          | (go_at_call 9; go_must (refine (lives_any _).mono ?_; rintro e1 w1 ⟨rfl, b1⟩; have R1 := (RowAt.new w 23 #[.int .i64 u, .int .i64 z]).keep b1; have a0 : w1.cell? ⟨w.heap.size, 0, none⟩ = some (.int .i64 u) := R1.cell 0; have a1 : w1.cell? ⟨w.heap.size, 1, none⟩ = some (.int .i64 z) := R1.cell 1; have a2 : (w1.alloc (.cells #[.int .i64 u, .int .i64 z] 23)).cell? ⟨w.heap.size, 0, none⟩ = some (.int .i64 u) := (R1.alloc _).cell 0; have a3 : (w1.alloc (.cells #[.int .i64 u, .int .i64 z] 23)).cell? ⟨w.heap.size, 1, none⟩ = some (.int .i64 z) := (R1.alloc _).cell 1))
          | (go_at_call 12; go_must (refine (CV.out _ _ _).mono ?_; rintro e1 w3 ⟨rfl, rfl⟩)))
        go_returns
        exact ⟨rfl, (by repeat' (first | with_reducible exact Below.refl _ _ | with_reducible exact Nat.le_refl _ | with_reducible assumption | with_reducible refine below_drewN ?_ _ | with_reducible refine Below.drew ?_ | with_reducible refine Below.trans ?_ (Below.mono (by assumption) ?_) | with_reducible refine Below.alloc ?_ ?_ _ | with_reducible refine Below.setCell ?_ ?_ _ | with_reducible refine le_setCell ?_ _ _ | with_reducible refine le_alloc ?_ _ | with_reducible refine le_drewN ?_ _ | with_reducible refine le_drew ?_ | with_reducible refine Nat.le_trans ?_ (Below.size (by assumption)) | (simp only [World.size_alloc, World.size_setCell]; omega)))⟩
  by_cases hn : 200 < l.length
  · exact early (.inl hn)
  cases hv : vl (u, z) with
  | false => exact early (.inr ⟨hn, .inl hv⟩)
  | true =>
  by_cases h1 : t < u
  · exact early (.inr ⟨hn, .inr (.inl ⟨hv, h1⟩)⟩)
  by_cases h2 : z ≤ t
  · exact early (.inr ⟨hn, .inr (.inr ⟨hv, h1, h2⟩)⟩)
  clear early
  have CJ := Lib.hid (fun W h => join_any l v W h (by omega))
  have CG := Lib.hid (fun W h => gaps_any l v u z W h (by omega))
  have C1 := fun W h => find_any l v t W h (by omega)
  have C2 := fun V W h => count_any (un l) V t W h (by have := un_length l; omega)
  have C3 := fun V W h => count_any (ga l (u, z)) V t W h (by have := ga_length l (u, z); omega)
  rw [cnt_un] at C2
  rw [cnt_ga l (u, z) t hv (by simp only; omega) (by simp only; omega)] at C3
  have hfc := fnd_cov l t
  have hfb := (fnd_bounds l t).1
  generalize fnd l t = k at *
  generalize un l = J at *
  generalize ga l (u, z) = GA at *
  obtain ⟨A, c, rfl, hA⟩ := hT
  have hn' : (l.length : Int) ≤ 200 := by omega
  clear hA hn
  have H1 := Lib.hid C1; have H2 := Lib.hid C2; have H3 := Lib.hid C3
  have HC := Lib.hid hfc; have HK := Lib.hid hfb
  clear C1 C2 C3 hfc hfb
  go_enter Try.func5, Try.ntmps5
  go_upto_region 5 with (first
    | (go_at_call 9; go_must (refine (lives_any _).mono ?_; rintro e1 w1 ⟨rfl, b1⟩; have R1 := (RowAt.new w 23 #[.int .i64 u, .int .i64 z]).keep b1; have a0 : w1.cell? ⟨w.heap.size, 0, none⟩ = some (.int .i64 u) := R1.cell 0; have a1 : w1.cell? ⟨w.heap.size, 1, none⟩ = some (.int .i64 z) := R1.cell 1; have a2 : (w1.alloc (.cells #[.int .i64 u, .int .i64 z] 23)).cell? ⟨w.heap.size, 0, none⟩ = some (.int .i64 u) := (R1.alloc _).cell 0; have a3 : (w1.alloc (.cells #[.int .i64 u, .int .i64 z] 23)).cell? ⟨w.heap.size, 1, none⟩ = some (.int .i64 z) := (R1.alloc _).cell 1))
    | (go_at_call 12; go_must (refine (CV.out _ _ _).mono ?_; rintro e1 w3 ⟨rfl, rfl⟩)))
  have BW : Below w.heap.size w (w1.alloc (.cells #[.int .i64 u, .int .i64 z] 23)) := (by repeat' (first | with_reducible exact Below.refl _ _ | with_reducible exact Nat.le_refl _ | with_reducible assumption | with_reducible refine below_drewN ?_ _ | with_reducible refine Below.drew ?_ | with_reducible refine Below.trans ?_ (Below.mono (by assumption) ?_) | with_reducible refine Below.alloc ?_ ?_ _ | with_reducible refine Below.setCell ?_ ?_ _ | with_reducible refine le_setCell ?_ _ _ | with_reducible refine le_alloc ?_ _ | with_reducible refine le_drewN ?_ _ | with_reducible refine le_drew ?_ | with_reducible refine Nat.le_trans ?_ (Below.size (by assumption)) | (simp only [World.size_alloc, World.size_setCell]; omega)))
  have HB0 := Lib.hid (fun X (hb : Below (w1.alloc (.cells #[.int .i64 u, .int .i64 z] 23)).heap.size (w1.alloc (.cells #[.int .i64 u, .int .i64 z] 23)) X) => ((R1.alloc (.cells #[.int .i64 u, .int .i64 z] 23)).keep hb).cell 0)
  have HB1 := Lib.hid (fun X (hb : Below (w1.alloc (.cells #[.int .i64 u, .int .i64 z] 23)).heap.size (w1.alloc (.cells #[.int .i64 u, .int .i64 z] 23)) X) => ((R1.alloc (.cells #[.int .i64 u, .int .i64 z] 23)).keep hb).cell 1)
  clear a0 a1 R1 b1
  generalize (w1.alloc (.cells #[.int .i64 u, .int .i64 z] 23)) = W at *
  go_cut [7, 8] from 32 to 36 (fun s7 s8 wx => Hid (SpArg wx s7 J) ∧ Hid (SpArg wx s8 GA) ∧ Hid (Below w.heap.size w wx))
  case first =>
    go_region_with (first
      | (go_at_call 17; refine (CJ.out _ (HT.out _ (by repeat' (first | with_reducible exact Below.refl _ _ | with_reducible exact Nat.le_refl _ | with_reducible assumption | with_reducible refine below_drewN ?_ _ | with_reducible refine Below.drew ?_ | with_reducible refine Below.trans ?_ (Below.mono (by assumption) ?_) | with_reducible refine Below.alloc ?_ ?_ _ | with_reducible refine Below.setCell ?_ ?_ _ | with_reducible refine le_setCell ?_ _ _ | with_reducible refine le_alloc ?_ _ | with_reducible refine le_drewN ?_ _ | with_reducible refine le_drew ?_ | with_reducible refine Nat.le_trans ?_ (Below.size (by assumption)) | (simp only [World.size_alloc, World.size_setCell]; omega))))).mono ?_; rintro ea wa ⟨ua, rfl, ra, bja⟩; have xa := ra.arg spC_size; clear ra; have ka0 : wa.cell? ⟨w.heap.size, 0, none⟩ = some (.int .i64 u) := HB0.out wa (by repeat' (first | with_reducible exact Below.refl _ _ | with_reducible exact Nat.le_refl _ | with_reducible assumption | with_reducible refine below_drewN ?_ _ | with_reducible refine Below.drew ?_ | with_reducible refine Below.trans ?_ (Below.mono (by assumption) ?_) | with_reducible refine Below.alloc ?_ ?_ _ | with_reducible refine Below.setCell ?_ ?_ _ | with_reducible refine le_setCell ?_ _ _ | with_reducible refine le_alloc ?_ _ | with_reducible refine le_drewN ?_ _ | with_reducible refine le_drew ?_ | with_reducible refine Nat.le_trans ?_ (Below.size (by assumption)) | (simp only [World.size_alloc, World.size_setCell]; omega))); have ka1 : wa.cell? ⟨w.heap.size, 1, none⟩ = some (.int .i64 z) := HB1.out wa (by repeat' (first | with_reducible exact Below.refl _ _ | with_reducible exact Nat.le_refl _ | with_reducible assumption | with_reducible refine below_drewN ?_ _ | with_reducible refine Below.drew ?_ | with_reducible refine Below.trans ?_ (Below.mono (by assumption) ?_) | with_reducible refine Below.alloc ?_ ?_ _ | with_reducible refine Below.setCell ?_ ?_ _ | with_reducible refine le_setCell ?_ _ _ | with_reducible refine le_alloc ?_ _ | with_reducible refine le_drewN ?_ _ | with_reducible refine le_drew ?_ | with_reducible refine Nat.le_trans ?_ (Below.size (by assumption)) | (simp only [World.size_alloc, World.size_setCell]; omega))))
      | (go_at_call 19; refine (CG.out _ (HT.out _ (by repeat' (first | with_reducible exact Below.refl _ _ | with_reducible exact Nat.le_refl _ | with_reducible assumption | with_reducible refine below_drewN ?_ _ | with_reducible refine Below.drew ?_ | with_reducible refine Below.trans ?_ (Below.mono (by assumption) ?_) | with_reducible refine Below.alloc ?_ ?_ _ | with_reducible refine Below.setCell ?_ ?_ _ | with_reducible refine le_setCell ?_ _ _ | with_reducible refine le_alloc ?_ _ | with_reducible refine le_drewN ?_ _ | with_reducible refine le_drew ?_ | with_reducible refine Nat.le_trans ?_ (Below.size (by assumption)) | (simp only [World.size_alloc, World.size_setCell]; omega))))).mono ?_; rintro eb wb ⟨ub, rfl, rb, bgb⟩; have xb := rb.arg spC_size; clear rb; have kb0 : wb.cell? ⟨w.heap.size, 0, none⟩ = some (.int .i64 u) := HB0.out wb (by repeat' (first | with_reducible exact Below.refl _ _ | with_reducible exact Nat.le_refl _ | with_reducible assumption | with_reducible refine below_drewN ?_ _ | with_reducible refine Below.drew ?_ | with_reducible refine Below.trans ?_ (Below.mono (by assumption) ?_) | with_reducible refine Below.alloc ?_ ?_ _ | with_reducible refine Below.setCell ?_ ?_ _ | with_reducible refine le_setCell ?_ _ _ | with_reducible refine le_alloc ?_ _ | with_reducible refine le_drewN ?_ _ | with_reducible refine le_drew ?_ | with_reducible refine Nat.le_trans ?_ (Below.size (by assumption)) | (simp only [World.size_alloc, World.size_setCell]; omega))); have kb1 : wb.cell? ⟨w.heap.size, 1, none⟩ = some (.int .i64 z) := HB1.out wb (by repeat' (first | with_reducible exact Below.refl _ _ | with_reducible exact Nat.le_refl _ | with_reducible assumption | with_reducible refine below_drewN ?_ _ | with_reducible refine Below.drew ?_ | with_reducible refine Below.trans ?_ (Below.mono (by assumption) ?_) | with_reducible refine Below.alloc ?_ ?_ _ | with_reducible refine Below.setCell ?_ ?_ _ | with_reducible refine le_setCell ?_ _ _ | with_reducible refine le_alloc ?_ _ | with_reducible refine le_drewN ?_ _ | with_reducible refine le_drew ?_ | with_reducible refine Nat.le_trans ?_ (Below.size (by assumption)) | (simp only [World.size_alloc, World.size_setCell]; omega)))))
    all_goals
      go_wp2_with fail
      go_meet
      first
        | exact ⟨Lib.hid xa, Lib.hid (xb.keep (by repeat' (first | with_reducible exact Below.refl _ _ | with_reducible exact Nat.le_refl _ | with_reducible assumption | with_reducible refine below_drewN ?_ _ | with_reducible refine Below.drew ?_ | with_reducible refine Below.trans ?_ (Below.mono (by assumption) ?_) | with_reducible refine Below.alloc ?_ ?_ _ | with_reducible refine Below.setCell ?_ ?_ _ | with_reducible refine le_setCell ?_ _ _ | with_reducible refine le_alloc ?_ _ | with_reducible refine le_drewN ?_ _ | with_reducible refine le_drew ?_ | with_reducible refine Nat.le_trans ?_ (Below.size (by assumption)) | (simp only [World.size_alloc, World.size_setCell]; omega)))), Lib.hid (by repeat' (first | with_reducible exact Below.refl _ _ | with_reducible exact Nat.le_refl _ | with_reducible assumption | with_reducible refine below_drewN ?_ _ | with_reducible refine Below.drew ?_ | with_reducible refine Below.trans ?_ (Below.mono (by assumption) ?_) | with_reducible refine Below.alloc ?_ ?_ _ | with_reducible refine Below.setCell ?_ ?_ _ | with_reducible refine le_setCell ?_ _ _ | with_reducible refine le_alloc ?_ _ | with_reducible refine le_drewN ?_ _ | with_reducible refine le_drew ?_ | with_reducible refine Nat.le_trans ?_ (Below.size (by assumption)) | (simp only [World.size_alloc, World.size_setCell]; omega)))⟩
        | exact ⟨Lib.hid (xa.keep (by repeat' (first | with_reducible exact Below.refl _ _ | with_reducible exact Nat.le_refl _ | with_reducible assumption | with_reducible refine below_drewN ?_ _ | with_reducible refine Below.drew ?_ | with_reducible refine Below.trans ?_ (Below.mono (by assumption) ?_) | with_reducible refine Below.alloc ?_ ?_ _ | with_reducible refine Below.setCell ?_ ?_ _ | with_reducible refine le_setCell ?_ _ _ | with_reducible refine le_alloc ?_ _ | with_reducible refine le_drewN ?_ _ | with_reducible refine le_drew ?_ | with_reducible refine Nat.le_trans ?_ (Below.size (by assumption)) | (simp only [World.size_alloc, World.size_setCell]; omega)))), Lib.hid xb, Lib.hid (by repeat' (first | with_reducible exact Below.refl _ _ | with_reducible exact Nat.le_refl _ | with_reducible assumption | with_reducible refine below_drewN ?_ _ | with_reducible refine Below.drew ?_ | with_reducible refine Below.trans ?_ (Below.mono (by assumption) ?_) | with_reducible refine Below.alloc ?_ ?_ _ | with_reducible refine Below.setCell ?_ ?_ _ | with_reducible refine le_setCell ?_ _ _ | with_reducible refine le_alloc ?_ _ | with_reducible refine le_drewN ?_ _ | with_reducible refine le_drew ?_ | with_reducible refine Nat.le_trans ?_ (Below.size (by assumption)) | (simp only [World.size_alloc, World.size_setCell]; omega)))⟩
  case rest =>
    obtain ⟨XJ, XG, BX⟩ := hcut
    have hk0 := HC.out
    have H2' := H2.out; have H3' := H3.out
    cases hc : cov l t with
    | true =>
      rw [hc] at hk0
      simp only [hc, if_true, decide_eq_true_eq] at H2' H3' hk0
      have K2 := Lib.hid H2'; have K3 := Lib.hid H3'
      clear H2 H3 H2' H3' HC CJ CG hc
      go_wp2_with (first
        | (go_at_call 23; go_must (refine (H1.out _ (HT.out _ BX.out)).mono ?_; rintro e5 w5 ⟨rfl, b5⟩; have X5 := Lib.hid (XJ.out.keep b5); have Y5 := Lib.hid (XG.out.keep b5); have B5 := Lib.hid (BX.out.trans (b5.mono BX.out.size))))
        | (go_at_call 25; go_must (first
            | (refine (K3.out _ _ Y6.out).mono ?_; rintro e7 w7 ⟨rfl, b7⟩; have B7 := Lib.hid (B6.out.trans (b7.mono B6.out.size)))
            | (refine (K2.out _ _ X5.out).mono ?_; rintro e6 w6 ⟨rfl, b6⟩; have Y6 := Lib.hid (Y5.out.keep b6); have B6 := Lib.hid (B5.out.trans (b6.mono B5.out.size))))))
      go_returns
      exact ⟨by first | rfl | simp, B7.out⟩
    | false =>
      rw [hc] at hk0
      simp only [hc, Bool.false_eq_true, if_false, decide_eq_false_iff_not] at H2' H3' hk0
      have K2 := Lib.hid H2'; have K3 := Lib.hid H3'
      clear H2 H3 H2' H3' HC CJ CG hc
      go_wp2_with (first
        | (go_at_call 23; go_must (refine (H1.out _ (HT.out _ BX.out)).mono ?_; rintro e5 w5 ⟨rfl, b5⟩; have X5 := Lib.hid (XJ.out.keep b5); have Y5 := Lib.hid (XG.out.keep b5); have B5 := Lib.hid (BX.out.trans (b5.mono BX.out.size))))
        | (go_at_call 25; go_must (first
            | (refine (K3.out _ _ Y6.out).mono ?_; rintro e7 w7 ⟨rfl, b7⟩; have B7 := Lib.hid (B6.out.trans (b7.mono B6.out.size)))
            | (refine (K2.out _ _ X5.out).mono ?_; rintro e6 w6 ⟨rfl, b6⟩; have Y6 := Lib.hid (Y5.out.keep b6); have B6 := Lib.hid (B5.out.trans (b6.mono B5.out.size))))))
      go_returns
      exact ⟨by first | rfl | simp, B7.out⟩

end Go.Proofs.Ytpeiiomimfiebaa
