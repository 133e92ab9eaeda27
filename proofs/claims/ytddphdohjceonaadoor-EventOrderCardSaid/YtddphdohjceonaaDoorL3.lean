/-
  EventClips: the events inside any span, and the events later by any number of ticks, or the error, are those of the specification.
-/
import Derived.Test.YtddphdohjceonaaDoorA17
namespace Go.Proofs.YtddphdohjceonaaDoor
open Go Go.RowKit Go.Joins
set_option linter.unusedVariables false
set_option linter.unusedSimpArgs false

theorem held_sp {w3 W W' : World} {b : Nat} {F T : Int} (h : W.cell? ⟨b, 0, none⟩ = some (.int .i64 F) ∧ W.cell? ⟨b, 1, none⟩ = some (.int .i64 T) ∧ Below w3.heap.size w3 W ∧ b < W.heap.size) (hb : Below W.heap.size W W') : W'.cell? ⟨b, 0, none⟩ = some (.int .i64 F) ∧ W'.cell? ⟨b, 1, none⟩ = some (.int .i64 T) ∧ Below w3.heap.size w3 W' ∧ b < W'.heap.size := by
  obtain ⟨a0, a1, hB, l1⟩ := h
  have hs := hb.size
  exact ⟨(hb.cell l1).trans a0, (hb.cell l1).trans a1, hB.trans (hb.mono hB.size), by omega⟩
theorem smE_len {l : List Ev} (h : smE l = true) : l.length ≤ 1000 := by have := ((smE_iff l).1 h).1; omega
theorem shL_len (l : List Ev) (b : Int) : (shL l b).length ≤ l.length := by unfold shL; split <;> simp

set_option maxRecDepth 20000 in
set_option maxHeartbeats 8000000 in
theorem law_clips (l : List Ev) (V : Value) (F T by' : Int) (w : World) (h1 : EvArg w V l) (hl : l.length ≤ 140737488351232) (hd : ∀ j (h : j < l.length), l[j].d.length ≤ 140737488351232) (hb0 : -9223372036854775808 ≤ by') (hb1 : by' ≤ 9223372036854775807) (hE : Env w) :
    Calls Tryd.prog 4 #[V, .agg #[.int .i64 F, .int .i64 T], .int .i64 by'] w fun e w' => e = .returned (.bool true) ∧ Below w.heap.size w w' := by
  have HA := Lib.hid (fun W h => awake_any W (hE.below h))
  have HT := Lib.hid (fun W (h : Below w.heap.size w W) => KArg.keep h1 h)
  have C1 := Lib.hid (fun W h => small_any l V W (HT.out W h) hl hd)
  have B0 : Hid (Below w.heap.size w (w.alloc (.cells #[.int .i64 F, .int .i64 T] 30))) := Lib.hid (ba _ _)
  cases hsm : smE l with
  | false =>
    rw [hsm] at C1
    clear h1 hd hE hsm
    go_enter Tryd.func4, Tryd.ntmps4
    go_wp2_with (first
      | (go_at_call 17; go_must (refine (C1.out _ B0.out).mono ?_; rintro e1 w1 ⟨rfl, rfl⟩))
      | (go_at_call 10; go_must (refine (HA.out _ B0.out).mono ?_; rintro e2 w2 ⟨rfl, b2⟩)))
    go_returns
    exact ⟨rfl, B0.out.trans (b2.mono B0.out.size)⟩
  | true =>
    have hlen := smE_len hsm
    rw [hsm] at C1
    have CS := Lib.hid (fun W h => shift_any l V by' W (HT.out W h) hlen hd hb0 hb1)
    have CR := Lib.hid (fun W h => refShift_any l V by' W (HT.out W h) hlen hd hb0 hb1)
    have CC := Lib.hid (fun W h => clip_any l V F T W (HT.out W h) hlen)
    have CD := Lib.hid (fun W h => refClip_any l V F T W (HT.out W h) hlen)
    have hc2 : (clE l F T).length ≤ 1099511627776 := by have := clE_len l F T; omega
    have hs2 : (shL l by').length ≤ 1099511627776 := by have := shL_len l by'; omega
    have M1 := Lib.hid (fun V V' W h h' => same_any (clE l F T) V V' W h h' hc2)
    have M2 := Lib.hid (fun V V' W h h' => same_any (shL l by') V V' W h h' hs2)
    have RB := RowAt.new w 30 #[.int .i64 F, .int .i64 T]
    have HRB := Lib.hid RB
    clear h1 hd hE hsm hlen hc2 hs2 RB
    generalize clE l F T = L1 at *
    generalize shL l by' = L2 at *
    generalize shErr l by' = E at *
    go_enter Tryd.func4, Tryd.ntmps4
    go_wp2_with (first
      | (go_at_call 17; go_must (refine (C1.out _ B0.out).mono ?_; rintro e1 w1 ⟨rfl, rfl⟩))
      | (go_at_call 18; go_must (refine (CS.out _ B0.out).mono ?_; rintro e2 w2 ⟨V1, rfl, r2, b2⟩; have B2 := Lib.hid (B0.out.trans (b2.mono B0.out.size)); have R2 := Lib.hid (HRB.out.keep b2); have A2 := Lib.hid (KRow.arg evC_size r2); clear r2 b2))
      | (go_at_call 19; go_must (refine (CR.out _ B2.out).mono ?_; rintro e3 w3 ⟨V2, rfl, r3, b3⟩; have B3 := Lib.hid (B2.out.trans (b3.mono B2.out.size)); have R3 := Lib.hid (R2.out.keep b3); have A3 := Lib.hid (KArg.keep A2.out b3); have D3 := Lib.hid (KRow.arg evC_size r3); clear r3 b3)))
    have hs := Lib.hid (show w3.cell? ⟨w.heap.size, 0, none⟩ = some (.int .i64 F) ∧ w3.cell? ⟨w.heap.size, 1, none⟩ = some (.int .i64 T) ∧ Below w3.heap.size w3 w3 ∧ w.heap.size < w3.heap.size from ⟨R3.out.cell 0, R3.out.cell 1, Below.refl _ _, R3.out.lt⟩)
    have HTT := Lib.hid (fun W (h : Below w3.heap.size w3 W) => B3.out.trans (h.mono B3.out.size))
    have qe : (E == E) = true := by simp
    go_region_held3 (fun w' => w'.cell? ⟨w.heap.size, 0, none⟩ = some (.int .i64 F) ∧ w'.cell? ⟨w.heap.size, 1, none⟩ = some (.int .i64 T) ∧ Below w3.heap.size w3 w' ∧ w.heap.size < w'.heap.size) (first | assumption | exact held_sp hs.out (Below.refl _ _).drew | exact held_sp (by assumption) (Below.refl _ _).drew | fail)
      (first
        | (go_at_call 21; refine (CC.out _ (HTT.out _ (And.left (And.right (And.right (by assumption)))))).mono ?_; rintro e5 w5 ⟨v5, rfl, r5, b5⟩; have h5 := held_sp (by assumption) b5; have q5 := KRow.arg evC_size r5; (try have q65 := KArg.keep q6 b5))
        | (go_at_call 22; refine (CD.out _ (HTT.out _ (And.left (And.right (And.right (by assumption)))))).mono ?_; rintro e6 w6 ⟨v6, rfl, r6, b6⟩; have h6 := held_sp (by assumption) b6; have q6 := KRow.arg evC_size r6; (try have q56 := KArg.keep q5 b6))
        | (go_at_call 20; refine (M1.out _ _ _ (by assumption) (by assumption)).mono ?_; rintro e7 w7 ⟨rfl, b7⟩; have h7 := held_sp (by assumption) b7)
        | (go_at_call 20; refine (M2.out _ _ _ (KArg.keep A3.out (And.left (And.right (And.right (by assumption))))) (KArg.keep D3.out (And.left (And.right (And.right (by assumption)))))).mono ?_; rintro e8 w8 ⟨rfl, b8⟩; have h8 := held_sp (by assumption) b8)
        | (go_at_call 10; refine (HA.out _ (HTT.out _ (And.left (And.right (And.right (by assumption)))))).mono ?_; rintro e9 w9 ⟨rfl, b9⟩; have h9 := held_sp (by assumption) b9)
        | fail)
    all_goals
      rename_i hS9
      have hB9 := Lib.hid (HTT.out _ hS9.2.2.1)
      clear hS9
      go_wp2
      go_returns
      exact ⟨rfl, hB9.out⟩

end Go.Proofs.YtddphdohjceonaaDoor
