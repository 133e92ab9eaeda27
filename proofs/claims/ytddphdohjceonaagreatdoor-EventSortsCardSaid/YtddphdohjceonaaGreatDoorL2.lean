/-
  EventSorts: a sorted list, and whether a list is in order, are as the specification says.
-/
import Derived.Test.YtddphdohjceonaaGreatDoorA17
import Derived.Test.YtddphdohjceonaaGreatDoorA19
namespace Go.Proofs.YtddphdohjceonaaGreatDoor
open Go Go.RowKit Go.Joins
set_option linter.unusedVariables false
set_option linter.unusedSimpArgs false

set_option maxRecDepth 20000 in
set_option maxHeartbeats 8000000 in
theorem law_sorts (l : List Ev) (V : Value) (w : World) (h1 : EvArg w V l) (hl : l.length ≤ 140737488351232) (hd : ∀ j (h : j < l.length), l[j].d.length ≤ 140737488351232) (hE : Env w) :
    Calls Tryz.prog 3 #[V] w fun e w' => e = .returned (.bool true) ∧ Below w.heap.size w w' := by
  have HA := Lib.hid (fun W h => awake_any W (hE.below h))
  have HT := Lib.hid (fun W (h : Below w.heap.size w W) => KArg.keep h1 h)
  have C1 := Lib.hid (small_any l V w h1 hl hd)
  cases hsm : smE l with
  | false =>
    rw [hsm] at C1
    clear h1 hd hE hsm
    go_enter Tryz.func3, Tryz.ntmps3
    go_wp2_with (first
      | (go_at_call 4; go_must (refine C1.out.mono ?_; rintro e1 w1 ⟨rfl, rfl⟩))
      | (go_at_call 5; go_must (refine (HA.out _ (Below.refl _ _)).mono ?_; rintro e2 w2 ⟨rfl, b2⟩)))
    go_returns
    exact ⟨rfl, b2⟩
  | true =>
    have hlen : l.length ≤ 1000 := by have := ((smE_iff l).1 hsm).1; omega
    rw [hsm] at C1
    have CS := Lib.hid (sorts_any l V w h1 hlen)
    have CR := Lib.hid (fun W h => refSort_any l V W (HT.out W h) hlen)
    have CO := Lib.hid (fun W h => ordered_any l V W (HT.out W h) hlen)
    have CQ := Lib.hid (fun W h => refOrdered_any l V W (HT.out W h) hlen)
    have hso : (soE l).length ≤ 1099511627776 := by rw [(soE_all l).1.length_eq]; omega
    have MM := Lib.hid (fun V V' W h h' => same_any (soE l) V V' W h h' hso)
    have qb : ∀ b : Bool, (b == b) = true := fun b => by simp
    clear h1 hd hE hsm hlen hso
    generalize soE l = L at *
    generalize oB l = R at *
    go_enter Tryz.func3, Tryz.ntmps3
    go_wp2_with (first
      | (go_at_call 4; go_must (refine C1.out.mono ?_; rintro e1 w1 ⟨rfl, hw1⟩; have hw2 := hw1.symm; clear hw1; subst hw2))
      | (go_at_call 7; go_must (refine CS.out.mono ?_; rintro e2 w2 ⟨V1, rfl, r2, b2⟩; have B2 := Lib.hid b2; have A2 := Lib.hid (KRow.arg evC_size r2); clear r2 b2))
      | (go_at_call 8; go_must (refine (CR.out _ B2.out).mono ?_; rintro e3 w3 ⟨V2, rfl, r3, b3⟩; have B3 := Lib.hid (B2.out.trans (b3.mono B2.out.size)); have A3 := Lib.hid (KArg.keep A2.out b3); have D3 := Lib.hid (KRow.arg evC_size r3); clear r3 b3))
      | (go_at_call 6; go_must (refine (MM.out _ _ _ A3.out D3.out).mono ?_; rintro e4 w4 ⟨rfl, b4⟩; have B4 := Lib.hid (B3.out.trans (b4.mono B3.out.size)); clear b4))
      | (go_at_call 9; go_must (refine (CO.out _ B4.out).mono ?_; rintro e5 w5 ⟨rfl, b5⟩; have B5 := Lib.hid (B4.out.trans (b5.mono B4.out.size)); clear b5))
      | (go_at_call 10; go_must (refine (CQ.out _ B5.out).mono ?_; rintro e6 w6 ⟨rfl, b6⟩; have B6 := Lib.hid (B5.out.trans (b6.mono B5.out.size)); clear b6))
      | (go_at_call 5; go_must (refine (HA.out _ B6.out).mono ?_; rintro e7 w7 ⟨rfl, b7⟩)))
    go_returns
    exact ⟨rfl, B6.out.trans (b7.mono B6.out.size)⟩

end Go.Proofs.YtddphdohjceonaaGreatDoor
