/-
  The walk of the statement RatioValid.
-/
import Derived.Test.YtlbepbddhnmmjaaDoorW16
import Derived.Deep.RegionHeld3
namespace Go.Proofs.YtlbepbddhnmmjaaDoor
open Go.RowKit

/-- A call that only makes memory, inside a statement that loads two old cells. -/
theorem held {f : FuncId} {args : Array Value} {v x y : Value} {b : Nat} {m : Int} {w0 w : World} (hc : ∀ w, Env m w → Calls Tryd.prog f args w fun e w' => e = .returned v ∧ Below w.heap.size w w')
    (hS : w.cell? ⟨b, 0, none⟩ = some x ∧ w.cell? ⟨b, 1, none⟩ = some y ∧ Env m w ∧ Below w0.heap.size w0 w ∧ b < w.heap.size) :
    Calls Tryd.prog f args w fun e w' => e = .returned v ∧ (w'.cell? ⟨b, 0, none⟩ = some x ∧ w'.cell? ⟨b, 1, none⟩ = some y ∧ Env m w' ∧ Below w0.heap.size w0 w' ∧ b < w'.heap.size) := by
  obtain ⟨h1, h2, h3, h4, h5⟩ := hS
  exact (hc w h3).mono fun e w' ⟨he, hw⟩ => ⟨he, by rw [hw.cell h5]; exact h1, by rw [hw.cell h5]; exact h2, h3.below hw, h4.trans (hw.mono h4.size), Nat.lt_of_lt_of_le h5 hw.size⟩

set_option maxHeartbeats 8000000 in
theorem law_valid (x y m : Int) (w : World) (hx0 : -9223372036854775808 ≤ x) (hx1 : x ≤ 9223372036854775807) (hy0 : -9223372036854775808 ≤ y) (hy1 : y ≤ 9223372036854775807) (h : Env m w) :
    Calls Tryd.prog 3 #[.agg #[.int .i64 x, .int .i64 y]] w fun e w' => e = .returned (.bool true) ∧ Below w.heap.size w w' := by
  have A0 := new2 w (.int .i64 x) (.int .i64 y) 23
  have h0 := h.below (ba _ (.cells #[.int .i64 x, .int .i64 y] 23))
  have b0 := ba w (.cells #[.int .i64 x, .int .i64 y] 23)
  obtain ⟨v, hv⟩ : ∃ v, validB x y = v := ⟨_, rfl⟩
  obtain ⟨t, ht⟩ : ∃ t : ByteArray, ⟨(txV x y).toArray⟩ = t := ⟨_, rfl⟩
  have c1 := fun w (_ : Env m w) => valid_any x y w hx0 hx1 hy0 hy1
  have c2 := fun w (_ : Env m w) => rvalid_any x y w hx0 hx1 hy0 hy1
  have c3 := fun w (h : Env m w) => text_any x y w hx0 hx1 hy0 hy1 h.1 h.2.2.1
  have c4 := fun w (_ : Env m w) => rtext_any x y w hx0 hx1 hy0 hy1
  rw [hv] at c1 c2
  rw [ht] at c3 c4
  clear hv ht
  have C1 := Lib.hid c1; have C2 := Lib.hid c2; have C3 := Lib.hid c3; have C4 := Lib.hid c4
  have C5 := Lib.hid (fun w (h : Env m w) => awake_any m w h)
  have HA := Lib.hid A0; have HH := Lib.hid h0; have HB := Lib.hid b0
  clear c1 c2 c3 c4 A0 h0 b0
  go_enter Tryd.func3, Tryd.ntmps3
  go_wp2_with fail
  go_region_held3 (fun w' => w'.cell? ⟨w.heap.size, 0, none⟩ = some (.int .i64 x) ∧ w'.cell? ⟨w.heap.size, 1, none⟩ = some (.int .i64 y) ∧ Env m w' ∧ Below w.heap.size w w' ∧ w.heap.size < w'.heap.size) (first | exact ⟨HA.out.1, HA.out.2.1, HH.out, HB.out.drew, HA.out.2.2⟩ | assumption | go_keep)
    (first | (go_at_call 12; refine (held (w0 := w) C1.out (by assumption)).mono ?_; rintro e w' ⟨rfl, hs⟩) | (go_at_call 13; refine (held (w0 := w) C2.out (by assumption)).mono ?_; rintro e w' ⟨rfl, hs⟩) | (go_at_call 14; refine (held (w0 := w) C3.out (by assumption)).mono ?_; rintro e w' ⟨rfl, hs⟩) | (go_at_call 15; refine (held (w0 := w) C4.out (by assumption)).mono ?_; rintro e w' ⟨rfl, hs⟩) | (go_at_call 16; refine (held (w0 := w) C5.out (by assumption)).mono ?_; rintro e w' ⟨rfl, hs⟩))
  all_goals go_wp2_with fail
  all_goals go_returns
  all_goals (refine ⟨rfl, ?_⟩; rename_i hh; exact hh.2.2.2.1)

end Go.Proofs.YtlbepbddhnmmjaaDoor
