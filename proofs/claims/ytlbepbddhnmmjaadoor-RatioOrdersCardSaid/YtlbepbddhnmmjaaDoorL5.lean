/-
  The walk of the statement RatioOrders.
-/
import Derived.Test.YtlbepbddhnmmjaaDoorW16
import Derived.Deep.RegionHeld3
namespace Go.Proofs.YtlbepbddhnmmjaaDoor
open Go.RowKit

/-- A call that only makes memory, inside a statement that loads two old blocks. -/
theorem held4 {f : FuncId} {args : Array Value} {v x y x' y' : Value} {b : Nat} {m : Int} {w0 w : World} (hc : ∀ w, Env m w → Calls Tryd.prog f args w fun e w' => e = .returned v ∧ Below w.heap.size w w')
    (hS : w.cell? ⟨b, 0, none⟩ = some x ∧ w.cell? ⟨b, 1, none⟩ = some y ∧ w.cell? ⟨b + 1, 0, none⟩ = some x' ∧ w.cell? ⟨b + 1, 1, none⟩ = some y' ∧ Env m w ∧ Below w0.heap.size w0 w ∧ b + 1 < w.heap.size) :
    Calls Tryd.prog f args w fun e w' => e = .returned v ∧ (w'.cell? ⟨b, 0, none⟩ = some x ∧ w'.cell? ⟨b, 1, none⟩ = some y ∧ w'.cell? ⟨b + 1, 0, none⟩ = some x' ∧ w'.cell? ⟨b + 1, 1, none⟩ = some y' ∧ Env m w' ∧ Below w0.heap.size w0 w' ∧ b + 1 < w'.heap.size) := by
  obtain ⟨h1, h2, h1', h2', h3, h4, h5⟩ := hS
  have h6 : b < w.heap.size := by omega
  exact (hc w h3).mono fun e w' ⟨he, hw⟩ => ⟨he, by rw [hw.cell h6]; exact h1, by rw [hw.cell h6]; exact h2, by rw [hw.cell h5]; exact h1', by rw [hw.cell h5]; exact h2', h3.below hw, h4.trans (hw.mono h4.size), Nat.lt_of_lt_of_le h5 hw.size⟩

set_option maxHeartbeats 16000000 in
theorem law_orders (a1 a2 b1 b2 k m : Int) (w : World) (ha10 : -9223372036854775808 ≤ a1) (ha11 : a1 ≤ 9223372036854775807) (ha20 : -9223372036854775808 ≤ a2) (ha21 : a2 ≤ 9223372036854775807) (hb10 : -9223372036854775808 ≤ b1) (hb11 : b1 ≤ 9223372036854775807) (hb20 : -9223372036854775808 ≤ b2) (hb21 : b2 ≤ 9223372036854775807) (hk0 : -9223372036854775808 ≤ k) (hk1 : k ≤ 9223372036854775807) (h : Env m w) :
    Calls Tryd.prog 7 #[.agg #[.int .i64 a1, .int .i64 a2], .agg #[.int .i64 b1, .int .i64 b2], .int .i64 k] w fun e w' => e = .returned (.bool true) ∧ Below w.heap.size w w' := by
  obtain ⟨sv, hsv⟩ : ∃ n, scV (validB a1 a2) a1 a2 k = n := ⟨_, rfl⟩
  obtain ⟨se, hse⟩ : ∃ n, scE (validB a1 a2) k = n := ⟨_, rfl⟩
  obtain ⟨cv, hcv⟩ : ∃ n, okI (validB a1 a2 && validB b1 b2) (cmpI (a1 * b2) (b1 * a2)) = n := ⟨_, rfl⟩
  obtain ⟨fv, hfv⟩ : ∃ n, okI (validB a1 a2) (a1 / a2) = n := ⟨_, rfl⟩
  obtain ⟨rv, hrv⟩ : ∃ n, okI (validB a1 a2) ((2 * a1 + a2) / (2 * a2)) = n := ⟨_, rfl⟩
  have c1 := fun w => sc_any a1 a2 k w ha10 ha11 ha20 ha21 hk0 hk1
  have c2 := fun w => rsc_any a1 a2 k w ha10 ha11 ha20 ha21 hk0 hk1
  have c3 := fun w (_ : Env m w) => cmp_any a1 a2 b1 b2 w ha10 ha11 ha20 ha21 hb10 hb11 hb20 hb21
  have c4 := fun w (_ : Env m w) => rcmp_any a1 a2 b1 b2 w ha10 ha11 ha20 ha21 hb10 hb11 hb20 hb21
  have c5 := fun w (_ : Env m w) => fl_any a1 a2 w ha10 ha11 ha20 ha21
  have c6 := fun w (_ : Env m w) => rfl_any a1 a2 w ha10 ha11 ha20 ha21
  have c7 := fun w (_ : Env m w) => rd_any a1 a2 w ha10 ha11 ha20 ha21
  have c8 := fun w (_ : Env m w) => rrd_any a1 a2 w ha10 ha11 ha20 ha21
  simp only [hsv, hse] at c1 c2
  simp only [hcv] at c3 c4
  simp only [hfv] at c5 c6
  simp only [hrv] at c7 c8
  have C3 := Lib.hid c3; have C4 := Lib.hid c4; have C5 := Lib.hid c5; have C6 := Lib.hid c6; have C7 := Lib.hid c7; have C8 := Lib.hid c8
  have C9 := Lib.hid (fun w (h : Env m w) => awake_any m w h)
  clear hsv hse hcv hfv hrv c3 c4 c5 c6 c7 c8
  obtain ⟨⟨A_0_0, A_0_1, A_0_2⟩, ⟨B_0_0, B_0_1, B_0_2⟩⟩ := two_new w (.int .i64 a1) (.int .i64 a2) (.int .i64 b1) (.int .i64 b2) 23
  have h_0 := ((h.below (ba _ (.cells #[.int .i64 a1, .int .i64 a2] 23))).below (ba _ (.cells #[.int .i64 b1, .int .i64 b2] 23)))
  have b_0 : Below w.heap.size w ((w.alloc (.cells #[.int .i64 a1, .int .i64 a2] 23)).alloc (.cells #[.int .i64 b1, .int .i64 b2] 23)) := (ba w _).trans ((ba (w.alloc _) _).mono (by rw [World.size_alloc]; omega))
  go_enter Tryd.func7, Tryd.ntmps7
  go_wp2_with (first
    | (go_at_call 27; (with_reducible refine (c1 _).mono ?_); rintro e w_1 ⟨rfl, b_1⟩; obtain ⟨A_1_0, A_1_1, A_1_2⟩ := old2 b_1 ⟨A_0_0, A_0_1, A_0_2⟩; obtain ⟨B_1_0, B_1_1, B_1_2⟩ := old2 b_1 ⟨B_0_0, B_0_1, B_0_2⟩; have h_1 := h_0.below b_1; clear A_0_0 A_0_1 A_0_2 B_0_0 B_0_1 B_0_2 h_0)
    | (go_at_call 28; (with_reducible refine (c2 _).mono ?_); rintro e w_2 ⟨rfl, b_2⟩; obtain ⟨A_2_0, A_2_1, A_2_2⟩ := old2 b_2 ⟨A_1_0, A_1_1, A_1_2⟩; obtain ⟨B_2_0, B_2_1, B_2_2⟩ := old2 b_2 ⟨B_1_0, B_1_1, B_1_2⟩; have h_2 := h_1.below b_2; clear A_1_0 A_1_1 A_1_2 B_1_0 B_1_1 B_1_2 h_1))
  have e_2 : Below w.heap.size w w_2 := b_0.trans ((b_1.trans (b_2.mono b_1.size)).mono b_0.size)
  have HF := Lib.hid (And.intro A_2_0 (And.intro A_2_1 (And.intro B_2_0 (And.intro B_2_1 (And.intro h_2 (And.intro e_2 B_2_2))))))
  clear A_2_0 A_2_1 A_2_2 B_2_0 B_2_1 B_2_2 h_2 e_2 b_0 b_1 b_2
  go_region_held3 (fun w' => w'.cell? ⟨w.heap.size, 0, none⟩ = some (.int .i64 a1) ∧ w'.cell? ⟨w.heap.size, 1, none⟩ = some (.int .i64 a2) ∧ w'.cell? ⟨w.heap.size + 1, 0, none⟩ = some (.int .i64 b1) ∧ w'.cell? ⟨w.heap.size + 1, 1, none⟩ = some (.int .i64 b2) ∧ Env m w' ∧ Below w.heap.size w w' ∧ w.heap.size + 1 < w'.heap.size) (first | exact ⟨HF.out.1, HF.out.2.1, HF.out.2.2.1, HF.out.2.2.2.1, HF.out.2.2.2.2.1, HF.out.2.2.2.2.2.1.drew, HF.out.2.2.2.2.2.2⟩ | assumption | go_keep)
    (first | (go_at_call 29; refine (held4 (w0 := w) C3.out (by assumption)).mono ?_; rintro e w' ⟨rfl, hs⟩) | (go_at_call 30; refine (held4 (w0 := w) C4.out (by assumption)).mono ?_; rintro e w' ⟨rfl, hs⟩) | (go_at_call 31; refine (held4 (w0 := w) C5.out (by assumption)).mono ?_; rintro e w' ⟨rfl, hs⟩) | (go_at_call 32; refine (held4 (w0 := w) C6.out (by assumption)).mono ?_; rintro e w' ⟨rfl, hs⟩) | (go_at_call 33; refine (held4 (w0 := w) C7.out (by assumption)).mono ?_; rintro e w' ⟨rfl, hs⟩) | (go_at_call 34; refine (held4 (w0 := w) C8.out (by assumption)).mono ?_; rintro e w' ⟨rfl, hs⟩) | (go_at_call 16; refine (held4 (w0 := w) C9.out (by assumption)).mono ?_; rintro e w' ⟨rfl, hs⟩))
  all_goals go_wp2_with fail
  all_goals go_returns
  all_goals (refine ⟨rfl, ?_⟩; rename_i hh; exact hh.2.2.2.2.2.1)

end Go.Proofs.YtlbepbddhnmmjaaDoor
