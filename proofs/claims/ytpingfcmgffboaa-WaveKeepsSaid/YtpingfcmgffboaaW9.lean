/-
  The walks of Same, ints and Example; the chapter's examples.
-/
import Derived.Test.YtpingfcmgffboaaW8
namespace Go.Proofs.Ytpingfcmgffboaa
open Go Go.RowKit Go.Joins
set_option linter.unusedVariables false
set_option linter.unusedSimpArgs false

set_option maxRecDepth 20000 in
set_option maxHeartbeats 2000000 in
theorem same_any (l : List Rn) (V V' : Value) (w : World) (h1 : RnArg w V l) (h2 : RnArg w V' l) (hl : l.length ≤ 1099511627776) :
    Calls Try.prog 17 #[V, V'] w fun e w' => e = .returned (.bool true) ∧ Below w.heap.size w w' := by
  obtain ⟨A1, c1, rfl, h1⟩ := h1
  obtain ⟨A2, c2, rfl, h2⟩ := h2
  have H1 := Lib.hid h1; have H2 := Lib.hid h2
  have hl' : (l.length : Int) ≤ 1099511627776 := by omega
  clear h1 h2
  go_enter Try.func17, Try.ntmps17
  go_wp2
  go_loopw [5] (fun x wr => ∃ (k m : Nat), k ≤ l.length ∧ x = .int .i64 k ∧ wr = w.drewN m) (fun x _ => l.length - (intOf x).toNat)
  case atStart => exact ⟨0, 0, by omega, rfl, rfl⟩
  case round =>
    obtain ⟨k, m, hk, rfl, rfl⟩ := hrel
    by_cases hlt : k < l.length
    · obtain ⟨g1, o1, rfl, hg1, hc1⟩ := H1.out (by omega)
      obtain ⟨g2, o2, rfl, hg2, hc2⟩ := H2.out (by omega)
      obtain ⟨a0, a1⟩ := arg_two hc1 k hlt
      obtain ⟨b0, b1⟩ := arg_two hc2 k hlt
      clear hc1 hc2
      generalize l[k].1 = x0 at *
      generalize l[k].2 = x1 at *
      go_wp2
      go_quiet (fail)
      go_wp2
      go_roundw
      case rel => exact ⟨k + 1, m + nq, by omega, by go_num, rfl⟩
      case measure => simp [intOf]; omega
    · go_wp2
      go_returns
      exact ⟨rfl, Go.below_drewN (Below.refl _ _) _⟩

set_option maxRecDepth 20000 in
set_option maxHeartbeats 2000000 in
theorem ints_any (l : List Int) (V V' : Value) (w : World) (h1 : InArg w V l) (h2 : InArg w V' l) (hl : l.length ≤ 1099511627776) :
    Calls Try.prog 22 #[V, V'] w fun e w' => e = .returned (.bool true) ∧ Below w.heap.size w w' := by
  obtain ⟨A1, c1, rfl, h1⟩ := h1
  obtain ⟨A2, c2, rfl, h2⟩ := h2
  have H1 := Lib.hid h1; have H2 := Lib.hid h2
  have hl' : (l.length : Int) ≤ 1099511627776 := by omega
  clear h1 h2
  go_enter Try.func22, Try.ntmps22
  go_wp2
  go_loopw [5] (fun x wr => ∃ (k m : Nat), k ≤ l.length ∧ x = .int .i64 k ∧ wr = w.drewN m) (fun x _ => l.length - (intOf x).toNat)
  case atStart => exact ⟨0, 0, by omega, rfl, rfl⟩
  case round =>
    obtain ⟨k, m, hk, rfl, rfl⟩ := hrel
    by_cases hlt : k < l.length
    · obtain ⟨g1, o1, rfl, hg1, hc1⟩ := H1.out (by omega)
      obtain ⟨g2, o2, rfl, hg2, hc2⟩ := H2.out (by omega)
      have a0 := arg_int hc1 k hlt
      have b0 := arg_int hc2 k hlt
      clear hc1 hc2
      obtain ⟨x0, hx0⟩ : ∃ x, l[k] = x := ⟨_, rfl⟩
      rw [hx0] at a0 b0
      clear hx0
      go_wp2
      go_quiet (fail)
      go_wp2
      go_roundw
      case rel => exact ⟨k + 1, m + nq, by omega, by go_num, rfl⟩
      case measure => simp [intOf]; omega
    · go_wp2
      go_returns
      exact ⟨rfl, Go.below_drewN (Below.refl _ _) _⟩

/-- The chapter's first example. -/
def exL : List Rn := [(1, 8), (1, 2), (0, 4)]
set_option maxHeartbeats 1000000 in
theorem example_any (w : World) : Calls Try.prog 33 #[] w fun e w' => ∃ g : Nat, e = .returned (.slice (some ⟨g, 0, none⟩) 3 3) ∧ RnRow w' w.heap.size (.slice (some ⟨g, 0, none⟩) 3 3) exL ∧ Below w.heap.size w w' := by
  go_enter Try.func33, Try.ntmps33
  go_wp2
  go_returns
  exact ⟨_, rfl, KRow.lit rnC_size w w.heap.size (Nat.le_refl _) exL _ rfl 3 rfl (by decide), ba w _⟩

theorem ex_at9 (V : Value) (w : World) (h : RnArg w V exL) : Calls Try.prog 13 #[V, .int .i64 9] w fun e w' => e = .returned (.tuple #[.int .i64 1, .bool true]) ∧ Below w.heap.size w w' := by
  have := at_any exL V 9 w h (by omega)
  rw [show atV exL 9 = (1, true) by decide] at this
  exact this
theorem ex_at14 (V : Value) (w : World) (h : RnArg w V exL) : Calls Try.prog 13 #[V, .int .i64 14] w fun e w' => e = .returned (.tuple #[.int .i64 (-1), .bool false]) ∧ Below w.heap.size w w' := by
  have := at_any exL V 14 w h (by omega)
  rw [show atV exL 14 = (-1, false) by decide] at this
  exact this
def exF : List Rn := [(0, 3), (1, 2), (0, 4)]
def exC : List Rn := [(1, 10), (0, 4)]
theorem ex_from (V : Value) (w : World) (h : InArg w V [3, 5]) : Calls Try.prog 14 #[.int .i64 0, V, .int .i64 9] w fun e w' => ∃ v : Value, e = .returned (.tuple #[v, .int .i64 0]) ∧ RnRow w' w.heap.size v exF ∧ Below w.heap.size w w' := by
  have := from_any 0 [3, 5] V 9 w h
  rw [show feR 0 [3, 5] 9 = (exF, 0) by decide] at this
  exact this
theorem ex_valid (V : Value) (w : World) (h : RnArg w V exL) : Calls Try.prog 11 #[V] w fun e w' => e = .returned (.bool true) ∧ Below w.heap.size w w' := by
  have := valid_any exL V w h
  rw [show vl exL = true by decide] at this
  exact this
theorem ex_clean (V : Value) (w : World) (h : RnArg w V exL) : Calls Try.prog 18 #[V] w fun e w' => ∃ v : Value, e = .returned v ∧ RnRow w' w.heap.size v exC ∧ Below w.heap.size w w' := by
  have := clean_any exL V w h
  rw [show cl exL = exC by decide] at this
  exact this
theorem ex_long (V : Value) (w : World) (h : RnArg w V exL) : Calls Try.prog 16 #[V] w fun e w' => e = .returned (.int .i64 14) ∧ Below w.heap.size w w' := by
  have := long_any exL V w h
  rw [show lgV exL = 14 by decide] at this
  exact this
theorem ex_edges (V : Value) (w : World) (h : RnArg w V exL) : Calls Try.prog 15 #[V] w fun e w' => ∃ v : Value, e = .returned v ∧ InRow w' w.heap.size v [10] ∧ Below w.heap.size w w' := by
  have := edges_any exL V w h
  rw [show es (cl exL) = [10] by decide] at this
  exact this


end Go.Proofs.Ytpingfcmgffboaa
