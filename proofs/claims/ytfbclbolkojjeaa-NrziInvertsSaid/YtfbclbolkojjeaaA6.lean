/-
  The walks of small, times and Same over events.
-/
import Derived.Test.YtfbclbolkojjeaaA1
import Derived.Test.YtfbclbolkojjeaaA5
import Derived.Deep.QuietTactic
import Derived.BigQuiet
namespace Go.Proofs.Ytfbclbolkojjeaa
open Go Go.RowKit Go.Joins
set_option linter.unusedVariables false
set_option linter.unusedSimpArgs false

theorem arg_seven {w : World} {g o : Nat} {l : List Ev} (h : ∀ j (hj : j < l.length) i, i < 7 → w.cell? ⟨g, o + j * 7 + i, none⟩ = (evC l[j])[i]?) (j : Nat) (hj : j < l.length) :
    w.cell? ⟨g, o + j * 7, none⟩ = some (.int .i64 l[j].k) ∧ w.cell? ⟨g, o + j * 7 + 1, none⟩ = some (.int .i64 l[j].f) ∧ w.cell? ⟨g, o + j * 7 + 2, none⟩ = some (.int .i64 l[j].t) ∧ w.cell? ⟨g, o + j * 7 + 3, none⟩ = some (.int .i64 l[j].v) ∧ w.cell? ⟨g, o + j * 7 + 4, none⟩ = some (.int .i64 l[j].a) ∧ w.cell? ⟨g, o + j * 7 + 5, none⟩ = some (.string ⟨l[j].d.toArray⟩) ∧ w.cell? ⟨g, o + j * 7 + 6, none⟩ = some (.int .i64 l[j].u) :=
  ⟨h j hj 0 (by omega), h j hj 1 (by omega), h j hj 2 (by omega), h j hj 3 (by omega), h j hj 4 (by omega), h j hj 5 (by omega), h j hj 6 (by omega)⟩
theorem elem_eqF (x y : Ev) : eqF x.k x.f x.t x.v x.a ⟨x.d.toArray⟩ x.u y.k y.f y.t y.v y.a ⟨y.d.toArray⟩ y.u = decide (x = y) := eqF_iff _ _ _ _ _ _ _ _ _ _ _ _ _ _

def smE (l : List Ev) : Bool := decide (l.length ≤ 40) && l.all fun e => decide (e.d.length ≤ 300)
theorem smE_iff (l : List Ev) : smE l = true ↔ l.length ≤ 40 ∧ ∀ j (h : j < l.length), l[j].d.length ≤ 300 := by
  unfold smE
  simp only [Bool.and_eq_true, decide_eq_true_eq, List.all_eq_true]
  refine and_congr Iff.rfl ⟨fun h j hj => h _ (List.getElem_mem hj), fun h e he => ?_⟩
  obtain ⟨j, hj, rfl⟩ := List.mem_iff_getElem.1 he
  exact h j hj

set_option maxRecDepth 20000 in
set_option maxHeartbeats 2000000 in
theorem same_any (l : List Ev) (V V' : Value) (w : World) (h1 : EvArg w V l) (h2 : EvArg w V' l) (hl : l.length ≤ 1099511627776) :
    Calls Try.prog 38 #[V, V'] w fun e w' => e = .returned (.bool true) ∧ Below w.heap.size w w' := by
  obtain ⟨A1, c1, rfl, h1⟩ := h1
  obtain ⟨A2, c2, rfl, h2⟩ := h2
  have H1 := Lib.hid h1; have H2 := Lib.hid h2
  have hl' : (l.length : Int) ≤ 1099511627776 := by omega
  clear h1 h2
  go_enter Try.func38, Try.ntmps38
  go_wp2
  go_loopw [5] (fun x wr => ∃ (k m : Nat), k ≤ l.length ∧ x = .int .i64 k ∧ wr = w.drewN m) (fun x _ => l.length - (intOf x).toNat)
  case atStart => exact ⟨0, 0, by omega, rfl, rfl⟩
  case round =>
    obtain ⟨k, m, hk, rfl, rfl⟩ := hrel
    by_cases hlt : k < l.length
    · obtain ⟨g1, o1, rfl, hg1, hc1⟩ := H1.out (by omega)
      obtain ⟨g2, o2, rfl, hg2, hc2⟩ := H2.out (by omega)
      obtain ⟨a0, a1, a2, a3, a4, a5, a6⟩ := arg_seven hc1 k hlt
      obtain ⟨b0, b1, b2, b3, b4, b5, b6⟩ := arg_seven hc2 k hlt
      have Q := fun W => neq_ev l[k].k l[k].f l[k].t l[k].v l[k].a ⟨l[k].d.toArray⟩ l[k].u l[k].k l[k].f l[k].t l[k].v l[k].a ⟨l[k].d.toArray⟩ l[k].u W
      rw [elem_eqF, decide_eq_true rfl] at Q
      clear hc1 hc2
      generalize (⟨l[k].d.toArray⟩ : ByteArray) = x5 at *
      generalize l[k].k = x0 at *
      generalize l[k].f = x1 at *
      generalize l[k].t = x2 at *
      generalize l[k].v = x3 at *
      generalize l[k].a = x4 at *
      generalize l[k].u = x6 at *
      go_wp2
      go_quiet (fail)
      go_wp2
      go_roundw
      case rel => exact ⟨k + 1, m + nq, by omega, by go_num, rfl⟩
      case measure => simp [intOf]; omega
    · go_wp2
      go_returns
      exact ⟨rfl, Go.below_drewN (Below.refl _ _) _⟩

end Go.Proofs.Ytfbclbolkojjeaa
