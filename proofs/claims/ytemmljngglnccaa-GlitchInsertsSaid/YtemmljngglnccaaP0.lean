/-
  What the proofs of all statements of this seat share: lists of runs and of numbers among the arguments.
-/
import Derived.Test.YtemmljngglnccaaG0
import Derived.Test.YtemmljngglnccaaQ0
import Derived.Test.YtemmljngglnccaaW1
import Derived.SizedLaws
import Derived.ChangeMaps5
namespace Go.Proofs.Ytemmljngglnccaa
open Go Go.ChangeShapes Go.WideShapes Go.ChangeAt Go.RowKit
set_option linter.unusedVariables false

instance rnInh : Inhabited Rn := ⟨(0, 0)⟩
theorem cells_run : Try.prog.cellsOf 48 = 2 := by kernel_rfl
theorem cells_int : Try.prog.cellsOf 3 = 1 := by kernel_rfl
/-- A slice of runs that came in. -/
theorem open_runs {H : Type} {enc : TypeId × Value → H} {W : World} {base : Nat} {v : Value} {d : DataW H} {p : List MemPlace} (hv : Value.okWide Try.prog W .any base 22 v) (h : DataW.Trod enc Try.prog W 0 (fun _ => true) true 22 v d p) :
    ∃ l : List Rn, RnArg W v l := by
  obtain ⟨A, len, cap, rfl, hlc, hnil, hel⟩ := open_rows Try.underlying22 Try.underlying48 cells_run (by omega) hv h
  rcases Nat.eq_zero_or_pos len with h0 | h0
  · subst h0
    exact ⟨[], A, cap, rfl, fun h => absurd h (by simp)⟩
  · obtain ⟨g, o, es, sp, rfl, hg, rfl, hes, hj⟩ := hel h0
    have key : ∀ j, j < len → ∃ t : Rn, ∀ i, i < 2 → W.cell? ⟨g, o + j * 2 + i, none⟩ = (rnC t)[i]? := by
      intro j hjl
      obtain ⟨cs, ys, n, hcl, hcell, hys, hf⟩ := hj j hjl
      obtain ⟨c0, y0, q0, k0, l0, t0⟩ := hf 0 _ rfl (by kernel_rfl) (by decide)
      obtain ⟨c1, y1, q1, k1, l1, t1⟩ := hf 1 _ rfl (by kernel_rfl) (by decide)
      obtain ⟨x0, e0, _, w0⟩ := DataW.trod_int Try.underlying3 t0
      obtain ⟨x1, e1, _, w1⟩ := DataW.trod_int Try.underlying3 t1
      simp only [List.cons.injEq, and_true] at e0 e1
      subst e0 e1
      have k0' : cs[0]? = some (.int .i64 x0) := k0
      have k1' : cs[1]? = some (.int .i64 x1) := k1
      refine ⟨(x0, x1), fun i hi => ?_⟩
      rw [hcell i hi]
      match i, hi with
      | 0, _ => exact k0'
      | 1, _ => exact k1'
    obtain ⟨F, hF⟩ := Go.Deep.choose_lt key
    have hlen : ((List.range len).map F).length = len := by simp
    refine ⟨(List.range len).map F, some ⟨g, o, none⟩, cap, by rw [hlen], fun _ => ⟨g, o, rfl, hg, fun j hj i hi => ?_⟩⟩
    rw [hlen] at hj
    rw [hF j hj i hi]
    simp
/-- A slice of numbers that came in. -/
theorem open_nums {H : Type} {enc : TypeId × Value → H} {W : World} {base : Nat} {v : Value} {d : DataW H} {p : List MemPlace} (hv : Value.okWide Try.prog W .any base 53 v) (h : DataW.Trod enc Try.prog W 0 (fun _ => true) true 53 v d p) :
    ∃ l : List Int, InArg W v l := by
  obtain ⟨A, len, cap, rfl⟩ := okWide_slice Try.underlying53 hv
  obtain ⟨fuel, hf⟩ := h
  rcases Go.Deep.open_slice1 Try.underlying53 cells_int hf with ⟨h1, h2⟩ | ⟨a, len', cap', m, n, V, D, Pl, h1, hb, hl, hm, hmm, h2, hx⟩
  · simp only [Value.cells, List.cons.injEq, Value.slice.injEq, and_true] at h1
    obtain ⟨rfl, rfl, rfl⟩ := h1
    exact ⟨[], none, 0, rfl, fun h => absurd h (by simp)⟩
  · simp only [Value.cells, List.cons.injEq, Value.slice.injEq, and_true] at h1
    obtain ⟨rfl, rfl, rfl⟩ := h1
    simp only [if_true] at hmm
    have key : ∀ j, j < len → ∃ t : Int, W.cell? (a.add j) = some (.int .i64 t) := by
      intro j hj
      obtain ⟨k1, k2⟩ := hx j (by omega)
      obtain ⟨x0, e0, _, _⟩ := DataW.trod_int Try.underlying3 k2
      simp only [List.cons.injEq, and_true] at e0
      exact ⟨x0, by rw [k1, e0]⟩
    obtain ⟨F, hF⟩ := Go.Deep.choose_lt key
    have hlen : ((List.range len).map F).length = len := by simp
    rcases Nat.eq_zero_or_pos len with h0 | h0
    · subst h0
      exact ⟨[], some a, cap, rfl, fun h => absurd h (by simp)⟩
    · have hspot : a.spot = none := by simpa [Addr.add] using World.cell?_spot (hF 0 h0)
      obtain ⟨g, o, s⟩ := a
      simp only at hspot
      subst hspot
      have h00 := hF 0 h0
      refine ⟨(List.range len).map F, some ⟨g, o, none⟩, cap, by rw [hlen], fun _ => ⟨g, o, rfl, World.block_lt_of_cell? W _ h00, fun j hj i hi => ?_⟩⟩
      rw [hlen] at hj
      have hj2 := hF j hj
      rw [Addr.add_lit] at hj2
      obtain rfl : i = 0 := by omega
      rw [Nat.mul_one, Nat.add_zero, hj2]
      simp [inC]

end Go.Proofs.Ytemmljngglnccaa
