/-
  What the proofs of all statements of this seat share: spans and lists of spans among the arguments.
-/
import Derived.Test.YtpeiiomimfiebaaG0
import Derived.Test.YtpeiiomimfiebaaQ0
import Derived.Test.YtpeiiomimfiebaaW1
import Derived.SizedLaws
import Derived.ChangeMaps5
namespace Go.Proofs.Ytpeiiomimfiebaa
open Go Go.ChangeShapes Go.WideShapes Go.ChangeAt Go.RowKit
set_option linter.unusedVariables false

instance spInh : Inhabited Sp := ⟨(0, 0)⟩
theorem cells_span : Try.prog.cellsOf 23 = 2 := by kernel_rfl
theorem bytes_span : Try.prog.bytesOf 23 = 16 := by kernel_rfl
/-- A span among the arguments. -/
theorem open_span {H : Type} {enc : TypeId × Value → H} {W : World} {base b : Nat} {sp : Nat → Bool} {hd : Bool} {v : Value} {d : DataW H} {p : List MemPlace} (hv : Value.okWide Try.prog W .any base 23 v) (h : DataW.Trod enc Try.prog W b sp hd 23 v d p) :
    ∃ (x y : Int), v = .agg #[.int .i64 x, .int .i64 y] := by
  obtain ⟨cs, n, rfl, hsz, hx⟩ := open_struct Try.underlying23 hv h
  have h2 : cs.size = 2 := hsz.trans (by kernel_rfl)
  rw [arr2 h2]
  obtain ⟨y0, k0⟩ := hx 0 _ rfl (by kernel_rfl) (by show 0 < cs.size; omega)
  obtain ⟨y1, k1⟩ := hx 1 _ rfl (by kernel_rfl) (by show 1 < cs.size; omega)
  obtain ⟨x0, e0, _, _⟩ := DataW.trod_int Try.underlying3 k0
  obtain ⟨x1, e1, _, _⟩ := DataW.trod_int Try.underlying3 k1
  simp only [List.cons.injEq, and_true] at e0 e1
  have f0 : cs.getD 0 default = .int .i64 x0 := e0
  have f1 : cs.getD 1 default = .int .i64 x1 := e1
  exact ⟨x0, x1, by rw [f0, f1]⟩
/-- A slice of spans that came in. -/
theorem open_spans {H : Type} {enc : TypeId × Value → H} {W : World} {base : Nat} {v : Value} {d : DataW H} {p : List MemPlace} (hv : Value.okWide Try.prog W .any base 29 v) (h : DataW.Trod enc Try.prog W 0 (fun _ => true) true 29 v d p) :
    ∃ l : List Sp, SpArg W v l ∧ (l = [] ∨ ∃ es sp, d = .slice es sp ∧ es.length = l.length) := by
  obtain ⟨A, len, cap, rfl, hlc, hnil, hel⟩ := open_rows Try.underlying29 Try.underlying23 cells_span (by omega) hv h
  rcases Nat.eq_zero_or_pos len with h0 | h0
  · subst h0
    exact ⟨[], ⟨A, cap, rfl, fun h => absurd h (by simp)⟩, .inl rfl⟩
  · obtain ⟨g, o, es, sp, rfl, hg, rfl, hes, hj⟩ := hel h0
    have key : ∀ j, j < len → ∃ t : Sp, ∀ i, i < 2 → W.cell? ⟨g, o + j * 2 + i, none⟩ = (spC t)[i]? := by
      intro j hjl
      obtain ⟨cs, ys, n, hcl, hcell, hys, hf⟩ := hj j hjl
      obtain ⟨c0, y0, q0, k0, l0, t0⟩ := hf 0 _ rfl (by kernel_rfl) (by decide)
      obtain ⟨c1, y1, q1, k1, l1, t1⟩ := hf 1 _ rfl (by kernel_rfl) (by decide)
      obtain ⟨x0, e0, _, w0⟩ := DataW.trod_int Try.underlying3 t0
      obtain ⟨x1, e1, _, w1⟩ := DataW.trod_int Try.underlying3 t1
      simp only [List.cons.injEq, and_true] at e0 e1
      subst e0 e1
      have k0' : cs[0]? = some (.int .i64 x0) := k0
      have k1' : cs[1]? = some (.int .i64 x1) := k1
      refine ⟨(x0, x1), fun i hi => ?_⟩
      rw [hcell i hi]
      match i, hi with
      | 0, _ => exact k0'
      | 1, _ => exact k1'
    obtain ⟨F, hF⟩ := Go.Deep.choose_lt key
    have hlen : ((List.range len).map F).length = len := by simp
    refine ⟨(List.range len).map F, ⟨some ⟨g, o, none⟩, cap, by rw [hlen], fun _ => ⟨g, o, rfl, hg, fun j hj i hi => ?_⟩⟩, .inr ⟨es, sp, rfl, by rw [hes, hlen]⟩⟩
    rw [hlen] at hj
    rw [hF j hj i hi]
    simp
/-- What the weights say of spans that came in. -/
theorem spans_reach {H : Type} {l : List Sp} {d : DataW H} {ts : List TypeId} {ds : List (DataW H)} {j : Nat} (hd : l = [] ∨ ∃ es sp, d = .slice es sp ∧ es.length = l.length)
    (hw : (DataW.weightsEach Try.prog ts ds).all (· ≤ reachBytes) = true) (ht : ts[j]? = some 29) (hj : ds[j]? = some d) : l.length ≤ 140737488351232 := by
  have e : reachBytes = 140737488351232 := rfl
  rcases hd with rfl | ⟨es, sp, rfl, hlen⟩
  · simp
  · have := sized_slice hw ht hj Try.underlying29
    rw [bytes_span] at this
    omega

end Go.Proofs.Ytpeiiomimfiebaa
