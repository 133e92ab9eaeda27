/-
  What the proofs of the door's statements share: from the row's premises to the walks', tokens among the arguments.
-/
import Derived.Test.YtpeiiomimfiebaaDoorG0
import Derived.Test.YtpeiiomimfiebaaDoorQ0
import Derived.Test.YtpeiiomimfiebaaDoorW23
import Derived.Test.YtpeiiomimfiebaaDoorTie
import Derived.SizedLaws
import Derived.ChangeMaps5
import Derived.Stop.LaidErr
namespace Go.Proofs.YtpeiiomimfiebaaDoor
open Go Go.ChangeShapes Go.WideShapes Go.ChangeAt Go.RowKit
set_option linter.unusedVariables false

/-- The listed variables, as every row of this seat lists them. -/
def listed : List (String × DataW Unit) := [("math/bits.deBruijn32tab", Rows.laid_math_bits_deBruijn32tab), ("math/bits.deBruijn64tab", Rows.laid_math_bits_deBruijn64tab), ("internal/strconv.uint64pow10", Rows.laid_internal_strconv_uint64pow10)]
/-- The door's own heap meets the condition. -/
theorem door_met (os : Os) (args : Array Value) : laidMetH Tryd.prog listed ((World.doorLaid Tryd.prog 400 os).forCall (fun _ _ => 0) ⟨#[], args, []⟩).memory :=
  laidMetH_of_parts3 (fuel := 8) (laidMet_of_run' 8 (by kernel_rfl) (by kernel_rfl)) (by kernel_rfl) (by kernel_rfl)
theorem env_of {W : World} (h : laidMetH Tryd.prog listed W) : Env W := by
  rw [MakeChecks.laidMetH_plain _ _ _ (by kernel_rfl)] at h
  have hp : Pow W := Lib.tabIs_of_head (t := 84) (e := 75) (n := 20) gPow (by kernel_rfl) (by kernel_rfl) (by kernel_rfl) (by kernel_rfl) (by kernel_rfl) (laidMet.tail (laidMet.tail h))
  have hc := hp.cell gPow 0 (by decide)
  exact ⟨hp, World.block_lt_of_cell? W _ hc⟩

instance : Inhabited Tok := ⟨⟨0, [], 0, 0⟩⟩
theorem cells_tok : Tryd.prog.cellsOf 30 = 4 := by kernel_rfl
theorem bytes_tok : Tryd.prog.bytesOf 30 = 40 := by kernel_rfl
/-- A slice of tokens that came in. -/
theorem open_toks {H : Type} {enc : TypeId × Value → H} {W : World} {base : Nat} {v : Value} {d : DataW H} {p : List MemPlace} (hv : Value.okWide Tryd.prog W .any base 22 v) (h : DataW.Trod enc Tryd.prog W 0 (fun _ => true) true 22 v d p) :
    ∃ l : List Tok, TArg W v l ∧ (∀ t ∈ l, (-9223372036854775808 ≤ t.k ∧ t.k ≤ 9223372036854775807) ∧ (-9223372036854775808 ≤ t.v ∧ t.v ≤ 9223372036854775807) ∧ (-9223372036854775808 ≤ t.n ∧ t.n ≤ 9223372036854775807)) ∧
      (l = [] ∨ ∃ es sp, d = .slice es sp ∧ es.length = l.length ∧ ∀ j (hj : j < l.length), ∃ ys, es[j]? = some (.agg ys) ∧ ys[1]? = some (.lit (.string l[j].t))) := by
  obtain ⟨A, len, cap, rfl, hlc, hnil, hel⟩ := open_rows Tryd.underlying22 Tryd.underlying30 cells_tok (by omega) hv h
  rcases Nat.eq_zero_or_pos len with h0 | h0
  · subst h0
    exact ⟨[], ⟨A, cap, rfl, fun h => absurd h (by simp)⟩, (by simp), .inl rfl⟩
  · obtain ⟨g, o, es, sp, rfl, hg, rfl, hes, hj⟩ := hel h0
    have key : ∀ j, j < len → ∃ t : Tok, (∀ i, i < 4 → W.cell? ⟨g, o + j * 4 + i, none⟩ = (tkC t)[i]?) ∧ ((-9223372036854775808 ≤ t.k ∧ t.k ≤ 9223372036854775807) ∧ (-9223372036854775808 ≤ t.v ∧ t.v ≤ 9223372036854775807) ∧ (-9223372036854775808 ≤ t.n ∧ t.n ≤ 9223372036854775807)) ∧ ∃ ys, es[j]? = some (.agg ys) ∧ ys[1]? = some (.lit (.string t.t)) := by
      intro j hjl
      obtain ⟨cs, ys, n, hcl, hcell, hys, hf⟩ := hj j hjl
      obtain ⟨c0, y0, q0, k0, l0, t0⟩ := hf 0 _ rfl (by kernel_rfl) (by decide)
      obtain ⟨c1, y1, q1, k1, l1, t1⟩ := hf 1 _ rfl (by kernel_rfl) (by decide)
      obtain ⟨c2, y2, q2, k2, l2, t2⟩ := hf 2 _ rfl (by kernel_rfl) (by decide)
      obtain ⟨c3, y3, q3, k3, l3, t3⟩ := hf 3 _ rfl (by kernel_rfl) (by decide)
      obtain ⟨x0, e0, _, w0⟩ := DataW.trod_int Tryd.underlying3 t0
      obtain ⟨x1, e1, z1, w1⟩ := DataW.trod_string Tryd.underlying9 t1
      obtain ⟨x2, e2, _, w2⟩ := DataW.trod_int Tryd.underlying3 t2
      obtain ⟨x3, e3, _, w3⟩ := DataW.trod_int Tryd.underlying3 t3
      simp only [List.cons.injEq, and_true] at e0 e1 e2 e3
      simp only [Prod.mk.injEq] at z1
      subst e0 e1 e2 e3
      obtain rfl := z1.1
      have k0' : cs[0]? = some (.int .i64 x0) := k0
      have k1' : cs[1]? = some (.string x1) := k1
      have k2' : cs[2]? = some (.int .i64 x2) := k2
      have k3' : cs[3]? = some (.int .i64 x3) := k3
      refine ⟨⟨x0, x1.data.toList, x2, x3⟩, fun i hi => ?_, ⟨bounds_i64 w0, bounds_i64 w2, bounds_i64 w3⟩, ys, hys, l1⟩
      rw [hcell i hi]
      unfold tkC
      match i, hi with
      | 0, _ => exact k0'
      | 1, _ => rw [k1']; simp only [bytes_of]; rfl
      | 2, _ => exact k2'
      | 3, _ => exact k3'
    obtain ⟨F, hF⟩ := Go.Deep.choose_lt key
    have hlen : ((List.range len).map F).length = len := by simp
    refine ⟨(List.range len).map F, ⟨some ⟨g, o, none⟩, cap, by rw [hlen], fun _ => ⟨g, o, rfl, hg, fun j hj i hi => ?_⟩⟩, fun t ht => ?_, .inr ⟨es, sp, rfl, by rw [hes, hlen], fun j hj => ?_⟩⟩
    · rw [hlen] at hj
      rw [(hF j hj).1 i hi]
      simp
    · obtain ⟨j, hj, rfl⟩ := List.mem_map.1 ht
      exact (hF j (List.mem_range.1 hj)).2.1
    · rw [hlen] at hj
      obtain ⟨ys, h1, h2⟩ := (hF j hj).2.2
      exact ⟨ys, h1, by simpa using h2⟩

/-- What the weights say of tokens that came in. -/
theorem toks_reach {H : Type} {l : List Tok} {d : DataW H} {ts : List TypeId} {ds : List (DataW H)} {j : Nat} (hd : l = [] ∨ ∃ es sp, d = .slice es sp ∧ es.length = l.length ∧ ∀ j (hj : j < l.length), ∃ ys, es[j]? = some (.agg ys) ∧ ys[1]? = some (.lit (.string l[j].t)))
    (hw : (DataW.weightsEach Tryd.prog ts ds).all (· ≤ reachBytes) = true) (ht : ts[j]? = some 22) (hj : ds[j]? = some d) : (∀ t ∈ l, t.t.length ≤ 140737488351232) ∧ l.length ≤ 140737488351232 := by
  have e : reachBytes = 140737488351232 := rfl
  rcases hd with rfl | ⟨es, sp, rfl, hlen, hel⟩
  · exact ⟨by simp, by simp⟩
  · refine ⟨fun t hm => ?_, ?_⟩
    · obtain ⟨i, hi, rfl⟩ := List.mem_iff_getElem.1 hm
      obtain ⟨ys, h1, h2⟩ := hel i hi
      have hn : l[i].t.length ∈ (DataW.lit (H := H) (.string l[i].t)).weights Tryd.prog 9 := by simp [DataW.weights]
      have hp := weights_part (P := Tryd.prog) (e := 30) (i := 1) (f := _) Tryd.underlying30 rfl h2 hn
      have ha := weights_elem (P := Tryd.prog) (t := 22) (sp := sp) Tryd.underlying22 (List.mem_of_getElem? h1) hp
      have := List.all_eq_true.1 hw _ (DataW.weights_mem_each ht hj _ ha)
      simp only [decide_eq_true_eq] at this
      omega
    · have := sized_slice hw ht hj Tryd.underlying22
      rw [bytes_tok] at this
      omega

end Go.Proofs.YtpeiiomimfiebaaDoor
