/-
  What the proofs of all statements of this seat share: from the row's premises to the walks'; captures and arrays among the arguments.
  Arrays of integers among the arguments.
  Arrays of integers among the arguments.
-/
import Derived.Test.YtillcmddbjhepaaGreatDoorZ03
import Derived.Test.YtillcmddbjhepaaGreatDoorZ19
import Derived.Test.YtillcmddbjhepaaGreatDoorZ11
import Derived.Test.YtillcmddbjhepaaGreatDoorTie
import Derived.SizedLaws
import Derived.ChangeMaps5
import Derived.Stop.LaidErr
namespace Go.Proofs.YtillcmddbjhepaaGreatDoor
open Go Go.ChangeShapes Go.WideShapes Go.ChangeAt Go.RowKit Si
set_option linter.unusedVariables false
set_option linter.unusedSimpArgs false

/-- A string that came in is no longer than the reach. -/
theorem string_reach {H : Type} {s : ByteArray} {ts : List TypeId} {ds : List (DataW H)} {j : Nat} {t : TypeId} (hw : (DataW.weightsEach Tryz.prog ts ds).all (· ≤ reachBytes) = true) (ht : ts[j]? = some t) (hd : ds[j]? = some (.lit (.string s.data.toList))) : s.size ≤ 140737488351232 := by
  have := sized_string hw ht hd
  have e : reachBytes = 140737488351232 := rfl
  rw [size_len]
  omega

/-- The listed variables, as every row of this seat lists them. -/
def listed : List (String × DataW Unit) := [("signalbench/check.named", Rows.laid_signalbench_check_named)]
/-- The door's own heap meets the condition. -/
theorem door_met (os : Os) (args : Array Value) : laidMetH Tryz.prog listed ((World.doorLaid Tryz.prog 400 os).forCall (fun _ _ => 0) ⟨#[], args, []⟩).memory :=
  laidMetH_of_parts3 (fuel := 8) (laidMet_of_run' 8 (by kernel_rfl) (by kernel_rfl)) (by kernel_rfl) (by kernel_rfl)
theorem env_of {W : World} (h : laidMetH Tryz.prog listed W) : Sd.Env W := by
  rw [MakeChecks.laidMetH_plain _ _ _ (by kernel_rfl)] at h
  have ht : TabHas Tryz.prog W "signalbench/check.named" Sd.tab := tabHas_of_head (f := 8) (t := 144) Sd.gNamed (by kernel_rfl) (by kernel_rfl) h
  have hc := ht.cell Sd.gNamed 0
  exact ⟨ht, World.block_lt_of_cell? W _ (u := .string ⟨#[99, 97, 110, 49, 53]⟩) hc⟩

instance rnInh : Inhabited Rn := ⟨(0, 0)⟩
instance baInh : Inhabited ByteArray := ⟨⟨#[]⟩⟩
theorem cells_run : Tryz.prog.cellsOf 54 = 2 := by kernel_rfl
theorem cells_str : Tryz.prog.cellsOf 9 = 1 := by kernel_rfl
section
variable {H : Type} {enc : TypeId × Value → H} {P : Program} {w : World} {b0 : Nat} {r : Reach} {t : TypeId} {v : Value} {d : DataW H} {p : List MemPlace}
/-- A slice of structs. -/
theorem open_rows2 {A : Option Addr} {n0 c0 : Nat} {t e : TypeId} {fs : Array Field} {m : Nat} (ht : P.underlying t = some (.slice e)) (he : P.underlying e = some (.struct fs)) (hc : P.cellsOf e = m) (hpos : 0 < m)
    (h : DataW.Trod enc P w 0 (fun _ => true) true t (.slice A n0 c0) d p) :
    n0 ≤ c0 ∧
      (0 < n0 → ∃ (g o : Nat) (es sp : List (DataW H)), A = some ⟨g, o, none⟩ ∧ g < w.heap.size ∧ d = .slice es sp ∧ es.length = n0 ∧
        ∀ j, j < n0 → ∃ (cs : List Value) (ys : List (DataW H)) (n : Nat), cs.length = m ∧ (∀ i, i < m → w.cell? ⟨g, o + j * m + i, none⟩ = cs[i]?) ∧ es[j]? = some (.agg ys) ∧
          ∀ (i : Nat) (f : Field), fs[i]? = some f → P.cellsOf f.type = 1 → f.offset < m → ∃ c y q, cs[f.offset]? = some c ∧ ys[i]? = some y ∧ DataW.trod enc P w 0 (fun _ => true) true n f.type [c] = some (y, q)) := by
  obtain ⟨fuel, hf⟩ := h
  rcases Go.Deep.open_slice ht hf with ⟨h1, h2⟩ | ⟨a, len, cap, m', n, D, Pl, h1, hb, hl, hm, hmm, h2, hx⟩
  · simp only [Value.cells, List.cons.injEq, Value.slice.injEq, and_true] at h1
    obtain ⟨rfl, rfl, rfl⟩ := h1
    exact ⟨Nat.le_refl _, fun h => absurd h (by omega)⟩
  · simp only [Value.cells, List.cons.injEq, Value.slice.injEq, and_true] at h1
    obtain ⟨rfl, rfl, rfl⟩ := h1
    simp only [Prod.mk.injEq] at h2
    refine ⟨hl, fun h0 => ?_⟩
    rw [hc] at hx
    simp only [if_true] at hmm
    have key : ∀ j, j < n0 → ∃ cs', w.cells? 0 (a.add (j * m)) m = some cs' ∧ DataW.trod enc P w 0 (fun _ => true) true n e cs' = some (D j, Pl j) := fun j hj => hx j (by omega)
    have hspot : a.spot = none := by
      obtain ⟨cs', k1, _⟩ := key 0 h0
      obtain ⟨_, hlen, hcell⟩ := World.cells?_some k1
      have h1 := hcell 0 hpos
      rw [List.getElem?_eq_getElem (by omega)] at h1
      simpa [Addr.add] using World.cell?_spot h1
    obtain ⟨g, o, s⟩ := a
    simp only at hspot
    subst hspot
    have cellAt : ∀ j, j < n0 → ∀ cs' : List Value, w.cells? 0 ((⟨g, o, none⟩ : Addr).add (j * m)) m = some cs' → cs'.length = m ∧ ∀ i, i < m → w.cell? ⟨g, o + j * m + i, none⟩ = cs'[i]? := by
      intro j hj cs' k1
      obtain ⟨_, hlen, hcell⟩ := World.cells?_some k1
      refine ⟨hlen, fun i hi => ?_⟩
      have h1 := hcell i hi
      rwa [Go.Deep.add_add, Addr.add_lit, ← Nat.add_assoc] at h1
    obtain ⟨cs0, k0, _⟩ := key 0 h0
    obtain ⟨l0, q0⟩ := cellAt 0 h0 cs0 k0
    have q00 := q0 0 hpos
    rw [List.getElem?_eq_getElem (by omega)] at q00
    refine ⟨g, o, _, _, rfl, World.block_lt_of_cell? w _ q00, h2.1, by simp, fun j hj => ?_⟩
    obtain ⟨cs', k1, k2⟩ := key j hj
    obtain ⟨lj, qj⟩ := cellAt j hj cs' k1
    obtain ⟨xs, n', rfl, hx', _, hl', hfd⟩ := DataW.trod_struct he k2
    simp only [Prod.mk.injEq] at hx'
    refine ⟨cs', xs.map (·.1), n', lj, qj, by rw [List.getElem?_map, List.getElem?_range hj]; simp [hx'.1], fun i f hi h1 ho => ?_⟩
    have hlt : i < fs.size := (Array.getElem?_eq_some_iff.1 hi).1
    have h3 := hfd i f hi
    have h4 : i < xs.length := by omega
    rw [h1, List.getElem?_eq_getElem h4] at h3
    refine ⟨cs'[f.offset]'(by omega), xs[i].1, xs[i].2, List.getElem?_eq_getElem _, by rw [List.getElem?_map, List.getElem?_eq_getElem h4]; rfl, ?_⟩
    rw [← Prod.eta xs[i]] at h3
    rw [← h3]
    congr 1
    apply List.ext_getElem?
    intro k
    rw [List.getElem?_take, List.getElem?_drop]
    cases k with
    | zero => simp [List.getElem?_eq_getElem (show f.offset < cs'.length by omega)]
    | succ k => simp
end
theorem open_struct2 {H : Type} {enc : TypeId × Value → H} {P : Program} {w : World} {b0 base : Nat} {spare : Nat → Bool} {held : Bool} {r : Reach} {t : TypeId} {v : Value} {d : DataW H} {p : List MemPlace} {fs : Array Field} (hs : P.underlying t = some (.struct fs)) (hv : Value.okWide P w r b0 t v) (h : DataW.Trod enc P w base spare held t v d p) :
    ∃ (cs : Array Value) (n : Nat) (ys : List (DataW H)), v = .agg cs ∧ cs.size = P.cellsOf t ∧ d = .agg ys ∧ ∀ (i : Nat) (f : Field), fs[i]? = some f → P.cellsOf f.type = 1 → f.offset < cs.size → ∃ y q, ys[i]? = some y ∧ DataW.trod enc P w base spare held n f.type [cs.getD f.offset default] = some (y, q) := by
  obtain ⟨cs, rfl, hsz⟩ := okWide_struct hs hv
  obtain ⟨fuel, hf⟩ := h
  obtain ⟨xs, n, rfl, q1, q2, hl, hx⟩ := DataW.trod_struct hs hf
  have hd1 : d = .agg (xs.map (·.1)) := by first | exact (Prod.mk.inj q1).1 | exact (Prod.mk.inj q2).1
  refine ⟨cs, n, xs.map (·.1), rfl, hsz, hd1, fun i f hi h1 ho => ?_⟩
  have hlt : i < fs.size := (Array.getElem?_eq_some_iff.1 hi).1
  have h2 := hx i f hi
  have h3 : i < xs.length := by omega
  rw [h1, List.getElem?_eq_getElem h3] at h2
  refine ⟨xs[i].1, xs[i].2, by rw [List.getElem?_map, List.getElem?_eq_getElem h3]; rfl, ?_⟩
  rw [← h2]
  congr 1
  have e : (Value.agg cs).cells.toList = cs.toList := rfl
  rw [e]
  apply List.ext_getElem?
  intro j
  rw [List.getElem?_take, List.getElem?_drop]
  cases j with
  | zero => simp [ho]
  | succ j => simp

section
variable {H : Type} {enc : TypeId × Value → H} {W : World}
/-- A slice of runs that came in. -/
theorem open_runs {c : Value} {d : DataW H} {p : List MemPlace} {n : Nat} (h : DataW.trod enc Tryz.prog W 0 (fun _ => true) true n 23 [c] = some (d, p)) :
    ∃ l : List Rn, RnArg W c l := by
  obtain ⟨A, len, cap, rfl⟩ : ∃ A len cap, c = .slice A len cap := by
    rcases Go.Deep.open_slice Tryz.underlying23 h with ⟨h1, h2⟩ | ⟨a, len, cap, m', n, D, Pl, h1, _⟩
    · simp only [List.cons.injEq, and_true] at h1
      exact ⟨_, _, _, h1⟩
    · simp only [List.cons.injEq, and_true] at h1
      exact ⟨_, _, _, h1⟩
  obtain ⟨hlc, hel⟩ := open_rows2 Tryz.underlying23 Tryz.underlying54 cells_run (by omega) ⟨n, h⟩
  rcases Nat.eq_zero_or_pos len with h0 | h0
  · subst h0
    exact ⟨[], A, cap, rfl, fun h => absurd h (by simp)⟩
  · obtain ⟨g, o, es, sp, rfl, hg, rfl, hes, hj⟩ := hel h0
    have key : ∀ j, j < len → ∃ t : Rn, ∀ i, i < 2 → W.cell? ⟨g, o + j * 2 + i, none⟩ = (rnC t)[i]? := by
      intro j hjl
      obtain ⟨cs, ys, n, hcl, hcell, hys, hf⟩ := hj j hjl
      obtain ⟨c0, y0, q0, k0, l0, t0⟩ := hf 0 _ rfl (by kernel_rfl) (by decide)
      obtain ⟨c1, y1, q1, k1, l1, t1⟩ := hf 1 _ rfl (by kernel_rfl) (by decide)
      obtain ⟨x0, e0, _, w0⟩ := DataW.trod_int Tryz.underlying3 t0
      obtain ⟨x1, e1, _, w1⟩ := DataW.trod_int Tryz.underlying3 t1
      simp only [List.cons.injEq, and_true] at e0 e1
      subst e0 e1
      have k0' : cs[0]? = some (.int .i64 x0) := k0
      have k1' : cs[1]? = some (.int .i64 x1) := k1
      refine ⟨(x0, x1), fun i hi => ?_⟩
      rw [hcell i hi]
      match i, hi with
      | 0, _ => exact k0'
      | 1, _ => exact k1'
    obtain ⟨F, hF⟩ := Go.Deep.choose_lt key
    have hlen : ((List.range len).map F).length = len := by simp
    refine ⟨(List.range len).map F, some ⟨g, o, none⟩, cap, by rw [hlen], fun _ => ⟨g, o, rfl, hg, fun j hj i hi => ?_⟩⟩
    rw [hlen] at hj
    rw [hF j hj i hi]
    simp
/-- A slice of names that came in. -/
theorem open_names {c : Value} {d : DataW H} {p : List MemPlace} {n : Nat} (h : DataW.trod enc Tryz.prog W 0 (fun _ => true) true n 22 [c] = some (d, p)) :
    ∃ l : List ByteArray, NmArg W c l ∧ szs l := by
  rcases Go.Deep.open_slice1 Tryz.underlying22 cells_str h with ⟨h1, h2⟩ | ⟨a, len, cap, m, n, V, D, Pl, h1, hb, hl, hm, hmm, h2, hx⟩
  · simp only [List.cons.injEq, and_true] at h1
    subst h1
    exact ⟨[], NmArg.of rfl (Nat.le_refl _) (fun h => absurd h (by simp)), fun s h => absurd h (by simp)⟩
  · simp only [List.cons.injEq, and_true] at h1
    subst h1
    simp only [if_true] at hmm
    have key : ∀ j, j < len → ∃ t : ByteArray, W.cell? (a.add j) = some (.string t) ∧ t.size ≤ 9223372036854775807 := by
      intro j hj
      obtain ⟨k1, k2⟩ := hx j (by omega)
      obtain ⟨x0, e0, _, w0⟩ := DataW.trod_string Tryz.underlying9 k2
      simp only [List.cons.injEq, and_true] at e0
      exact ⟨x0, by rw [k1, e0], by have e : maxLen = 9223372036854775807 := rfl; omega⟩
    obtain ⟨F, hF⟩ := Go.Deep.choose_lt key
    have hlen : ((List.range len).map F).length = len := by simp
    have hsz : szs ((List.range len).map F) := by
      intro s hs
      obtain ⟨j, hj, rfl⟩ := List.mem_map.1 hs
      exact (hF j (List.mem_range.1 hj)).2
    rcases Nat.eq_zero_or_pos len with h0 | h0
    · subst h0
      exact ⟨[], NmArg.of rfl (by simp) (fun h => absurd h (by simp)), fun s h => absurd h (by simp)⟩
    · have hspot : a.spot = none := by simpa [Addr.add] using World.cell?_spot (hF 0 h0).1
      obtain ⟨g, o, s⟩ := a
      simp only at hspot
      subst hspot
      have h00 := (hF 0 h0).1
      refine ⟨(List.range len).map F, NmArg.of (by rw [hlen]) (by rw [hlen]; exact hl) (fun _ => ⟨g, o, rfl, World.block_lt_of_cell? W _ h00, fun j hj => ?_⟩), hsz⟩
      rw [hlen] at hj
      have hj2 := (hF j hj).1
      rw [Addr.add_lit] at hj2
      rw [hj2]
      simp

set_option maxRecDepth 100000 in
theorem open_capture {base : Nat} {v : Value} {d : DataW H} {p : List MemPlace} (hv : Value.okWide Tryz.prog W .any base 25 v) (h : DataW.Trod enc Tryz.prog W 0 (fun _ => true) true 25 v d p) :
    ∃ (vN vR : Value) (N : List ByteArray) (R : List Rn), v = .agg #[vN, vR] ∧ NmArg W vN N ∧ szs N ∧ RnArg W vR R := by
  obtain ⟨cs, n, ys, rfl, hsz, rfl, hx⟩ := open_struct2 Tryz.underlying25 hv h
  have h2 : cs.size = 2 := hsz.trans (by kernel_rfl)
  rw [arr2 h2]
  obtain ⟨y0, q0, l0, k0⟩ := hx 0 _ rfl (by kernel_rfl) (by show 0 < cs.size; omega)
  obtain ⟨y1, q1, l1, k1⟩ := hx 1 _ rfl (by kernel_rfl) (by show 1 < cs.size; omega)
  obtain ⟨N, hN, hs⟩ := open_names k0
  obtain ⟨R, hR⟩ := open_runs k1
  exact ⟨_, _, N, R, rfl, hN, hs, hR⟩
end


end Go.Proofs.YtillcmddbjhepaaGreatDoor

namespace Go.Proofs.YtillcmddbjhepaaGreatDoor
open Go Go.ChangeShapes Go.WideShapes Go.ChangeAt Go.RowKit
set_option linter.unusedVariables false

set_option maxRecDepth 100000 in
/-- Two integers among the arguments. -/
theorem open_two {H : Type} {enc : TypeId × Value → H} {W : World} {base b : Nat} {sp : Nat → Bool} {hd : Bool} {v : Value} {d : DataW H} {p : List MemPlace} (hv : Value.okWide Tryz.prog W .any base 35 v) (h : DataW.Trod enc Tryz.prog W b sp hd 35 v d p) :
    ∃ (x y : Int), v = .agg #[.int .i64 x, .int .i64 y] ∧ (-9223372036854775808 ≤ x ∧ x ≤ 9223372036854775807) ∧ (-9223372036854775808 ≤ y ∧ y ≤ 9223372036854775807) := by
  obtain ⟨cs, n, rfl, hsz, hx⟩ := open_arr Tryz.underlying35 (by kernel_rfl) hv h
  have h2 : cs.size = 2 := hsz.trans (by kernel_rfl)
  rw [arr2 h2]
  obtain ⟨y0, k0⟩ := hx 0 (by decide) (by omega)
  obtain ⟨y1, k1⟩ := hx 1 (by decide) (by omega)
  obtain ⟨x0, e0, _, w0⟩ := DataW.trod_int Tryz.underlying3 k0
  obtain ⟨x1, e1, _, w1⟩ := DataW.trod_int Tryz.underlying3 k1
  simp only [List.cons.injEq, and_true] at e0 e1
  exact ⟨x0, x1, by rw [e0, e1], bounds_i64 w0, bounds_i64 w1⟩

end Go.Proofs.YtillcmddbjhepaaGreatDoor

namespace Go.Proofs.YtillcmddbjhepaaGreatDoor
open Go Go.ChangeShapes Go.WideShapes Go.ChangeAt Go.RowKit
set_option linter.unusedVariables false

set_option maxRecDepth 100000 in
/-- Three integers among the arguments. -/
theorem open_three {H : Type} {enc : TypeId × Value → H} {W : World} {base b : Nat} {sp : Nat → Bool} {hd : Bool} {v : Value} {d : DataW H} {p : List MemPlace} (hv : Value.okWide Tryz.prog W .any base 43 v) (h : DataW.Trod enc Tryz.prog W b sp hd 43 v d p) :
    ∃ (x y z : Int), v = .agg #[.int .i64 x, .int .i64 y, .int .i64 z] ∧ (-9223372036854775808 ≤ x ∧ x ≤ 9223372036854775807) ∧ (-9223372036854775808 ≤ y ∧ y ≤ 9223372036854775807) ∧ (-9223372036854775808 ≤ z ∧ z ≤ 9223372036854775807) := by
  obtain ⟨cs, n, rfl, hsz, hx⟩ := open_arr Tryz.underlying43 (by kernel_rfl) hv h
  have h3 : cs.size = 3 := hsz.trans (by kernel_rfl)
  rw [arr3 h3]
  obtain ⟨y0, k0⟩ := hx 0 (by decide) (by omega)
  obtain ⟨y1, k1⟩ := hx 1 (by decide) (by omega)
  obtain ⟨y2, k2⟩ := hx 2 (by decide) (by omega)
  obtain ⟨x0, e0, _, w0⟩ := DataW.trod_int Tryz.underlying3 k0
  obtain ⟨x1, e1, _, w1⟩ := DataW.trod_int Tryz.underlying3 k1
  obtain ⟨x2, e2, _, w2⟩ := DataW.trod_int Tryz.underlying3 k2
  simp only [List.cons.injEq, and_true] at e0 e1 e2
  exact ⟨x0, x1, x2, by rw [e0, e1, e2], bounds_i64 w0, bounds_i64 w1, bounds_i64 w2⟩

end Go.Proofs.YtillcmddbjhepaaGreatDoor
