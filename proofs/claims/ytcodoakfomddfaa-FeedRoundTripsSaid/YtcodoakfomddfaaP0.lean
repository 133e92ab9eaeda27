/-
  What the proofs of all statements of this seat share: captures, names, events and ticks among the arguments, and how long they may be.
-/
import Derived.Test.YtcodoakfomddfaaG0
import Derived.Test.YtcodoakfomddfaaQ0
import Derived.Test.YtcodoakfomddfaaT9
import Derived.Test.YtcodoakfomddfaaT11
import Derived.Test.YtcodoakfomddfaaA6
import Derived.SizedLaws
import Derived.ChangeMaps5
namespace Go.Proofs.Ytcodoakfomddfaa
open Go Go.ChangeShapes Go.WideShapes Go.ChangeAt Go.RowKit
set_option linter.unusedVariables false

instance rnInh : Inhabited Rn := ⟨(0, 0)⟩
instance baInh : Inhabited ByteArray := ⟨⟨#[]⟩⟩
theorem cells_run : Try.prog.cellsOf 46 = 2 := by kernel_rfl
theorem cells_str : Try.prog.cellsOf 9 = 1 := by kernel_rfl
theorem cells_int : Try.prog.cellsOf 3 = 1 := by kernel_rfl
theorem cells_ev : Try.prog.cellsOf 48 = 7 := by kernel_rfl
theorem bytes_ev : Try.prog.bytesOf 48 = 64 := by kernel_rfl
theorem bytes_run : Try.prog.bytesOf 46 = 16 := by kernel_rfl
theorem bytes_str : Try.prog.bytesOf 9 = 16 := by kernel_rfl
/-- A slice's datum with so many elements. -/
def Sld {H : Type} (d : DataW H) (n : Nat) : Prop := n = 0 ∨ ∃ es sp, d = .slice es sp ∧ es.length = n
theorem Sld.reach {H : Type} {P : Program} {d : DataW H} {n k : Nat} {t e : TypeId} (h : Sld d n) (hu : P.underlying t = some (.slice e)) (hb : P.bytesOf e = k) (hw : ∀ x ∈ d.weights P t, x ≤ 140737488351232) : n * k ≤ 140737488351232 := by
  rcases h with rfl | ⟨es, sp, rfl, rfl⟩
  · simp
  · have := hw ((es.length + sp.length) * P.bytesOf e) (by simp [DataW.weights, hu])
    rw [hb, Nat.add_mul] at this
    omega
theorem reach_at {H : Type} {P : Program} {ts : List TypeId} {ds : List (DataW H)} {j : Nat} {t : TypeId} {d : DataW H} (hw : (DataW.weightsEach P ts ds).all (· ≤ reachBytes) = true) (ht : ts[j]? = some t) (hj : ds[j]? = some d) : ∀ x ∈ d.weights P t, x ≤ 140737488351232 := fun x hx => by
  have e : reachBytes = 140737488351232 := rfl
  have := List.all_eq_true.1 hw _ (DataW.weights_mem_each ht hj _ hx)
  simp only [decide_eq_true_eq] at this
  omega
section
variable {H : Type} {enc : TypeId × Value → H} {P : Program} {w : World} {b0 : Nat} {r : Reach} {t : TypeId} {v : Value} {d : DataW H} {p : List MemPlace}
/-- A slice of structs. -/
theorem open_rows2 {A : Option Addr} {n0 c0 : Nat} {t e : TypeId} {fs : Array Field} {m : Nat} (ht : P.underlying t = some (.slice e)) (he : P.underlying e = some (.struct fs)) (hc : P.cellsOf e = m) (hpos : 0 < m)
    (h : DataW.Trod enc P w 0 (fun _ => true) true t (.slice A n0 c0) d p) :
    n0 ≤ c0 ∧
      (0 < n0 → ∃ (g o : Nat) (es sp : List (DataW H)), A = some ⟨g, o, none⟩ ∧ g < w.heap.size ∧ d = .slice es sp ∧ es.length = n0 ∧
        ∀ j, j < n0 → ∃ (cs : List Value) (ys : List (DataW H)) (n : Nat), cs.length = m ∧ (∀ i, i < m → w.cell? ⟨g, o + j * m + i, none⟩ = cs[i]?) ∧ es[j]? = some (.agg ys) ∧
          ∀ (i : Nat) (f : Field), fs[i]? = some f → P.cellsOf f.type = 1 → f.offset < m → ∃ c y q, cs[f.offset]? = some c ∧ ys[i]? = some y ∧ DataW.trod enc P w 0 (fun _ => true) true n f.type [c] = some (y, q)) := by
  obtain ⟨fuel, hf⟩ := h
  rcases Go.Deep.open_slice ht hf with ⟨h1, h2⟩ | ⟨a, len, cap, m', n, D, Pl, h1, hb, hl, hm, hmm, h2, hx⟩
  · simp only [Value.cells, List.cons.injEq, Value.slice.injEq, and_true] at h1
    obtain ⟨rfl, rfl, rfl⟩ := h1
    exact ⟨Nat.le_refl _, fun h => absurd h (by omega)⟩
  · simp only [Value.cells, List.cons.injEq, Value.slice.injEq, and_true] at h1
    obtain ⟨rfl, rfl, rfl⟩ := h1
    simp only [Prod.mk.injEq] at h2
    refine ⟨hl, fun h0 => ?_⟩
    rw [hc] at hx
    simp only [if_true] at hmm
    have key : ∀ j, j < n0 → ∃ cs', w.cells? 0 (a.add (j * m)) m = some cs' ∧ DataW.trod enc P w 0 (fun _ => true) true n e cs' = some (D j, Pl j) := fun j hj => hx j (by omega)
    have hspot : a.spot = none := by
      obtain ⟨cs', k1, _⟩ := key 0 h0
      obtain ⟨_, hlen, hcell⟩ := World.cells?_some k1
      have h1 := hcell 0 hpos
      rw [List.getElem?_eq_getElem (by omega)] at h1
      simpa [Addr.add] using World.cell?_spot h1
    obtain ⟨g, o, s⟩ := a
    simp only at hspot
    subst hspot
    have cellAt : ∀ j, j < n0 → ∀ cs' : List Value, w.cells? 0 ((⟨g, o, none⟩ : Addr).add (j * m)) m = some cs' → cs'.length = m ∧ ∀ i, i < m → w.cell? ⟨g, o + j * m + i, none⟩ = cs'[i]? := by
      intro j hj cs' k1
      obtain ⟨_, hlen, hcell⟩ := World.cells?_some k1
      refine ⟨hlen, fun i hi => ?_⟩
      have h1 := hcell i hi
      rwa [Go.Deep.add_add, Addr.add_lit, ← Nat.add_assoc] at h1
    obtain ⟨cs0, k0, _⟩ := key 0 h0
    obtain ⟨l0, q0⟩ := cellAt 0 h0 cs0 k0
    have q00 := q0 0 hpos
    rw [List.getElem?_eq_getElem (by omega)] at q00
    refine ⟨g, o, _, _, rfl, World.block_lt_of_cell? w _ q00, h2.1, by simp, fun j hj => ?_⟩
    obtain ⟨cs', k1, k2⟩ := key j hj
    obtain ⟨lj, qj⟩ := cellAt j hj cs' k1
    obtain ⟨xs, n', rfl, hx', _, hl', hfd⟩ := DataW.trod_struct he k2
    simp only [Prod.mk.injEq] at hx'
    refine ⟨cs', xs.map (·.1), n', lj, qj, by rw [List.getElem?_map, List.getElem?_range hj]; simp [hx'.1], fun i f hi h1 ho => ?_⟩
    have hlt : i < fs.size := (Array.getElem?_eq_some_iff.1 hi).1
    have h3 := hfd i f hi
    have h4 : i < xs.length := by omega
    rw [h1, List.getElem?_eq_getElem h4] at h3
    refine ⟨cs'[f.offset]'(by omega), xs[i].1, xs[i].2, List.getElem?_eq_getElem _, by rw [List.getElem?_map, List.getElem?_eq_getElem h4]; rfl, ?_⟩
    rw [← Prod.eta xs[i]] at h3
    rw [← h3]
    congr 1
    apply List.ext_getElem?
    intro k
    rw [List.getElem?_take, List.getElem?_drop]
    cases k with
    | zero => simp [List.getElem?_eq_getElem (show f.offset < cs'.length by omega)]
    | succ k => simp
end
theorem open_struct2 {H : Type} {enc : TypeId × Value → H} {P : Program} {w : World} {b0 base : Nat} {spare : Nat → Bool} {held : Bool} {r : Reach} {t : TypeId} {v : Value} {d : DataW H} {p : List MemPlace} {fs : Array Field} (hs : P.underlying t = some (.struct fs)) (hv : Value.okWide P w r b0 t v) (h : DataW.Trod enc P w base spare held t v d p) :
    ∃ (cs : Array Value) (n : Nat) (ys : List (DataW H)), v = .agg cs ∧ cs.size = P.cellsOf t ∧ d = .agg ys ∧ ∀ (i : Nat) (f : Field), fs[i]? = some f → P.cellsOf f.type = 1 → f.offset < cs.size → ∃ y q, ys[i]? = some y ∧ DataW.trod enc P w base spare held n f.type [cs.getD f.offset default] = some (y, q) := by
  obtain ⟨cs, rfl, hsz⟩ := okWide_struct hs hv
  obtain ⟨fuel, hf⟩ := h
  obtain ⟨xs, n, rfl, q1, q2, hl, hx⟩ := DataW.trod_struct hs hf
  have hd1 : d = .agg (xs.map (·.1)) := by first | exact (Prod.mk.inj q1).1 | exact (Prod.mk.inj q2).1
  refine ⟨cs, n, xs.map (·.1), rfl, hsz, hd1, fun i f hi h1 ho => ?_⟩
  have hlt : i < fs.size := (Array.getElem?_eq_some_iff.1 hi).1
  have h2 := hx i f hi
  have h3 : i < xs.length := by omega
  rw [h1, List.getElem?_eq_getElem h3] at h2
  refine ⟨xs[i].1, xs[i].2, by rw [List.getElem?_map, List.getElem?_eq_getElem h3]; rfl, ?_⟩
  rw [← h2]
  congr 1
  have e : (Value.agg cs).cells.toList = cs.toList := rfl
  rw [e]
  apply List.ext_getElem?
  intro j
  rw [List.getElem?_take, List.getElem?_drop]
  cases j with
  | zero => simp [ho]
  | succ j => simp

section
variable {H : Type} {enc : TypeId × Value → H} {W : World}
/-- A slice of runs that came in. -/
theorem open_runs {c : Value} {d : DataW H} {p : List MemPlace} {n : Nat} (h : DataW.trod enc Try.prog W 0 (fun _ => true) true n 23 [c] = some (d, p)) :
    ∃ l : List Rn, RnArg W c l ∧ Sld d l.length := by
  obtain ⟨A, len, cap, rfl⟩ : ∃ A len cap, c = .slice A len cap := by
    rcases Go.Deep.open_slice Try.underlying23 h with ⟨h1, h2⟩ | ⟨a, len, cap, m', n, D, Pl, h1, _⟩
    · simp only [List.cons.injEq, and_true] at h1
      exact ⟨_, _, _, h1⟩
    · simp only [List.cons.injEq, and_true] at h1
      exact ⟨_, _, _, h1⟩
  obtain ⟨hlc, hel⟩ := open_rows2 Try.underlying23 Try.underlying46 cells_run (by omega) ⟨n, h⟩
  rcases Nat.eq_zero_or_pos len with h0 | h0
  · subst h0
    exact ⟨[], ⟨A, cap, rfl, fun h => absurd h (by simp)⟩, .inl rfl⟩
  · obtain ⟨g, o, es, sp, rfl, hg, rfl, hes, hj⟩ := hel h0
    have key : ∀ j, j < len → ∃ t : Rn, ∀ i, i < 2 → W.cell? ⟨g, o + j * 2 + i, none⟩ = (rnC t)[i]? := by
      intro j hjl
      obtain ⟨cs, ys, n, hcl, hcell, hys, hf⟩ := hj j hjl
      obtain ⟨c0, y0, q0, k0, l0, t0⟩ := hf 0 _ rfl (by kernel_rfl) (by decide)
      obtain ⟨c1, y1, q1, k1, l1, t1⟩ := hf 1 _ rfl (by kernel_rfl) (by decide)
      obtain ⟨x0, e0, _, w0⟩ := DataW.trod_int Try.underlying3 t0
      obtain ⟨x1, e1, _, w1⟩ := DataW.trod_int Try.underlying3 t1
      simp only [List.cons.injEq, and_true] at e0 e1
      subst e0 e1
      have k0' : cs[0]? = some (.int .i64 x0) := k0
      have k1' : cs[1]? = some (.int .i64 x1) := k1
      refine ⟨(x0, x1), fun i hi => ?_⟩
      rw [hcell i hi]
      match i, hi with
      | 0, _ => exact k0'
      | 1, _ => exact k1'
    obtain ⟨F, hF⟩ := Go.Deep.choose_lt key
    have hlen : ((List.range len).map F).length = len := by simp
    refine ⟨(List.range len).map F, ⟨some ⟨g, o, none⟩, cap, by rw [hlen], fun _ => ⟨g, o, rfl, hg, fun j hj i hi => ?_⟩⟩, .inr ⟨es, sp, rfl, by rw [hes, hlen]⟩⟩
    rw [hlen] at hj
    rw [hF j hj i hi]
    simp
/-- A slice of names that came in. -/
theorem open_names {c : Value} {d : DataW H} {p : List MemPlace} {n : Nat} (h : DataW.trod enc Try.prog W 0 (fun _ => true) true n 22 [c] = some (d, p)) :
    ∃ l : List ByteArray, NmArg W c l ∧ szs l ∧ Sld d l.length := by
  rcases Go.Deep.open_slice1 Try.underlying22 cells_str h with ⟨h1, h2⟩ | ⟨a, len, cap, m, n, V, D, Pl, h1, hb, hl, hm, hmm, h2, hx⟩
  · simp only [List.cons.injEq, and_true] at h1
    subst h1
    exact ⟨[], NmArg.of rfl (Nat.le_refl _) (fun h => absurd h (by simp)), (fun s h => absurd h (by simp)), .inl rfl⟩
  · simp only [List.cons.injEq, and_true] at h1
    subst h1
    simp only [if_true] at hmm
    have key : ∀ j, j < len → ∃ t : ByteArray, W.cell? (a.add j) = some (.string t) ∧ t.size ≤ 9223372036854775807 := by
      intro j hj
      obtain ⟨k1, k2⟩ := hx j (by omega)
      obtain ⟨x0, e0, _, w0⟩ := DataW.trod_string Try.underlying9 k2
      simp only [List.cons.injEq, and_true] at e0
      exact ⟨x0, by rw [k1, e0], by have e : maxLen = 9223372036854775807 := rfl; omega⟩
    obtain ⟨F, hF⟩ := Go.Deep.choose_lt key
    have hlen : ((List.range len).map F).length = len := by simp
    have hsz : szs ((List.range len).map F) := by
      intro s hs
      obtain ⟨j, hj, rfl⟩ := List.mem_map.1 hs
      exact (hF j (List.mem_range.1 hj)).2
    rcases Nat.eq_zero_or_pos len with h0 | h0
    · subst h0
      exact ⟨[], NmArg.of rfl (by simp) (fun h => absurd h (by simp)), (fun s h => absurd h (by simp)), .inl rfl⟩
    · have hspot : a.spot = none := by simpa [Addr.add] using World.cell?_spot (hF 0 h0).1
      obtain ⟨g, o, s⟩ := a
      simp only at hspot
      subst hspot
      have h00 := (hF 0 h0).1
      refine ⟨(List.range len).map F, NmArg.of (by rw [hlen]) (by rw [hlen]; exact hl) (fun _ => ⟨g, o, rfl, World.block_lt_of_cell? W _ h00, fun j hj => ?_⟩), hsz, .inr ⟨_, _, (Prod.mk.inj h2).1, by simp⟩⟩
      rw [hlen] at hj
      have hj2 := (hF j hj).1
      rw [Addr.add_lit] at hj2
      rw [hj2]
      simp
set_option maxRecDepth 100000 in
/-- A capture that came in. -/
theorem open_capture {base : Nat} {v : Value} {d : DataW H} {p : List MemPlace} (hv : Value.okWide Try.prog W .any base 25 v) (h : DataW.Trod enc Try.prog W 0 (fun _ => true) true 25 v d p) :
    ∃ (vN vR : Value) (N : List ByteArray) (R : List Rn), v = .agg #[vN, vR] ∧ NmArg W vN N ∧ szs N ∧ RnArg W vR R ∧ ((∀ x ∈ d.weights Try.prog 25, x ≤ 140737488351232) → R.length ≤ 8796093022208 ∧ N.length ≤ 8796093022208) := by
  obtain ⟨cs, n, ys, rfl, hsz, rfl, hx⟩ := open_struct2 Try.underlying25 hv h
  have h2 : cs.size = 2 := hsz.trans (by kernel_rfl)
  rw [arr2 h2]
  obtain ⟨y0, q0, l0, k0⟩ := hx 0 _ rfl (by kernel_rfl) (by show 0 < cs.size; omega)
  obtain ⟨y1, q1, l1, k1⟩ := hx 1 _ rfl (by kernel_rfl) (by show 1 < cs.size; omega)
  obtain ⟨N, hN, hs, hd0⟩ := open_names k0
  obtain ⟨R, hR, hd1⟩ := open_runs k1
  refine ⟨_, _, N, R, rfl, hN, hs, hR, fun hw => ?_⟩
  have z1 := hd1.reach Try.underlying23 bytes_run fun x hx => hw x (weights_part (P := Try.prog) (e := 25) (i := 1) (f := _) Try.underlying25 rfl l1 hx)
  have z0 := hd0.reach Try.underlying22 bytes_str fun x hx => hw x (weights_part (P := Try.prog) (e := 25) (i := 0) (f := _) Try.underlying25 rfl l0 hx)
  omega
end
set_option maxRecDepth 100000 in
/-- A slice of events that came in. -/
theorem open_evs {H : Type} {enc : TypeId × Value → H} {W : World} {base : Nat} {v : Value} {d : DataW H} {p : List MemPlace} (hv : Value.okWide Try.prog W .any base 26 v) (h : DataW.Trod enc Try.prog W 0 (fun _ => true) true 26 v d p) :
    ∃ l : List Ev, EvArg W v l ∧ Sld d l.length := by
  obtain ⟨A, len, cap, rfl, hlc, hnil, hel⟩ := open_rows Try.underlying26 Try.underlying48 cells_ev (by omega) hv h
  rcases Nat.eq_zero_or_pos len with h0 | h0
  · subst h0
    exact ⟨[], ⟨A, cap, rfl, fun h => absurd h (by simp)⟩, .inl rfl⟩
  · obtain ⟨g, o, es, sp, rfl, hg, rfl, hes, hj⟩ := hel h0
    have key : ∀ j, j < len → ∃ t : Ev, (∀ i, i < 7 → W.cell? ⟨g, o + j * 7 + i, none⟩ = (evC t)[i]?) ∧ ∃ ys, es[j]? = some (.agg ys) ∧ ys[5]? = some (.lit (.string t.d)) := by
      intro j hjl
      obtain ⟨cs, ys, n, hcl, hcell, hys, hf⟩ := hj j hjl
      obtain ⟨c0, y0, q0, k0, l0, t0⟩ := hf 0 _ rfl (by kernel_rfl) (by decide)
      obtain ⟨c1, y1, q1, k1, l1, t1⟩ := hf 1 _ rfl (by kernel_rfl) (by decide)
      obtain ⟨c2, y2, q2, k2, l2, t2⟩ := hf 2 _ rfl (by kernel_rfl) (by decide)
      obtain ⟨c3, y3, q3, k3, l3, t3⟩ := hf 3 _ rfl (by kernel_rfl) (by decide)
      obtain ⟨c4, y4, q4, k4, l4, t4⟩ := hf 4 _ rfl (by kernel_rfl) (by decide)
      obtain ⟨c5, y5, q5, k5, l5, t5⟩ := hf 5 _ rfl (by kernel_rfl) (by decide)
      obtain ⟨c6, y6, q6, k6, l6, t6⟩ := hf 6 _ rfl (by kernel_rfl) (by decide)
      obtain ⟨x0, e0, _, _⟩ := DataW.trod_int Try.underlying3 t0
      obtain ⟨x1, e1, _, _⟩ := DataW.trod_int Try.underlying3 t1
      obtain ⟨x2, e2, _, _⟩ := DataW.trod_int Try.underlying3 t2
      obtain ⟨x3, e3, _, _⟩ := DataW.trod_int Try.underlying3 t3
      obtain ⟨x4, e4, _, _⟩ := DataW.trod_int Try.underlying3 t4
      obtain ⟨x5, e5, z5, _⟩ := DataW.trod_string Try.underlying9 t5
      obtain ⟨x6, e6, _, _⟩ := DataW.trod_int Try.underlying3 t6
      simp only [List.cons.injEq, and_true] at e0 e1 e2 e3 e4 e5 e6
      simp only [Prod.mk.injEq] at z5
      subst e0 e1 e2 e3 e4 e5 e6
      obtain rfl := z5.1
      have k0' : cs[0]? = some (.int .i64 x0) := k0
      have k1' : cs[1]? = some (.int .i64 x1) := k1
      have k2' : cs[2]? = some (.int .i64 x2) := k2
      have k3' : cs[3]? = some (.int .i64 x3) := k3
      have k4' : cs[4]? = some (.int .i64 x4) := k4
      have k5' : cs[5]? = some (.string x5) := k5
      have k6' : cs[6]? = some (.int .i64 x6) := k6
      refine ⟨⟨x0, x1, x2, x3, x4, x5.data.toList, x6⟩, fun i hi => ?_, ys, hys, l5⟩
      rw [hcell i hi]
      unfold evC
      match i, hi with
      | 0, _ => exact k0'
      | 1, _ => exact k1'
      | 2, _ => exact k2'
      | 3, _ => exact k3'
      | 4, _ => exact k4'
      | 5, _ => rw [k5']; simp only [bytes_of]; rfl
      | 6, _ => exact k6'
    obtain ⟨F, hF⟩ := Go.Deep.choose_lt key
    have hlen : ((List.range len).map F).length = len := by simp
    refine ⟨(List.range len).map F, ⟨some ⟨g, o, none⟩, cap, by rw [hlen], fun _ => ⟨g, o, rfl, hg, fun j hj i hi => ?_⟩⟩, .inr ⟨es, sp, rfl, by rw [hes, hlen]⟩⟩
    rw [hlen] at hj
    rw [(hF j hj).1 i hi]
    simp
set_option maxRecDepth 100000 in
/-- A slice of numbers that came in. -/
theorem open_nums {H : Type} {enc : TypeId × Value → H} {W : World} {base : Nat} {v : Value} {d : DataW H} {p : List MemPlace} (hv : Value.okWide Try.prog W .any base 35 v) (h : DataW.Trod enc Try.prog W 0 (fun _ => true) true 35 v d p) :
    ∃ l : List Int, TkArg W v l := by
  obtain ⟨A, len, cap, rfl⟩ := okWide_slice Try.underlying35 hv
  obtain ⟨fuel, hf⟩ := h
  rcases Go.Deep.open_slice1 Try.underlying35 cells_int hf with ⟨h1, h2⟩ | ⟨a, len', cap', m, n, V, D, Pl, h1, hb, hl, hm, hmm, h2, hx⟩
  · simp only [Value.cells, List.cons.injEq, Value.slice.injEq, and_true] at h1
    obtain ⟨rfl, rfl, rfl⟩ := h1
    exact ⟨[], none, 0, rfl, fun h => absurd h (by simp)⟩
  · simp only [Value.cells, List.cons.injEq, Value.slice.injEq, and_true] at h1
    obtain ⟨rfl, rfl, rfl⟩ := h1
    simp only [if_true] at hmm
    have key : ∀ j, j < len → ∃ t : Int, W.cell? (a.add j) = some (.int .i64 t) := by
      intro j hj
      obtain ⟨k1, k2⟩ := hx j (by omega)
      obtain ⟨x0, e0, _, _⟩ := DataW.trod_int Try.underlying3 k2
      simp only [List.cons.injEq, and_true] at e0
      exact ⟨x0, by rw [k1, e0]⟩
    obtain ⟨F, hF⟩ := Go.Deep.choose_lt key
    have hlen : ((List.range len).map F).length = len := by simp
    rcases Nat.eq_zero_or_pos len with h0 | h0
    · subst h0
      exact ⟨[], some a, cap, rfl, fun h => absurd h (by simp)⟩
    · have hspot : a.spot = none := by simpa [Addr.add] using World.cell?_spot (hF 0 h0)
      obtain ⟨g, o, s⟩ := a
      simp only at hspot
      subst hspot
      have h00 := hF 0 h0
      refine ⟨(List.range len).map F, some ⟨g, o, none⟩, cap, by rw [hlen], fun _ => ⟨g, o, rfl, World.block_lt_of_cell? W _ h00, fun j hj i hi => ?_⟩⟩
      rw [hlen] at hj
      have hj2 := hF j hj
      rw [Addr.add_lit] at hj2
      obtain rfl : i = 0 := by omega
      rw [Nat.mul_one, Nat.add_zero, hj2]
      simp [tkC]


end Go.Proofs.Ytcodoakfomddfaa
