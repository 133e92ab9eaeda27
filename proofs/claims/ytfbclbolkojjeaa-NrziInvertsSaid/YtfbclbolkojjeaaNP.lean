/-
  Layer 16: what came in: a configuration, an event, events, items; how long they may be.
-/
import Derived.Test.YtfbclbolkojjeaaG0
import Derived.Test.YtfbclbolkojjeaaP1
import Derived.Test.YtfbclbolkojjeaaQ0
import Derived.Test.YtfbclbolkojjeaaP3
import Derived.Test.YtfbclbolkojjeaaA6
import Derived.Test.YtfbclbolkojjeaaN5
import Derived.SizedLaws
import Derived.ChangeMaps5
namespace Go.Proofs.Ytfbclbolkojjeaa
open Go Go.ChangeShapes Go.WideShapes Go.ChangeAt Go.RowKit
set_option linter.unusedVariables false

theorem cells_ev : Try.prog.cellsOf 44 = 7 := by kernel_rfl
theorem bytes_ev : Try.prog.bytesOf 44 = 64 := by kernel_rfl
theorem cells_it : Try.prog.cellsOf 32 = 5 := by kernel_rfl
theorem bytes_it : Try.prog.bytesOf 32 = 48 := by kernel_rfl
theorem arr1 {cs : Array Value} (h : cs.size = 1) : cs = #[cs.getD 0 default] := by
  obtain ⟨l⟩ := cs
  match l, h with
  | [a], _ => rfl
theorem open_struct2 {H : Type} {enc : TypeId × Value → H} {P : Program} {w : World} {b0 base : Nat} {spare : Nat → Bool} {held : Bool} {r : Reach} {t : TypeId} {v : Value} {d : DataW H} {p : List MemPlace} {fs : Array Field} (hs : P.underlying t = some (.struct fs)) (hv : Value.okWide P w r b0 t v) (h : DataW.Trod enc P w base spare held t v d p) :
    ∃ (cs : Array Value) (n : Nat) (ys : List (DataW H)), v = .agg cs ∧ cs.size = P.cellsOf t ∧ d = .agg ys ∧ ∀ (i : Nat) (f : Field), fs[i]? = some f → P.cellsOf f.type = 1 → f.offset < cs.size → ∃ y q, ys[i]? = some y ∧ DataW.trod enc P w base spare held n f.type [cs.getD f.offset default] = some (y, q) := by
  obtain ⟨cs, rfl, hsz⟩ := okWide_struct hs hv
  obtain ⟨fuel, hf⟩ := h
  obtain ⟨xs, n, rfl, q1, q2, hl, hx⟩ := DataW.trod_struct hs hf
  have hd1 : d = .agg (xs.map (·.1)) := by first | exact (Prod.mk.inj q1).1 | exact (Prod.mk.inj q2).1
  refine ⟨cs, n, xs.map (·.1), rfl, hsz, hd1, fun i f hi h1 ho => ?_⟩
  have hlt : i < fs.size := (Array.getElem?_eq_some_iff.1 hi).1
  have h2 := hx i f hi
  have h3 : i < xs.length := by omega
  rw [h1, List.getElem?_eq_getElem h3] at h2
  refine ⟨xs[i].1, xs[i].2, by rw [List.getElem?_map, List.getElem?_eq_getElem h3]; rfl, ?_⟩
  rw [← h2]
  congr 1
  have e : (Value.agg cs).cells.toList = cs.toList := rfl
  rw [e]
  apply List.ext_getElem?
  intro j
  rw [List.getElem?_take, List.getElem?_drop]
  cases j with
  | zero => simp [ho]
  | succ j => simp
theorem arr7 {cs : Array Value} (h : cs.size = 7) : cs = #[cs.getD 0 default, cs.getD 1 default, cs.getD 2 default, cs.getD 3 default, cs.getD 4 default, cs.getD 5 default, cs.getD 6 default] := by
  obtain ⟨l⟩ := cs
  match l, h with
  | [a, b, c, d, e, f, g], _ => rfl

set_option maxRecDepth 100000 in
/-- An event among the arguments. -/
theorem open_ev {H : Type} {enc : TypeId × Value → H} {W : World} {base b : Nat} {sp : Nat → Bool} {hd : Bool} {v : Value} {d : DataW H} {p : List MemPlace} (hv : Value.okWide Try.prog W .any base 44 v) (h : DataW.Trod enc Try.prog W b sp hd 44 v d p) :
    ∃ (x0 x1 x2 x3 x4 : Int) (s : ByteArray) (x6 : Int), v = .agg (evA x0 x1 x2 x3 x4 s x6) ∧ ∃ ys, d = .agg ys ∧ ys[5]? = some (.lit (.string s.data.toList)) := by
  obtain ⟨cs, n, ys, rfl, hsz, rfl, hx⟩ := open_struct2 Try.underlying44 hv h
  have h7 : cs.size = 7 := hsz.trans (by kernel_rfl)
  rw [arr7 h7]
  obtain ⟨y0, q0, l0, k0⟩ := hx 0 _ rfl (by kernel_rfl) (by show 0 < cs.size; omega)
  obtain ⟨y1, q1, l1, k1⟩ := hx 1 _ rfl (by kernel_rfl) (by show 1 < cs.size; omega)
  obtain ⟨y2, q2, l2, k2⟩ := hx 2 _ rfl (by kernel_rfl) (by show 2 < cs.size; omega)
  obtain ⟨y3, q3, l3, k3⟩ := hx 3 _ rfl (by kernel_rfl) (by show 3 < cs.size; omega)
  obtain ⟨y4, q4, l4, k4⟩ := hx 4 _ rfl (by kernel_rfl) (by show 4 < cs.size; omega)
  obtain ⟨y5, q5, l5, k5⟩ := hx 5 _ rfl (by kernel_rfl) (by show 5 < cs.size; omega)
  obtain ⟨y6, q6, l6, k6⟩ := hx 6 _ rfl (by kernel_rfl) (by show 6 < cs.size; omega)
  obtain ⟨x0, e0, _, _⟩ := DataW.trod_int Try.underlying3 k0
  obtain ⟨x1, e1, _, _⟩ := DataW.trod_int Try.underlying3 k1
  obtain ⟨x2, e2, _, _⟩ := DataW.trod_int Try.underlying3 k2
  obtain ⟨x3, e3, _, _⟩ := DataW.trod_int Try.underlying3 k3
  obtain ⟨x4, e4, _, _⟩ := DataW.trod_int Try.underlying3 k4
  obtain ⟨s, e5, z5, _⟩ := DataW.trod_string Try.underlying9 k5
  obtain ⟨x6, e6, _, _⟩ := DataW.trod_int Try.underlying3 k6
  simp only [List.cons.injEq, and_true] at e0 e1 e2 e3 e4 e5 e6
  simp only [Prod.mk.injEq] at z5
  obtain rfl := z5.1
  refine ⟨x0, x1, x2, x3, x4, s, x6, ?_, ys, rfl, l5⟩
  have f0 : cs.getD 0 default = .int .i64 x0 := e0
  have f1 : cs.getD 1 default = .int .i64 x1 := e1
  have f2 : cs.getD 2 default = .int .i64 x2 := e2
  have f3 : cs.getD 3 default = .int .i64 x3 := e3
  have f4 : cs.getD 4 default = .int .i64 x4 := e4
  have f5 : cs.getD 5 default = .string s := e5
  have f6 : cs.getD 6 default = .int .i64 x6 := e6
  rw [f0, f1, f2, f3, f4, f5, f6]
/-- Its data's length. -/
theorem ev_reach {H : Type} {s : ByteArray} {d : DataW H} {ts : List TypeId} {ds : List (DataW H)} {j : Nat} (hd : ∃ ys, d = .agg ys ∧ ys[5]? = some (.lit (.string s.data.toList)))
    (hw : (DataW.weightsEach Try.prog ts ds).all (· ≤ reachBytes) = true) (ht : ts[j]? = some 44) (hj : ds[j]? = some d) : s.size ≤ 140737488351232 := by
  have e : reachBytes = 140737488351232 := rfl
  obtain ⟨ys, rfl, h5⟩ := hd
  have hn : s.data.toList.length ∈ (DataW.lit (H := H) (.string s.data.toList)).weights Try.prog 9 := by simp [DataW.weights]
  have hp := weights_part (P := Try.prog) (e := 44) (i := 5) (f := _) Try.underlying44 rfl h5 hn
  have := List.all_eq_true.1 hw _ (DataW.weights_mem_each ht hj _ hp)
  simp only [decide_eq_true_eq] at this
  rw [size_len]
  omega

set_option maxRecDepth 100000 in
/-- A slice of events that came in. -/
theorem open_evs {H : Type} {enc : TypeId × Value → H} {W : World} {base : Nat} {v : Value} {d : DataW H} {p : List MemPlace} (hv : Value.okWide Try.prog W .any base 36 v) (h : DataW.Trod enc Try.prog W 0 (fun _ => true) true 36 v d p) :
    ∃ l : List Ev, EvArg W v l ∧ (l = [] ∨ ∃ es sp, d = .slice es sp ∧ es.length = l.length ∧ ∀ j (hj : j < l.length), ∃ ys, es[j]? = some (.agg ys) ∧ ys[5]? = some (.lit (.string l[j].d))) := by
  obtain ⟨A, len, cap, rfl, hlc, hnil, hel⟩ := open_rows Try.underlying36 Try.underlying44 cells_ev (by omega) hv h
  rcases Nat.eq_zero_or_pos len with h0 | h0
  · subst h0
    exact ⟨[], ⟨A, cap, rfl, fun h => absurd h (by simp)⟩, .inl rfl⟩
  · obtain ⟨g, o, es, sp, rfl, hg, rfl, hes, hj⟩ := hel h0
    have key : ∀ j, j < len → ∃ t : Ev, (∀ i, i < 7 → W.cell? ⟨g, o + j * 7 + i, none⟩ = (evC t)[i]?) ∧ ∃ ys, es[j]? = some (.agg ys) ∧ ys[5]? = some (.lit (.string t.d)) := by
      intro j hjl
      obtain ⟨cs, ys, n, hcl, hcell, hys, hf⟩ := hj j hjl
      obtain ⟨c0, y0, q0, k0, l0, t0⟩ := hf 0 _ rfl (by kernel_rfl) (by decide)
      obtain ⟨c1, y1, q1, k1, l1, t1⟩ := hf 1 _ rfl (by kernel_rfl) (by decide)
      obtain ⟨c2, y2, q2, k2, l2, t2⟩ := hf 2 _ rfl (by kernel_rfl) (by decide)
      obtain ⟨c3, y3, q3, k3, l3, t3⟩ := hf 3 _ rfl (by kernel_rfl) (by decide)
      obtain ⟨c4, y4, q4, k4, l4, t4⟩ := hf 4 _ rfl (by kernel_rfl) (by decide)
      obtain ⟨c5, y5, q5, k5, l5, t5⟩ := hf 5 _ rfl (by kernel_rfl) (by decide)
      obtain ⟨c6, y6, q6, k6, l6, t6⟩ := hf 6 _ rfl (by kernel_rfl) (by decide)
      obtain ⟨x0, e0, _, _⟩ := DataW.trod_int Try.underlying3 t0
      obtain ⟨x1, e1, _, _⟩ := DataW.trod_int Try.underlying3 t1
      obtain ⟨x2, e2, _, _⟩ := DataW.trod_int Try.underlying3 t2
      obtain ⟨x3, e3, _, _⟩ := DataW.trod_int Try.underlying3 t3
      obtain ⟨x4, e4, _, _⟩ := DataW.trod_int Try.underlying3 t4
      obtain ⟨x5, e5, z5, _⟩ := DataW.trod_string Try.underlying9 t5
      obtain ⟨x6, e6, _, _⟩ := DataW.trod_int Try.underlying3 t6
      simp only [List.cons.injEq, and_true] at e0 e1 e2 e3 e4 e5 e6
      simp only [Prod.mk.injEq] at z5
      subst e0 e1 e2 e3 e4 e5 e6
      obtain rfl := z5.1
      have k0' : cs[0]? = some (.int .i64 x0) := k0
      have k1' : cs[1]? = some (.int .i64 x1) := k1
      have k2' : cs[2]? = some (.int .i64 x2) := k2
      have k3' : cs[3]? = some (.int .i64 x3) := k3
      have k4' : cs[4]? = some (.int .i64 x4) := k4
      have k5' : cs[5]? = some (.string x5) := k5
      have k6' : cs[6]? = some (.int .i64 x6) := k6
      refine ⟨⟨x0, x1, x2, x3, x4, x5.data.toList, x6⟩, fun i hi => ?_, ys, hys, l5⟩
      rw [hcell i hi]
      unfold evC
      match i, hi with
      | 0, _ => exact k0'
      | 1, _ => exact k1'
      | 2, _ => exact k2'
      | 3, _ => exact k3'
      | 4, _ => exact k4'
      | 5, _ => rw [k5']; simp only [bytes_of]; rfl
      | 6, _ => exact k6'
    obtain ⟨F, hF⟩ := Go.Deep.choose_lt key
    have hlen : ((List.range len).map F).length = len := by simp
    refine ⟨(List.range len).map F, ⟨some ⟨g, o, none⟩, cap, by rw [hlen], fun _ => ⟨g, o, rfl, hg, fun j hj i hi => ?_⟩⟩, .inr ⟨es, sp, rfl, by rw [hes, hlen], fun j hj => ?_⟩⟩
    · rw [hlen] at hj
      rw [(hF j hj).1 i hi]
      simp
    · rw [hlen] at hj
      obtain ⟨ys, h1, h2⟩ := (hF j hj).2
      exact ⟨ys, h1, by simpa using h2⟩
/-- What the weights say of events that came in. -/
theorem evs_reach {H : Type} {l : List Ev} {d : DataW H} {ts : List TypeId} {ds : List (DataW H)} {j : Nat} (hd : l = [] ∨ ∃ es sp, d = .slice es sp ∧ es.length = l.length ∧ ∀ j (hj : j < l.length), ∃ ys, es[j]? = some (.agg ys) ∧ ys[5]? = some (.lit (.string l[j].d)))
    (hw : (DataW.weightsEach Try.prog ts ds).all (· ≤ reachBytes) = true) (ht : ts[j]? = some 36) (hj : ds[j]? = some d) : (∀ j (h : j < l.length), l[j].d.length ≤ 140737488351232) ∧ l.length ≤ 140737488351232 := by
  have e : reachBytes = 140737488351232 := rfl
  rcases hd with rfl | ⟨es, sp, rfl, hlen, hel⟩
  · exact ⟨by simp, by simp⟩
  · refine ⟨fun i hi => ?_, ?_⟩
    · obtain ⟨ys, h1, h2⟩ := hel i hi
      have hn : l[i].d.length ∈ (DataW.lit (H := H) (.string l[i].d)).weights Try.prog 9 := by simp [DataW.weights]
      have hp := weights_part (P := Try.prog) (e := 44) (i := 5) (f := _) Try.underlying44 rfl h2 hn
      have ha := weights_elem (P := Try.prog) (t := 36) (sp := sp) Try.underlying36 (List.mem_of_getElem? h1) hp
      have := List.all_eq_true.1 hw _ (DataW.weights_mem_each ht hj _ ha)
      simp only [decide_eq_true_eq] at this
      omega
    · have := sized_slice hw ht hj Try.underlying36
      rw [bytes_ev] at this
      omega


set_option maxRecDepth 100000 in
/-- A slice of items that came in. -/
theorem open_items {H : Type} {enc : TypeId × Value → H} {W : World} {base : Nat} {v : Value} {d : DataW H} {p : List MemPlace} (hv : Value.okWide Try.prog W .any base 33 v) (h : DataW.Trod enc Try.prog W 0 (fun _ => true) true 33 v d p) :
    ∃ l : List It, ItArg W v l ∧ (l = [] ∨ ∃ es sp, d = .slice es sp ∧ es.length = l.length ∧ ∀ j (hj : j < l.length), ∃ ys, es[j]? = some (.agg ys) ∧ ys[3]? = some (.lit (.string l[j].d.data.toList))) := by
  obtain ⟨A, len, cap, rfl, hlc, hnil, hel⟩ := open_rows Try.underlying33 Try.underlying32 cells_it (by omega) hv h
  rcases Nat.eq_zero_or_pos len with h0 | h0
  · subst h0
    exact ⟨[], ⟨A, cap, rfl, fun h => absurd h (by simp)⟩, .inl rfl⟩
  · obtain ⟨g, o, es, sp, rfl, hg, rfl, hes, hj⟩ := hel h0
    have key : ∀ j, j < len → ∃ t : It, (∀ i, i < 5 → W.cell? ⟨g, o + j * 5 + i, none⟩ = (itC t)[i]?) ∧ ∃ ys, es[j]? = some (.agg ys) ∧ ys[3]? = some (.lit (.string t.d.data.toList)) := by
      intro j hjl
      obtain ⟨cs, ys, n, hcl, hcell, hys, hf⟩ := hj j hjl
      obtain ⟨c0, y0, q0, k0, l0, t0⟩ := hf 0 _ rfl (by kernel_rfl) (by decide)
      obtain ⟨c1, y1, q1, k1, l1, t1⟩ := hf 1 _ rfl (by kernel_rfl) (by decide)
      obtain ⟨c2, y2, q2, k2, l2, t2⟩ := hf 2 _ rfl (by kernel_rfl) (by decide)
      obtain ⟨c3, y3, q3, k3, l3, t3⟩ := hf 3 _ rfl (by kernel_rfl) (by decide)
      obtain ⟨c4, y4, q4, k4, l4, t4⟩ := hf 4 _ rfl (by kernel_rfl) (by decide)
      obtain ⟨x0, e0, _, _⟩ := DataW.trod_int Try.underlying3 t0
      obtain ⟨x1, e1, _, _⟩ := DataW.trod_int Try.underlying3 t1
      obtain ⟨x2, e2, _, _⟩ := DataW.trod_int Try.underlying3 t2
      obtain ⟨x3, e3, z3, _⟩ := DataW.trod_string Try.underlying9 t3
      obtain ⟨x4, e4, _, _⟩ := DataW.trod_int Try.underlying3 t4
      simp only [List.cons.injEq, and_true] at e0 e1 e2 e3 e4
      simp only [Prod.mk.injEq] at z3
      subst e0 e1 e2 e3 e4
      obtain rfl := z3.1
      have k0' : cs[0]? = some (.int .i64 x0) := k0
      have k1' : cs[1]? = some (.int .i64 x1) := k1
      have k2' : cs[2]? = some (.int .i64 x2) := k2
      have k3' : cs[3]? = some (.string x3) := k3
      have k4' : cs[4]? = some (.int .i64 x4) := k4
      refine ⟨⟨x0, x1, x2, x3, x4⟩, fun i hi => ?_, ys, hys, l3⟩
      rw [hcell i hi]
      unfold itC
      match i, hi with
      | 0, _ => exact k0'
      | 1, _ => exact k1'
      | 2, _ => exact k2'
      | 3, _ => exact k3'
      | 4, _ => exact k4'
    obtain ⟨F, hF⟩ := Go.Deep.choose_lt key
    have hlen : ((List.range len).map F).length = len := by simp
    refine ⟨(List.range len).map F, ⟨some ⟨g, o, none⟩, cap, by rw [hlen], fun _ => ⟨g, o, rfl, hg, fun j hj i hi => ?_⟩⟩, .inr ⟨es, sp, rfl, by rw [hes, hlen], fun j hj => ?_⟩⟩
    · rw [hlen] at hj
      rw [(hF j hj).1 i hi]
      simp
    · rw [hlen] at hj
      obtain ⟨ys, h1, h2⟩ := (hF j hj).2
      exact ⟨ys, h1, by simpa using h2⟩
/-- What the weights say of items that came in. -/
theorem items_reach {H : Type} {l : List It} {d : DataW H} {ts : List TypeId} {ds : List (DataW H)} {j : Nat} (hd : l = [] ∨ ∃ es sp, d = .slice es sp ∧ es.length = l.length ∧ ∀ j (hj : j < l.length), ∃ ys, es[j]? = some (.agg ys) ∧ ys[3]? = some (.lit (.string l[j].d.data.toList)))
    (hw : (DataW.weightsEach Try.prog ts ds).all (· ≤ reachBytes) = true) (ht : ts[j]? = some 33) (hj : ds[j]? = some d) : (∀ j (h : j < l.length), l[j].d.size ≤ 140737488351232) ∧ l.length ≤ 140737488351232 := by
  have e : reachBytes = 140737488351232 := rfl
  rcases hd with rfl | ⟨es, sp, rfl, hlen, hel⟩
  · exact ⟨by simp, by simp⟩
  · refine ⟨fun i hi => ?_, ?_⟩
    · obtain ⟨ys, h1, h2⟩ := hel i hi
      have hn : l[i].d.data.toList.length ∈ (DataW.lit (H := H) (.string l[i].d.data.toList)).weights Try.prog 9 := by simp [DataW.weights]
      have hp := weights_part (P := Try.prog) (e := 32) (i := 3) (f := _) Try.underlying32 rfl h2 hn
      have ha := weights_elem (P := Try.prog) (t := 33) (sp := sp) Try.underlying33 (List.mem_of_getElem? h1) hp
      have := List.all_eq_true.1 hw _ (DataW.weights_mem_each ht hj _ ha)
      simp only [decide_eq_true_eq] at this
      rw [size_len]
      omega
    · have := sized_slice hw ht hj Try.underlying33
      rw [bytes_it] at this
      omega
set_option maxRecDepth 100000 in
/-- A configuration of nrzi. -/
theorem open_nrzi {H : Type} {enc : TypeId × Value → H} {W : World} {base b : Nat} {sp : Nat → Bool} {hd : Bool} {v : Value} {d : DataW H} {p : List MemPlace} (hv : Value.okWide Try.prog W .any base 59 v) (h : DataW.Trod enc Try.prog W b sp hd 59 v d p) :
    ∃ z : Bool, v = .agg #[.bool z] := by
  obtain ⟨cs, n, ys, rfl, hsz, rfl, hx⟩ := open_struct2 Try.underlying59 hv h
  have h1 : cs.size = 1 := hsz.trans (by kernel_rfl)
  rw [arr1 h1]
  obtain ⟨y0, q0, l0, k0⟩ := hx 0 _ rfl (by kernel_rfl) (by show 0 < cs.size; omega)
  obtain ⟨x0, e0, _⟩ := DataW.trod_bool Try.underlying4 k0
  simp only [List.cons.injEq, and_true] at e0
  have e1 : cs.getD 0 default = .bool x0 := e0
  exact ⟨x0, by rw [e1]⟩

end Go.Proofs.Ytfbclbolkojjeaa
