/-
  Layer 16: the walk of the specification's Decode.
-/
import Derived.Test.YtfbclbolkojjeaaN3
import Derived.Test.YtfbclbolkojjeaaK4
namespace Go.Proofs.Ytfbclbolkojjeaa
open Go Go.RowKit Go.Joins
set_option linter.unusedVariables false
set_option linter.unusedSimpArgs false

theorem one_box (w : World) (z : Bool) : ∃ W b2, W = w.alloc (.cells #[.bool z] 59) ∧ b2 = w.heap.size ∧ b2 < W.heap.size ∧ RowAt W b2 59 #[.bool z] ∧ Below w.heap.size w W :=
  ⟨_, _, rfl, rfl, by rw [World.size_alloc]; omega, RowAt.new w _ _, ba _ _⟩
/-- An empty slice, and behind it a new state. -/
theorem new_state {w w1 : World} (S : Array Value) (hb : Below w.heap.size w w1) : ∃ W b5, W = (w1.alloc (.cells #[] 44)).alloc (.cells S 39) ∧ b5 = w1.heap.size + 1 ∧ b5 < W.heap.size ∧ w1.heap.size ≠ b5 ∧ W.heap.size = w1.heap.size + 2 ∧ RowAt W b5 39 S ∧ EvRow W w1.heap.size (.slice (some ⟨w1.heap.size, 0, none⟩) 0 0) [] ∧ Below w1.heap.size w1 W ∧ Below w.heap.size w W := by
  refine ⟨_, _, rfl, rfl, by simp only [World.size_alloc]; omega, by omega, by simp only [World.size_alloc], RowAt.at (by rw [World.size_alloc]), ?_, (ba _ _).alloc (by rw [World.size_alloc]; omega) _, (hb.alloc hb.size _).alloc (by rw [World.size_alloc]; have := hb.size; omega) _⟩
  exact (KRow.lit evC_size w1 w1.heap.size (Nat.le_refl _) [] #[] rfl 0 rfl (by decide)).alloc _
/-- Behind a step's region: the next state in a box of its own, the bits in a row of the call's own. -/
def NxP (wr W : World) (b : Nat) (q p : Int) (V : Value) (x : List Ev) : Prop := RowAt W b 39 (stR q p) ∧ Below wr.heap.size wr W ∧ wr.heap.size ≤ b ∧ b < W.heap.size ∧ EvRow W wr.heap.size V x
theorem way_one {wr w9 : World} {B : Nat} {V : Value} {x : List Ev} (q p : Int) (hB : wr.heap.size ≤ B) (b9 : Below wr.heap.size wr w9) (v9 : EvRow w9 B V x) : ∃ W8 b8, W8 = w9.alloc (.cells (stR q p) 39) ∧ b8 = w9.heap.size ∧ NxP wr W8 b8 q p V x :=
  ⟨_, _, rfl, rfl, RowAt.new _ _ _, b9.alloc b9.size _, b9.size, by rw [World.size_alloc]; omega, (v9.alloc _).mono hB⟩
theorem way_two {wr w9 : World} {B : Nat} {V : Value} {x : List Ev} (q p : Int) (hB : wr.heap.size < B) (b9 : Below wr.heap.size wr w9) (v9 : EvRow w9 B V x) (r9 : RowAt w9 wr.heap.size 39 (stR 0 0)) : ∃ W8 b8, W8 = ((((((((w9.setCell ⟨wr.heap.size, 0, none⟩ (.int .i64 0)).setCell ⟨wr.heap.size, 1, none⟩ (.int .i64 q)).setCell ⟨wr.heap.size, 2, none⟩ (.int .i64 0)).setCell ⟨wr.heap.size, 3, none⟩ (.int .i64 0)).setCell ⟨wr.heap.size, 4, none⟩ (.int .i64 0)).setCell ⟨wr.heap.size, 5, none⟩ (.int .i64 0)).setCell ⟨wr.heap.size, 6, none⟩ (.int .i64 p)).setCell ⟨wr.heap.size, 7, none⟩ (.string ⟨#[]⟩)) ∧ b8 = wr.heap.size ∧ NxP wr W8 b8 q p V x := by
  have hb : ∀ W, Below wr.heap.size wr W → ∀ j u, Below wr.heap.size wr (W.setCell ⟨wr.heap.size, j, none⟩ u) := fun W h j u => h.setCell (Nat.le_refl _) _
  have hk : ∀ W, Kp [wr.heap.size] w9 W → ∀ j u, Kp [wr.heap.size] w9 (W.setCell ⟨wr.heap.size, j, none⟩ u) := fun W h j u => h.setCell (.inl (by simp)) _
  refine ⟨_, _, rfl, rfl, set8 r9, hb _ (hb _ (hb _ (hb _ (hb _ (hb _ (hb _ (hb _ b9 _ _) _ _) _ _) _ _) _ _) _ _) _ _) _ _, Nat.le_refl _, by have := r9.lt; simp only [World.size_setCell]; omega, ?_⟩
  refine (KRow.kp v9 (hk _ (hk _ (hk _ (hk _ (hk _ (hk _ (hk _ (hk _ (Kp.refl _ _) _ _) _ _) _ _) _ _) _ _) _ _) _ _) _ _) fun g hg hx => ?_).mono (Nat.le_of_lt hB)
  have := v9.lt g hg
  simp only [List.mem_singleton] at hx
  omega
theorem row_drew {w : World} {b : Nat} {T : TypeId} {cs : Array Value} (h : RowAt w b T cs) : RowAt w.drew b T cs := h
theorem held16 {wr W W' : World} {z : Bool} {b2 b5 g O : Nat} {q p x0 x1 x2 x3 x4 x6 : Int} {x5 : ByteArray} (h : W.cell? ⟨b2, 0, none⟩ = some (.bool z) ∧ W.cell? ⟨b5, 0, none⟩ = some (.int .i64 0) ∧ W.cell? ⟨b5, 1, none⟩ = some (.int .i64 q) ∧ W.cell? ⟨b5, 2, none⟩ = some (.int .i64 0) ∧ W.cell? ⟨b5, 3, none⟩ = some (.int .i64 0) ∧ W.cell? ⟨b5, 4, none⟩ = some (.int .i64 0) ∧ W.cell? ⟨b5, 5, none⟩ = some (.int .i64 0) ∧ W.cell? ⟨b5, 6, none⟩ = some (.int .i64 p) ∧ W.cell? ⟨b5, 7, none⟩ = some (.string ⟨#[]⟩) ∧ W.cell? ⟨g, O, none⟩ = some (.int .i64 x0) ∧ W.cell? ⟨g, O + 1, none⟩ = some (.int .i64 x1) ∧ W.cell? ⟨g, O + 2, none⟩ = some (.int .i64 x2) ∧ W.cell? ⟨g, O + 3, none⟩ = some (.int .i64 x3) ∧ W.cell? ⟨g, O + 4, none⟩ = some (.int .i64 x4) ∧ W.cell? ⟨g, O + 5, none⟩ = some (.string x5) ∧ W.cell? ⟨g, O + 6, none⟩ = some (.int .i64 x6) ∧ wr.heap.size ≤ W.heap.size ∧ Below wr.heap.size wr W) (hb : Below wr.heap.size W W') (m2 : b2 < wr.heap.size) (m5 : b5 < wr.heap.size) (mg : g < wr.heap.size) : W'.cell? ⟨b2, 0, none⟩ = some (.bool z) ∧ W'.cell? ⟨b5, 0, none⟩ = some (.int .i64 0) ∧ W'.cell? ⟨b5, 1, none⟩ = some (.int .i64 q) ∧ W'.cell? ⟨b5, 2, none⟩ = some (.int .i64 0) ∧ W'.cell? ⟨b5, 3, none⟩ = some (.int .i64 0) ∧ W'.cell? ⟨b5, 4, none⟩ = some (.int .i64 0) ∧ W'.cell? ⟨b5, 5, none⟩ = some (.int .i64 0) ∧ W'.cell? ⟨b5, 6, none⟩ = some (.int .i64 p) ∧ W'.cell? ⟨b5, 7, none⟩ = some (.string ⟨#[]⟩) ∧ W'.cell? ⟨g, O, none⟩ = some (.int .i64 x0) ∧ W'.cell? ⟨g, O + 1, none⟩ = some (.int .i64 x1) ∧ W'.cell? ⟨g, O + 2, none⟩ = some (.int .i64 x2) ∧ W'.cell? ⟨g, O + 3, none⟩ = some (.int .i64 x3) ∧ W'.cell? ⟨g, O + 4, none⟩ = some (.int .i64 x4) ∧ W'.cell? ⟨g, O + 5, none⟩ = some (.string x5) ∧ W'.cell? ⟨g, O + 6, none⟩ = some (.int .i64 x6) ∧ wr.heap.size ≤ W'.heap.size ∧ Below wr.heap.size wr W' := by
  obtain ⟨a, c0, c1, c2, c3, c4, c5, c6, c7, d0, d1, d2, d3, d4, d5, d6, hz, B⟩ := h
  exact ⟨(hb.cell m2).trans a, (hb.cell m5).trans c0, (hb.cell m5).trans c1, (hb.cell m5).trans c2, (hb.cell m5).trans c3, (hb.cell m5).trans c4, (hb.cell m5).trans c5, (hb.cell m5).trans c6, (hb.cell m5).trans c7, (hb.cell mg).trans d0, (hb.cell mg).trans d1, (hb.cell mg).trans d2, (hb.cell mg).trans d3, (hb.cell mg).trans d4, (hb.cell mg).trans d5, (hb.cell mg).trans d6, by have := hb.size; omega, B.trans hb⟩
theorem held16B {wr W : World} {z : Bool} {b2 b5 g O : Nat} {q p x0 x1 x2 x3 x4 x6 : Int} {x5 : ByteArray} (h : W.cell? ⟨b2, 0, none⟩ = some (.bool z) ∧ W.cell? ⟨b5, 0, none⟩ = some (.int .i64 0) ∧ W.cell? ⟨b5, 1, none⟩ = some (.int .i64 q) ∧ W.cell? ⟨b5, 2, none⟩ = some (.int .i64 0) ∧ W.cell? ⟨b5, 3, none⟩ = some (.int .i64 0) ∧ W.cell? ⟨b5, 4, none⟩ = some (.int .i64 0) ∧ W.cell? ⟨b5, 5, none⟩ = some (.int .i64 0) ∧ W.cell? ⟨b5, 6, none⟩ = some (.int .i64 p) ∧ W.cell? ⟨b5, 7, none⟩ = some (.string ⟨#[]⟩) ∧ W.cell? ⟨g, O, none⟩ = some (.int .i64 x0) ∧ W.cell? ⟨g, O + 1, none⟩ = some (.int .i64 x1) ∧ W.cell? ⟨g, O + 2, none⟩ = some (.int .i64 x2) ∧ W.cell? ⟨g, O + 3, none⟩ = some (.int .i64 x3) ∧ W.cell? ⟨g, O + 4, none⟩ = some (.int .i64 x4) ∧ W.cell? ⟨g, O + 5, none⟩ = some (.string x5) ∧ W.cell? ⟨g, O + 6, none⟩ = some (.int .i64 x6) ∧ wr.heap.size ≤ W.heap.size ∧ Below wr.heap.size wr W) : wr.heap.size ≤ W.heap.size := h.2.2.2.2.2.2.2.2.2.2.2.2.2.2.2.2.1
theorem held16set {wr W : World} {z : Bool} {b2 b5 g O c j : Nat} {u : Value} {q p x0 x1 x2 x3 x4 x6 : Int} {x5 : ByteArray} (h : W.cell? ⟨b2, 0, none⟩ = some (.bool z) ∧ W.cell? ⟨b5, 0, none⟩ = some (.int .i64 0) ∧ W.cell? ⟨b5, 1, none⟩ = some (.int .i64 q) ∧ W.cell? ⟨b5, 2, none⟩ = some (.int .i64 0) ∧ W.cell? ⟨b5, 3, none⟩ = some (.int .i64 0) ∧ W.cell? ⟨b5, 4, none⟩ = some (.int .i64 0) ∧ W.cell? ⟨b5, 5, none⟩ = some (.int .i64 0) ∧ W.cell? ⟨b5, 6, none⟩ = some (.int .i64 p) ∧ W.cell? ⟨b5, 7, none⟩ = some (.string ⟨#[]⟩) ∧ W.cell? ⟨g, O, none⟩ = some (.int .i64 x0) ∧ W.cell? ⟨g, O + 1, none⟩ = some (.int .i64 x1) ∧ W.cell? ⟨g, O + 2, none⟩ = some (.int .i64 x2) ∧ W.cell? ⟨g, O + 3, none⟩ = some (.int .i64 x3) ∧ W.cell? ⟨g, O + 4, none⟩ = some (.int .i64 x4) ∧ W.cell? ⟨g, O + 5, none⟩ = some (.string x5) ∧ W.cell? ⟨g, O + 6, none⟩ = some (.int .i64 x6) ∧ wr.heap.size ≤ W.heap.size ∧ Below wr.heap.size wr W) (hc : wr.heap.size ≤ c) (m2 : b2 < wr.heap.size) (m5 : b5 < wr.heap.size) (mg : g < wr.heap.size) : (W.setCell ⟨c, j, none⟩ u).cell? ⟨b2, 0, none⟩ = some (.bool z) ∧ (W.setCell ⟨c, j, none⟩ u).cell? ⟨b5, 0, none⟩ = some (.int .i64 0) ∧ (W.setCell ⟨c, j, none⟩ u).cell? ⟨b5, 1, none⟩ = some (.int .i64 q) ∧ (W.setCell ⟨c, j, none⟩ u).cell? ⟨b5, 2, none⟩ = some (.int .i64 0) ∧ (W.setCell ⟨c, j, none⟩ u).cell? ⟨b5, 3, none⟩ = some (.int .i64 0) ∧ (W.setCell ⟨c, j, none⟩ u).cell? ⟨b5, 4, none⟩ = some (.int .i64 0) ∧ (W.setCell ⟨c, j, none⟩ u).cell? ⟨b5, 5, none⟩ = some (.int .i64 0) ∧ (W.setCell ⟨c, j, none⟩ u).cell? ⟨b5, 6, none⟩ = some (.int .i64 p) ∧ (W.setCell ⟨c, j, none⟩ u).cell? ⟨b5, 7, none⟩ = some (.string ⟨#[]⟩) ∧ (W.setCell ⟨c, j, none⟩ u).cell? ⟨g, O, none⟩ = some (.int .i64 x0) ∧ (W.setCell ⟨c, j, none⟩ u).cell? ⟨g, O + 1, none⟩ = some (.int .i64 x1) ∧ (W.setCell ⟨c, j, none⟩ u).cell? ⟨g, O + 2, none⟩ = some (.int .i64 x2) ∧ (W.setCell ⟨c, j, none⟩ u).cell? ⟨g, O + 3, none⟩ = some (.int .i64 x3) ∧ (W.setCell ⟨c, j, none⟩ u).cell? ⟨g, O + 4, none⟩ = some (.int .i64 x4) ∧ (W.setCell ⟨c, j, none⟩ u).cell? ⟨g, O + 5, none⟩ = some (.string x5) ∧ (W.setCell ⟨c, j, none⟩ u).cell? ⟨g, O + 6, none⟩ = some (.int .i64 x6) ∧ wr.heap.size ≤ (W.setCell ⟨c, j, none⟩ u).heap.size ∧ Below wr.heap.size wr (W.setCell ⟨c, j, none⟩ u) := held16 h ((Below.refl _ _).setCell hc _) m2 m5 mg

set_option maxRecDepth 20000 in
set_option maxHeartbeats 8000000 in
theorem refDecode_any (z : Bool) (l : List Ev) (V : Value) (w : World) (hT : EvArg w V l) (hl : l.length ≤ 1099511627776) (hd : ∀ j (h : j < l.length), l[j].d.length ≤ 140737488351232) :
    Calls Try.prog 42 #[.agg #[.bool z], V] w fun e w' => ∃ v, e = .returned v ∧ EvRow w' w.heap.size v (nzR z l).o ∧ Below w.heap.size w w' := by
  have CT := Lib.hid (fun W => refStart_any z W)
  have CS := Lib.hid (fun q p e W h => refStep_any z q p e W h)
  have CE := Lib.hid (fun q p W => refEnd_any z q p W)
  have HD := Lib.hid hd
  obtain ⟨A, c, rfl, hA⟩ := hT
  have HA := Lib.hid hA
  have hl' : (l.length : Int) ≤ 1099511627776 := by omega
  obtain ⟨X, b2, eX, e2, l2, r2, B0⟩ := one_box w z
  have HB0 := Lib.hid B0; have H2 := Lib.hid r2
  have z0 := r2.get1
  have hL := nzR_len z l
  clear hA hd r2 B0
  go_enter Try.func42, Try.ntmps42
  go_wp2_with (first
    | (rw [← eX, ← e2]; clear eX e2; go_at_call 35; go_must (refine (CT.out _).mono ?_; rintro e1 w1 ⟨rfl, b1⟩; have B1 := HB0.out.trans (b1.mono HB0.out.size); have Z1 := H2.out.keep b1; have s1 := b1.size)))
  obtain ⟨W, b5, eW, e5, l5, lr, lW, r5, rL, kW, BW⟩ := new_state (stR 0 1) B1
  rw [← eW, ← e5]
  have HL := Lib.hid rL; have H5 := Lib.hid r5; have HZ0 := Lib.hid (Z1.keep kW); have HBW := Lib.hid BW
  have hb5 : b2 < b5 := by omega
  have hw1 := B1.size
  have hb2 : b2 < w1.heap.size := by omega
  have hHW : w1.heap.size ≤ W.heap.size := by omega
  have hHb : w1.heap.size < b5 := by omega
  have hHw : w.heap.size ≤ w1.heap.size := hw1
  clear eW e5 rL r5 Z1 kW BW B1 b1 HB0 H2 z0 CT lW
  generalize hh : w1.heap.size = H at *
  clear hh
  go_loopw [7, 6] (fun i r wr => ∃ (j : Nat) (q p : Int) (o : List Ev), j ≤ l.length ∧ i = .int .i64 j ∧ Hid (nzR z (l.take j) = ⟨q, p, o⟩) ∧ Hid (EvRow wr H r o) ∧ Hid (r.ownBlock ≠ some b5) ∧ Hid (RowAt wr b2 59 #[.bool z]) ∧ Hid (RowAt wr b5 39 (stR q p)) ∧ Hid (Below w.heap.size w wr) ∧ W.heap.size ≤ wr.heap.size) (fun i _ _ => l.length - (intOf i).toNat)
  case atStart => exact ⟨0, 0, 1, [], Nat.zero_le _, rfl, Lib.hid rfl, HL, Lib.hid (by simp [Value.ownBlock]; omega), HZ0, H5, HBW, Nat.le_refl _⟩
  case round =>
    obtain ⟨j, q, p, o, hj, rfl, HQ, HR, HO, HZ, HS, HB, hW⟩ := hrel
    have hb := HB.out
    have ho : o.length ≤ j := by have := nzR_len z (l.take j); rw [HQ.out, List.length_take] at this; simp only at this; omega
    obtain ⟨⟨g0, g1, g2, g3, g4, g5, g6, g7⟩, g8⟩ := row8 HS.out
    have z0 := HZ.out.get1
    have m5 : b5 < wr.heap.size := by omega
    have m2 : b2 < wr.heap.size := by omega
    clear g8
    by_cases hjl : j < l.length
    · obtain ⟨g, o', rfl, hg, hc⟩ := HA.out (by omega)
      obtain ⟨a0, a1, a2, a3, a4, a5, a6⟩ := arg_seven hc j hjl
      have f0 := (hb.cell (p := ⟨g, o' + j * 7, none⟩) hg).trans a0
      have f1 := (hb.cell (p := ⟨g, o' + j * 7 + 1, none⟩) hg).trans a1
      have f2 := (hb.cell (p := ⟨g, o' + j * 7 + 2, none⟩) hg).trans a2
      have f3 := (hb.cell (p := ⟨g, o' + j * 7 + 3, none⟩) hg).trans a3
      have f4 := (hb.cell (p := ⟨g, o' + j * 7 + 4, none⟩) hg).trans a4
      have f5 := (hb.cell (p := ⟨g, o' + j * 7 + 5, none⟩) hg).trans a5
      have f6 := (hb.cell (p := ⟨g, o' + j * 7 + 6, none⟩) hg).trans a6
      have mg : g < wr.heap.size := Nat.lt_of_lt_of_le hg hb.size
      have HN : Hid (nzR z (l.take (j + 1)) = nzS z ⟨q, p, o⟩ l[j]) := Lib.hid (by rw [nzR_snoc z hjl, HQ.out])
      have HP := Lib.hid (HN.out.trans (nzS_parts z q p o l[j]))
      have CSj : Hid (∀ W, Calls Try.prog 37 #[.agg #[.bool z], .agg (stR q p), .agg (evA l[j].k l[j].f l[j].t l[j].v l[j].a ⟨l[j].d.toArray⟩ l[j].u)] W fun r w' => ∃ V, r = .returned (.tuple #[.agg (stR (nzS z ⟨q, p, []⟩ l[j]).q (nzS z ⟨q, p, []⟩ l[j]).p), V]) ∧ EvRow w' W.heap.size V (nzS z ⟨q, p, []⟩ l[j]).o ∧ Below W.heap.size W w') := Lib.hid fun W => CS.out q p l[j] W (HD.out j hjl)
      have hone := nzS_one z q p l[j]
      clear a0 a1 a2 a3 a4 a5 a6 hc HN HQ
      generalize (nzS z ⟨q, p, []⟩ l[j]).q = q' at *
      generalize (nzS z ⟨q, p, []⟩ l[j]).p = p' at *
      generalize (nzS z ⟨q, p, []⟩ l[j]).o = x' at *
      generalize (⟨l[j].d.toArray⟩ : ByteArray) = x5 at *
      generalize l[j].k = x0 at *
      generalize l[j].f = x1 at *
      generalize l[j].t = x2 at *
      generalize l[j].v = x3 at *
      generalize l[j].a = x4 at *
      generalize l[j].u = x6 at *
      obtain ⟨RA, RN, RC, rfl, hRN⟩ := HR.out.form
      clear hRN
      go_wp2
      have hs := Lib.hid (And.intro z0 (And.intro g0 (And.intro g1 (And.intro g2 (And.intro g3 (And.intro g4 (And.intro g5 (And.intro g6 (And.intro g7 (And.intro f0 (And.intro f1 (And.intro f2 (And.intro f3 (And.intro f4 (And.intro f5 (And.intro f6 (And.intro (Nat.le_refl wr.heap.size) (Below.refl wr.heap.size wr))))))))))))))))))
      clear z0 g0 g1 g2 g3 g4 g5 g6 g7 f0 f1 f2 f3 f4 f5 f6
      go_region_held3 (fun w' => w'.cell? ⟨b2, 0, none⟩ = some (.bool z) ∧ w'.cell? ⟨b5, 0, none⟩ = some (.int .i64 0) ∧ w'.cell? ⟨b5, 1, none⟩ = some (.int .i64 q) ∧ w'.cell? ⟨b5, 2, none⟩ = some (.int .i64 0) ∧ w'.cell? ⟨b5, 3, none⟩ = some (.int .i64 0) ∧ w'.cell? ⟨b5, 4, none⟩ = some (.int .i64 0) ∧ w'.cell? ⟨b5, 5, none⟩ = some (.int .i64 0) ∧ w'.cell? ⟨b5, 6, none⟩ = some (.int .i64 p) ∧ w'.cell? ⟨b5, 7, none⟩ = some (.string ⟨#[]⟩) ∧ w'.cell? ⟨g, o' + j * 7, none⟩ = some (.int .i64 x0) ∧ w'.cell? ⟨g, o' + j * 7 + 1, none⟩ = some (.int .i64 x1) ∧ w'.cell? ⟨g, o' + j * 7 + 2, none⟩ = some (.int .i64 x2) ∧ w'.cell? ⟨g, o' + j * 7 + 3, none⟩ = some (.int .i64 x3) ∧ w'.cell? ⟨g, o' + j * 7 + 4, none⟩ = some (.int .i64 x4) ∧ w'.cell? ⟨g, o' + j * 7 + 5, none⟩ = some (.string x5) ∧ w'.cell? ⟨g, o' + j * 7 + 6, none⟩ = some (.int .i64 x6) ∧ wr.heap.size ≤ w'.heap.size ∧ Below wr.heap.size wr w') (first | with_reducible assumption | (with_reducible refine held16set ?_ (by with_reducible assumption) m2 m5 mg; with_reducible refine held16set ?_ (by with_reducible assumption) m2 m5 mg; with_reducible refine held16set ?_ (by with_reducible assumption) m2 m5 mg; with_reducible refine held16set ?_ (by with_reducible assumption) m2 m5 mg; with_reducible refine held16set ?_ (by with_reducible assumption) m2 m5 mg; with_reducible refine held16set ?_ (by with_reducible assumption) m2 m5 mg; with_reducible refine held16set ?_ (by with_reducible assumption) m2 m5 mg; with_reducible refine held16set ?_ (by with_reducible assumption) m2 m5 mg; with_reducible assumption) | with_reducible exact held16 hs.out (Below.refl _ _).drew m2 m5 mg | with_reducible exact held16 (by with_reducible assumption) ((ba _ _).mono (held16B (by with_reducible assumption))) m2 m5 mg | fail)
        (first
          | (go_at_call 37; refine (CSj.out _).mono ?_; rintro e9 w9 ⟨V9, rfl, v9, b9⟩; have h9 := held16 (by with_reducible assumption) (b9.mono (held16B (by with_reducible assumption))) m2 m5 mg; have u9 := Nat.le_refl wr.heap.size; (first | (have r9 := Lib.hid ((row_drew (RowAt.new wr 39 (stR 0 0))).keep b9); obtain ⟨⟨q0, q1, q2, q3, q4, q5, q6, q7⟩, q8⟩ := row8 r9.out) | skip)))
      all_goals
        clear CSj
        first
          | (obtain ⟨W8, b8, eW8, eb8, HN8⟩ := way_two q' p' (by rw [World.size_drew, World.size_alloc]; omega) (And.right (And.right (And.right (And.right (And.right (And.right (And.right (And.right (And.right (And.right (And.right (And.right (And.right (And.right (And.right (And.right (And.right h9))))))))))))))))) v9 r9.out; rw [← eW8, ← eb8])
          | (obtain ⟨W8, b8, eW8, eb8, HN8⟩ := way_one q' p' (Nat.le_refl _) (And.right (And.right (And.right (And.right (And.right (And.right (And.right (And.right (And.right (And.right (And.right (And.right (And.right (And.right (And.right (And.right (And.right h9))))))))))))))))) v9; rw [← eW8, ← eb8])
        clear eW8 eb8
      all_goals
        clear h9 v9 b9
        try clear r9 q0 q1 q2 q3 q4 q5 q6 q7 q8
        obtain ⟨n8, k8, p8, t8, v8⟩ := HN8
        obtain ⟨⟨d0, d1, d2, d3, d4, d5, d6, d7⟩, d8⟩ := row8 n8
        have S8 := Lib.hid (HS.out.below k8 m5); have Z8 := Lib.hid (HZ.out.below k8 m2); have R8 := Lib.hid (HR.out.keep k8); have V8 := Lib.hid v8; have B8 := Lib.hid (hb.trans (k8.mono hb.size)); have z8 := k8.size
        obtain ⟨VA, VN, VC, rfl, hVN⟩ := v8.form
        clear hVN n8 k8 v8 hs
        go_wp2_with (first
          | (refine wpList_store_kp S8.out (stR q' p') (.tmp 5) (.tmp 29) 39 rfl rfl rfl rfl (by kernel_rfl) rfl rfl ?_; intro w3 r3 k3; have R3 := Lib.hid (R8.out.kp k3 (fun g hg hx => HO.out (by rw [List.mem_singleton] at hx; rw [← hx]; exact hg))); have V3 := Lib.hid ((V8.out.kp k3 (fun g hg hx => by have := V8.out.lt g hg; simp only [List.mem_singleton] at hx; omega)).arg evC_size); have Z3 := Lib.hid (k3.row Z8.out (by simp only [List.mem_singleton]; omega)); have S3 := Lib.hid r3; have B3 := Lib.hid (B8.out.trans (k3.below (by simp only [List.mem_singleton]; intro k hk; omega) B8.out.size)); have s3 := k3.size; clear r3 k3)
          | (at_builtin; go_must (refine wpList_append_arg_at Try.underlying36 ev_info rfl (by omega) evC_size ev_one rfl _ _ rfl rfl rfl R3.out V3.out (by omega) (by omega) (by omega) ?_; intro v4 w4 r4 b4 n4 o4; have R4 := Lib.hid r4; have B4 := Lib.hid b4; have S4 := Lib.hid (row_kept S3.out n4 HO.out); have O4 : Hid (v4.ownBlock ≠ some b5) := Lib.hid (by rcases o4 with h | h <;> rw [h]; exact HO.out; intro h; simp only [Option.some.injEq] at h; omega); clear r4 b4 n4 o4)))
        go_roundw
        case rel => exact ⟨j + 1, q', p', o ++ x', by omega, val_int (by omega), HP, R4, O4, Lib.hid (Z3.out.below B4.out hb2), S4, Lib.hid (B3.out.trans (B4.out.mono hHw)), by have := B4.out.size; omega⟩
        case measure => simp [intOf]; omega
    · have he : l.take j = l := List.take_of_length_le (by omega)
      rw [he] at HQ
      have HX : Hid ((nzR z l).o = o) := Lib.hid (by rw [HQ.out])
      obtain ⟨RA, RN, RC, rfl, hRN⟩ := HR.out.form
      clear hRN he HQ
      go_wp2_with (first
        | (go_at_call 40; go_must (refine (CE.out _ _ _).mono ?_; rintro e1 w1 ⟨rfl, b1⟩; have R1 := Lib.hid (HR.out.keep b1); have B1 := Lib.hid (hb.trans (b1.mono hb.size)); have s1 := b1.size))
        | (at_builtin; go_must (refine wpList_append_arg Try.underlying36 ev_info rfl (by omega) evC_size ev_one rfl _ _ rfl rfl rfl R1.out (EvArg.none _) (by omega) (by simp only [List.length_nil]; omega) (by simp only [List.length_nil]; omega) ?_; intro v4 w4 r4 b4; rw [List.append_nil] at r4; have R4 := Lib.hid r4; have B4 := Lib.hid b4; clear r4 b4)))
      go_returns
      exact ⟨_, rfl, by rw [HX.out]; exact R4.out.mono hHw, B1.out.trans (B4.out.mono hHw)⟩

end Go.Proofs.Ytfbclbolkojjeaa
