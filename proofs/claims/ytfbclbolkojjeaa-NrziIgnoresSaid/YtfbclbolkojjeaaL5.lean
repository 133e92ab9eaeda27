/-
  The walk of the statement NrziIgnores.
-/
import Derived.Test.YtfbclbolkojjeaaNC
import Derived.Test.YtfbclbolkojjeaaND
namespace Go.Proofs.Ytfbclbolkojjeaa
open Go Go.RowKit Go.Joins
set_option linter.unusedVariables false
set_option linter.unusedSimpArgs false

/-- What the statement leaves aside. -/
def BadX (sm : Bool) (k f v : Int) (n : Nat) : Prop := sm = false ∨ 20 < n ∨ (k = 2 ∧ (v = 0 ∨ v = 1) ∧ 0 ≤ f)
instance (sm : Bool) (k f v : Int) (n : Nat) : Decidable (BadX sm k f v n) := by unfold BadX; exact inferInstance
theorem kp_append {B : Nat} {w w' : World} {v : Value} (b : Below B w w') (n : ∀ k, k < w.heap.size → some k ≠ v.ownBlock → w'.heap[k]? = w.heap[k]?) : ∃ X, Kp X w w' ∧ ∀ k ∈ X, v.ownBlock = some k := by
  cases h : v.ownBlock with
  | none => exact ⟨[], ⟨b.os, b.tape, b.output, b.size, fun k hk _ => n k hk (by rw [h]; simp)⟩, fun k hk => by cases hk⟩
  | some g => exact ⟨[g], ⟨b.os, b.tape, b.output, b.size, fun k hk hx => n k hk (by rw [h]; simpa using hx)⟩, fun k hk => by rw [List.mem_singleton] at hk; rw [hk]⟩
theorem ev_box (w : World) (z : Bool) (k f t v a : Int) (s : ByteArray) (u : Int) : ∃ W b3 b5, W = (w.alloc (.cells #[.bool z] 59)).alloc (.cells (evA k f t v a s u) 44) ∧ b5 = w.heap.size + 1 ∧ b3 = w.heap.size ∧ b3 < W.heap.size ∧ b5 < W.heap.size ∧ RowAt W b3 59 #[.bool z] ∧ RowAt W b5 44 (evA k f t v a s u) ∧ Below w.heap.size w W := by
  refine ⟨_, _, _, rfl, rfl, rfl, by simp only [World.size_alloc]; omega, by simp only [World.size_alloc]; omega, (RowAt.new w _ _).alloc _, RowAt.at (by simp only [World.size_alloc]), by (repeat' (first | with_reducible exact Below.refl _ _ | with_reducible exact Nat.le_refl _ | with_reducible assumption | with_reducible refine below_drewN ?_ _ | with_reducible refine Below.drew ?_ | with_reducible refine Below.trans ?_ (Below.mono (by assumption) ?_) | with_reducible refine Below.alloc ?_ ?_ _ | with_reducible refine Below.setCell ?_ ?_ _ | with_reducible refine le_setCell ?_ _ _ | with_reducible refine le_alloc ?_ _ | with_reducible refine le_drewN ?_ _ | with_reducible refine le_drew ?_ | with_reducible refine Nat.le_trans ?_ (Below.size (by assumption)) | (simp only [World.size_alloc, World.size_setCell]; omega) | omega))⟩
theorem held_xy {wr W W' : World} {B b5 g O : Nat} {x0 x1 x2 x3 x4 x5 x6 y0 y1 y2 y3 y4 y5 y6 : Value} (h : W.cell? ⟨b5, 0, none⟩ = some x0 ∧ W.cell? ⟨b5, 1, none⟩ = some x1 ∧ W.cell? ⟨b5, 2, none⟩ = some x2 ∧ W.cell? ⟨b5, 3, none⟩ = some x3 ∧ W.cell? ⟨b5, 4, none⟩ = some x4 ∧ W.cell? ⟨b5, 5, none⟩ = some x5 ∧ W.cell? ⟨b5, 6, none⟩ = some x6 ∧ W.cell? ⟨g, O, none⟩ = some y0 ∧ W.cell? ⟨g, O + 1, none⟩ = some y1 ∧ W.cell? ⟨g, O + 2, none⟩ = some y2 ∧ W.cell? ⟨g, O + 3, none⟩ = some y3 ∧ W.cell? ⟨g, O + 4, none⟩ = some y4 ∧ W.cell? ⟨g, O + 5, none⟩ = some y5 ∧ W.cell? ⟨g, O + 6, none⟩ = some y6 ∧ B ≤ W.heap.size ∧ Below B wr W) (hb : Below B W W') (m5 : b5 < B) (mg : g < B) : W'.cell? ⟨b5, 0, none⟩ = some x0 ∧ W'.cell? ⟨b5, 1, none⟩ = some x1 ∧ W'.cell? ⟨b5, 2, none⟩ = some x2 ∧ W'.cell? ⟨b5, 3, none⟩ = some x3 ∧ W'.cell? ⟨b5, 4, none⟩ = some x4 ∧ W'.cell? ⟨b5, 5, none⟩ = some x5 ∧ W'.cell? ⟨b5, 6, none⟩ = some x6 ∧ W'.cell? ⟨g, O, none⟩ = some y0 ∧ W'.cell? ⟨g, O + 1, none⟩ = some y1 ∧ W'.cell? ⟨g, O + 2, none⟩ = some y2 ∧ W'.cell? ⟨g, O + 3, none⟩ = some y3 ∧ W'.cell? ⟨g, O + 4, none⟩ = some y4 ∧ W'.cell? ⟨g, O + 5, none⟩ = some y5 ∧ W'.cell? ⟨g, O + 6, none⟩ = some y6 ∧ B ≤ W'.heap.size ∧ Below B wr W' := by
  obtain ⟨c0, c1, c2, c3, c4, c5, c6, d0, d1, d2, d3, d4, d5, d6, hz, hB⟩ := h
  exact ⟨(hb.cell m5).trans c0, (hb.cell m5).trans c1, (hb.cell m5).trans c2, (hb.cell m5).trans c3, (hb.cell m5).trans c4, (hb.cell m5).trans c5, (hb.cell m5).trans c6, (hb.cell mg).trans d0, (hb.cell mg).trans d1, (hb.cell mg).trans d2, (hb.cell mg).trans d3, (hb.cell mg).trans d4, (hb.cell mg).trans d5, (hb.cell mg).trans d6, Nat.le_trans hz hb.size, hB.trans hb⟩
theorem held_xyB {wr W : World} {B b5 g O : Nat} {x0 x1 x2 x3 x4 x5 x6 y0 y1 y2 y3 y4 y5 y6 : Value} (h : W.cell? ⟨b5, 0, none⟩ = some x0 ∧ W.cell? ⟨b5, 1, none⟩ = some x1 ∧ W.cell? ⟨b5, 2, none⟩ = some x2 ∧ W.cell? ⟨b5, 3, none⟩ = some x3 ∧ W.cell? ⟨b5, 4, none⟩ = some x4 ∧ W.cell? ⟨b5, 5, none⟩ = some x5 ∧ W.cell? ⟨b5, 6, none⟩ = some x6 ∧ W.cell? ⟨g, O, none⟩ = some y0 ∧ W.cell? ⟨g, O + 1, none⟩ = some y1 ∧ W.cell? ⟨g, O + 2, none⟩ = some y2 ∧ W.cell? ⟨g, O + 3, none⟩ = some y3 ∧ W.cell? ⟨g, O + 4, none⟩ = some y4 ∧ W.cell? ⟨g, O + 5, none⟩ = some y5 ∧ W.cell? ⟨g, O + 6, none⟩ = some y6 ∧ B ≤ W.heap.size ∧ Below B wr W) : B ≤ W.heap.size ∧ Below B wr W := h.2.2.2.2.2.2.2.2.2.2.2.2.2.2
theorem held_zx {wr W W' : World} {B b3 b5 : Nat} {zz x0 x1 x2 x3 x4 x5 x6 : Value} (h : W.cell? ⟨b3, 0, none⟩ = some zz ∧ W.cell? ⟨b5, 0, none⟩ = some x0 ∧ W.cell? ⟨b5, 1, none⟩ = some x1 ∧ W.cell? ⟨b5, 2, none⟩ = some x2 ∧ W.cell? ⟨b5, 3, none⟩ = some x3 ∧ W.cell? ⟨b5, 4, none⟩ = some x4 ∧ W.cell? ⟨b5, 5, none⟩ = some x5 ∧ W.cell? ⟨b5, 6, none⟩ = some x6 ∧ B ≤ W.heap.size ∧ Below B wr W) (hb : Below B W W') (m3 : b3 < B) (m5 : b5 < B) : W'.cell? ⟨b3, 0, none⟩ = some zz ∧ W'.cell? ⟨b5, 0, none⟩ = some x0 ∧ W'.cell? ⟨b5, 1, none⟩ = some x1 ∧ W'.cell? ⟨b5, 2, none⟩ = some x2 ∧ W'.cell? ⟨b5, 3, none⟩ = some x3 ∧ W'.cell? ⟨b5, 4, none⟩ = some x4 ∧ W'.cell? ⟨b5, 5, none⟩ = some x5 ∧ W'.cell? ⟨b5, 6, none⟩ = some x6 ∧ B ≤ W'.heap.size ∧ Below B wr W' := by
  obtain ⟨zc, c0, c1, c2, c3, c4, c5, c6, hz, hB⟩ := h
  exact ⟨(hb.cell m3).trans zc, (hb.cell m5).trans c0, (hb.cell m5).trans c1, (hb.cell m5).trans c2, (hb.cell m5).trans c3, (hb.cell m5).trans c4, (hb.cell m5).trans c5, (hb.cell m5).trans c6, Nat.le_trans hz hb.size, hB.trans hb⟩
theorem held_zxB {wr W : World} {B b3 b5 : Nat} {zz x0 x1 x2 x3 x4 x5 x6 : Value} (h : W.cell? ⟨b3, 0, none⟩ = some zz ∧ W.cell? ⟨b5, 0, none⟩ = some x0 ∧ W.cell? ⟨b5, 1, none⟩ = some x1 ∧ W.cell? ⟨b5, 2, none⟩ = some x2 ∧ W.cell? ⟨b5, 3, none⟩ = some x3 ∧ W.cell? ⟨b5, 4, none⟩ = some x4 ∧ W.cell? ⟨b5, 5, none⟩ = some x5 ∧ W.cell? ⟨b5, 6, none⟩ = some x6 ∧ B ≤ W.heap.size ∧ Below B wr W) : B ≤ W.heap.size ∧ Below B wr W := h.2.2.2.2.2.2.2.2

set_option maxRecDepth 100000 in
set_option maxHeartbeats 16000000 in
theorem law_ignores (z : Bool) (l : List Ev) (x : Ev) (V : Value) (w : World) (hT : EvArg w V l) (hl : l.length ≤ 140737488351232) (hd : ∀ j (h : j < l.length), l[j].d.length ≤ 140737488351232) (hxd : x.d.length ≤ 140737488351232) :
    Calls Try.prog 13 #[.agg #[.bool z], V, evV x] w fun e w' => e = .returned (.bool true) ∧ Below w.heap.size w w' := by
  have CT := Lib.hid (fun W (hb : Below w.heap.size w W) => small16_any l V W (hT.keep hb) hl hd)
  have CA := Lib.hid awake_any
  have HT := Lib.hid (fun W (hb : Below w.heap.size w W) => hT.keep hb)
  have hTY := smL_iff l
  obtain ⟨A, c, rfl, hA⟩ := hT
  have HA := Lib.hid hA
  have HX : Hid (evV x = .agg (evA x.k x.f x.t x.v x.a ⟨x.d.toArray⟩ x.u)) := Lib.hid rfl
  have hsz : (⟨x.d.toArray⟩ : ByteArray).size = x.d.length := size_mk _
  have HIG := Lib.hid (fun h => ig_same z x h l)
  have hnl := nzR_len z l
  have CD2 := Lib.hid (fun W hb h1 => decode_any z l (.slice A l.length c) W (HT.out W hb) h1 hd)
  have CD1 := Lib.hid (fun V W h h1 h2 => decode_any z (igL x l ++ [x]) V W h h1 h2)
  have CSm := Lib.hid (fun V V' W h1 h2 h3 => same_any (nzR z l).o V V' W h2 h3 h1)
  have hacx : ∀ q, ¬ (x.k = 2 ∧ (x.v = 0 ∨ x.v = 1) ∧ 0 ≤ x.f) → 0 ≤ q → ¬ AcE q x := fun q h h0 ha => h ⟨ha.2.1, ha.2.2.2, by have := ha.2.2.1; omega⟩
  obtain ⟨W, b3, b5, eW, e5, e3, l3, l5, r3, r5, B0⟩ := ev_box w z x.k x.f x.t x.v x.a ⟨x.d.toArray⟩ x.u
  have hWz : W.heap.size = w.heap.size + 2 := by rw [eW]; simp only [World.size_alloc]
  have HB0 := Lib.hid B0; have H3 := Lib.hid r3; have H5 := Lib.hid r5
  obtain ⟨⟨g0, g1, g2, g3, g4, g5, g6⟩, g7⟩ := row7 r5
  have hig := igL_len x l
  clear hA B0 r3 r5 g7
  rw [HX.out]
  have hxs : (⟨x.d.toArray⟩ : ByteArray).size ≤ 140737488351232 := by omega
  have HEX : Hid (∀ j, igL x (l.take (j + 1)) = igL x (l.take (j + 1))) := Lib.hid fun j => rfl
  generalize hxdd : (⟨x.d.toArray⟩ : ByteArray) = xd at *
  have hxs' : (xd.size : Int) ≤ 140737488351232 := by omega
  have HIGx := Lib.hid (fun h => HIG.out fun q h0 => hacx q h h0)
  have hlt40 := hTY
  clear HIG hacx hTY HX
  generalize hsm : smL l = sm at *
  have HSN := Lib.hid (fun (j : Nat) (hj : j < l.length) => igL_snoc x hj)
  have HSN2 : Hid (∀ e : Ev, [x, e] = [⟨x.k, x.f, x.t, x.v, x.a, x.d, x.u⟩, e]) := Lib.hid fun e => rfl
  have HEN : Hid ([x] = [(⟨x.k, x.f, x.t, x.v, x.a, x.d, x.u⟩ : Ev)]) := Lib.hid rfl
  have HL := Lib.hid (show igL x (l.take 0) = [] from rfl)
  have HLen := Lib.hid (fun (j : Nat) (hj : j ≤ l.length) => (show (igL x (l.take j)).length = 2 * j by rw [igL_len, List.length_take, Nat.min_eq_left hj]))
  have HDx := Lib.hid (show ∀ j (h : j < (igL x l ++ [x]).length), (igL x l ++ [x])[j].d.length ≤ 140737488351232 by
    intro j h
    have hm := List.getElem_mem h
    generalize (igL x l ++ [x])[j] = e at *
    rcases List.mem_append.1 hm with hm | hm
    · unfold igL at hm
      rw [List.mem_flatMap] at hm
      obtain ⟨e', he', hm⟩ := hm
      simp only [List.mem_cons, List.not_mem_nil, or_false] at hm
      rcases hm with rfl | rfl
      · exact hxd
      · obtain ⟨i, hi, rfl⟩ := List.mem_iff_getElem.1 he'
        exact hd i hi
    · simp only [List.mem_singleton] at hm
      rw [hm]; exact hxd)
  have HBX : Hid (BadX sm x.k x.f x.v xd.size ↔ sm = false ∨ 20 < xd.size ∨ (x.k = 2 ∧ (x.v = 0 ∨ x.v = 1) ∧ 0 ≤ x.f)) := Lib.hid Iff.rfl
  have HIG2 : Hid (¬ BadX sm x.k x.f x.v xd.size → (nzR z (igL x l ++ [x])).o = (nzR z l).o) := Lib.hid fun h => HIGx.out fun h2 => h (.inr (.inr h2))
  have hxdl : x.d = xd.data.toList := by rw [← hxdd]
  clear hxdd hsz HIGx hxd hd
  generalize hIL : igL x l = IL at *
  generalize x.k = x0 at *
  generalize x.f = x1 at *
  generalize x.t = x2 at *
  generalize x.v = x3 at *
  generalize x.a = x4 at *
  generalize x.u = x6 at *
  go_enter Try.func13, Try.ntmps13
  go_upto_region 1 with (fail)
  rw [← eW, ← e5, ← e3]
  clear eW e5 e3
  go_cut [37] from 9 to 36 (fun b wc => b = .bool (decide (BadX sm x0 x1 x3 xd.size)) ∧ wc = W)
  case first =>
    have hb := HBX.out
    clear HBX HIG2 hlt40 hxdl hsm hWz hig hnl HSN HSN2 HEN HL HLen HDx CD1 CD2 CSm HA HT hl hxs
    clear hIL
    cases sm
    · have hv := Lib.hid (decide_eq_true (hb.2 (.inl rfl)))
      clear hb
      go_wp2_with (go_at_call 32; go_must (refine (CT.out _ HB0.out).mono ?_; rintro e1 w1 ⟨rfl, rfl⟩))
      go_meet
      exact ⟨congrArg Value.bool (by first | exact hv.out.symm | (rw [hv.out]; first | (simp; done) | (simp; omega) | (simp_all; done))), rfl⟩
    · by_cases h20 : 20 < xd.size
      · have h20' : (20 : Int) < xd.size := by omega
        have hv := Lib.hid (decide_eq_true (hb.2 (.inr (.inl h20))))
        clear hb h20
        go_wp2_with (go_at_call 32; go_must (refine (CT.out _ HB0.out).mono ?_; rintro e1 w1 ⟨rfl, rfl⟩))
        go_meet
        exact ⟨congrArg Value.bool (by first | exact hv.out.symm | (rw [hv.out]; first | (simp; done) | (simp; omega) | (simp_all; done))), rfl⟩
      · have h20' : ¬ (20 : Int) < xd.size := by omega
        by_cases h2 : x0 = 2
        · subst h2
          by_cases h0 : x3 = 0
          · subst h0
            by_cases hf : 0 ≤ x1
            · have hv := Lib.hid (decide_eq_true (hb.2 (.inr (.inr ⟨rfl, .inl rfl, hf⟩))))
              clear hb h20
              go_wp2_with (go_at_call 32; go_must (refine (CT.out _ HB0.out).mono ?_; rintro e1 w1 ⟨rfl, rfl⟩))
              go_meet
              exact ⟨congrArg Value.bool (by first | exact hv.out.symm | (rw [hv.out]; first | (simp; done) | (simp; omega) | (simp_all; done))), rfl⟩
            · have hv := Lib.hid (decide_eq_false (fun h => (fun h => by rcases h with h | h | h <;> first | omega | (cases h; done)) (hb.1 h)))
              clear hb h20
              go_wp2_with (go_at_call 32; go_must (refine (CT.out _ HB0.out).mono ?_; rintro e1 w1 ⟨rfl, rfl⟩))
              go_meet
              exact ⟨congrArg Value.bool (by first | exact hv.out.symm | (rw [hv.out]; first | (simp; done) | (simp; omega) | (simp_all; done))), rfl⟩
          · by_cases h1 : x3 = 1
            · subst h1
              by_cases hf : 0 ≤ x1
              · have hv := Lib.hid (decide_eq_true (hb.2 (.inr (.inr ⟨rfl, .inr rfl, hf⟩))))
                clear hb h20
                go_wp2_with (go_at_call 32; go_must (refine (CT.out _ HB0.out).mono ?_; rintro e1 w1 ⟨rfl, rfl⟩))
                go_meet
                exact ⟨congrArg Value.bool (by first | exact hv.out.symm | (rw [hv.out]; first | (simp; done) | (simp; omega) | (simp_all; done))), rfl⟩
              · have hv := Lib.hid (decide_eq_false (fun h => (fun h => by rcases h with h | h | h <;> first | omega | (cases h; done)) (hb.1 h)))
                clear hb h20
                go_wp2_with (go_at_call 32; go_must (refine (CT.out _ HB0.out).mono ?_; rintro e1 w1 ⟨rfl, rfl⟩))
                go_meet
                exact ⟨congrArg Value.bool (by first | exact hv.out.symm | (rw [hv.out]; first | (simp; done) | (simp; omega) | (simp_all; done))), rfl⟩
            · have h0' : (x3 == 0) = false := by simpa using h0
              have h1' : (x3 == 1) = false := by simpa using h1
              have hv := Lib.hid (decide_eq_false (fun h => (fun h => by rcases h with h | h | h <;> first | omega | (cases h; done)) (hb.1 h)))
              clear hb h20 h0 h1
              go_wp2_with (go_at_call 32; go_must (refine (CT.out _ HB0.out).mono ?_; rintro e1 w1 ⟨rfl, rfl⟩))
              go_meet
              exact ⟨congrArg Value.bool (by first | exact hv.out.symm | (rw [hv.out]; first | (simp; done) | (simp; omega) | (simp_all; done))), rfl⟩
        · have h2' : (x0 == 2) = false := by simpa using h2
          have hv := Lib.hid (decide_eq_false (fun h => (fun h => by rcases h with h | h | h <;> first | omega | (cases h; done)) (hb.1 h)))
          clear hb h20 h2
          go_wp2_with (go_at_call 32; go_must (refine (CT.out _ HB0.out).mono ?_; rintro e1 w1 ⟨rfl, rfl⟩))
          go_meet
          exact ⟨congrArg Value.bool (by first | exact hv.out.symm | (rw [hv.out]; first | (simp; done) | (simp; omega) | (simp_all; done))), rfl⟩
  case rest =>
    obtain ⟨rfl, hwc⟩ := hcut
    have hwc' := hwc.symm
    subst hwc'
    by_cases hbad : BadX sm x0 x1 x3 xd.size
    · rw [decide_eq_true hbad]
      clear HBX HIG2 hbad
      go_wp2_with (go_at_call 33; go_must (refine (CA.out _).mono ?_; rintro e9 w9 ⟨rfl, b9⟩; have B9 := Lib.hid (HB0.out.trans (b9.mono HB0.out.size))))
      go_returns
      exact ⟨rfl, B9.out⟩
    · rw [decide_eq_false hbad]
      have hsmt : sm = true := by
        cases sm
        · exact absurd (HBX.out.2 (.inl rfl)) hbad
        · rfl
      subst hsmt
      obtain ⟨hl40, hd20⟩ := hlt40.1 rfl
      rw [HIG2.out hbad] at CD1
      have CD1' := Lib.hid (fun V W h h1 => CD1.out V W h h1 HDx.out)
      have CD2' := Lib.hid (fun W hb => CD2.out W hb (by omega))
      have CSm' := Lib.hid (fun V V' W => CSm.out V V' W (by omega))
      have hl' : (l.length : Int) ≤ 40 := by omega
      have hILl : IL.length = 2 * l.length := by rw [← hIL]; exact igL_len _ _
      have hxdl' := Lib.hid hxdl; have hIL' := Lib.hid hIL
      clear HBX HIG2 hbad hlt40 CD1 CD2 CSm CT HDx hWz hsm hxdl hIL hig hnl
      have HR0 := Lib.hid (KRow.lit (T := 44) evC_size W W.heap.size (Nat.le_refl _) [] #[] rfl 0 rfl (by decide))
      have HBa := Lib.hid (ba W (.cells #[] 44))
      obtain ⟨B0, hB0e⟩ : ∃ B, B = W.heap.size := ⟨_, rfl⟩
      have hwB : w.heap.size ≤ B0 := by rw [hB0e]; exact HB0.out.size
      have HBw := Lib.hid (fun W' (h : Below B0 W W') => (show Below w.heap.size w W' from HB0.out.trans (h.mono hwB)))
      have hBs : B0 ≤ (W.alloc (.cells #[] 44)).heap.size := by rw [hB0e]; exact HBa.out.size
      rw [← hB0e] at HR0 HBa l3 l5
      go_wp2
      rw [← hB0e]
      have HX3 := Lib.hid (fun W' (h : Below B0 W W') => (h.cell (p := ⟨b3, 0, none⟩) l3).trans H3.out.get1)
      have HX5 := Lib.hid (fun W' (h : Below B0 W W') => H5.out.below h l5)
      clear hB0e HB0
      go_loopw [8, 7] (fun i r wr => ∃ (j : Nat), j ≤ l.length ∧ i = .int .i64 j ∧ Hid (EvRow wr B0 r (igL x (l.take j))) ∧ Hid (Below B0 W wr) ∧ B0 ≤ wr.heap.size) (fun i _ _ => l.length - (intOf i).toNat)
      case atStart => exact ⟨0, Nat.zero_le _, rfl, by rw [HL.out]; exact HR0, HBa, hBs⟩
      case round =>
        obtain ⟨j, hj, rfl, HR, HB, hszr⟩ := hrel
        have hbw := HBw.out _ HB.out
        obtain ⟨⟨g0, g1, g2, g3, g4, g5, g6⟩, g7⟩ := row7 (HX5.out _ HB.out)
        clear g7
        by_cases hjl : j < l.length
        · obtain ⟨g, o, rfl, hg, hc⟩ := HA.out (by omega)
          obtain ⟨a0, a1, a2, a3, a4, a5, a6⟩ := arg_seven hc j hjl
          have f0 := (hbw.cell (p := ⟨g, o + j * 7, none⟩) hg).trans a0
          have f1 := (hbw.cell (p := ⟨g, o + j * 7 + 1, none⟩) hg).trans a1
          have f2 := (hbw.cell (p := ⟨g, o + j * 7 + 2, none⟩) hg).trans a2
          have f3 := (hbw.cell (p := ⟨g, o + j * 7 + 3, none⟩) hg).trans a3
          have f4 := (hbw.cell (p := ⟨g, o + j * 7 + 4, none⟩) hg).trans a4
          have f5 := (hbw.cell (p := ⟨g, o + j * 7 + 5, none⟩) hg).trans a5
          have f6 := (hbw.cell (p := ⟨g, o + j * 7 + 6, none⟩) hg).trans a6
          have HS := Lib.hid (HSN.out j hjl)
          have hlen := HLen.out j hj
          have HE : Hid ([x, l[j]] = [(⟨x0, x1, x2, x3, x4, xd.data.toList, x6⟩ : Ev), ⟨l[j].k, l[j].f, l[j].t, l[j].v, l[j].a, l[j].d, l[j].u⟩]) := Lib.hid (by rw [HSN2.out, hxdl'.out])
          clear a0 a1 a2 a3 a4 a5 a6 hc
          generalize igL x (l.take j) = L at *
          generalize hyd : l[j].d = ydl at *
          generalize l[j].k = y0 at *
          generalize l[j].f = y1 at *
          generalize l[j].t = y2 at *
          generalize l[j].v = y3 at *
          generalize l[j].a = y4 at *
          generalize l[j].u = y6 at *
          have hyd2 : ydl = (⟨ydl.toArray⟩ : ByteArray).data.toList := by simp
          generalize (⟨ydl.toArray⟩ : ByteArray) = yd at *
          have mg : g < B0 := by omega
          have hs := Lib.hid (And.intro g0 (And.intro g1 (And.intro g2 (And.intro g3 (And.intro g4 (And.intro g5 (And.intro g6 (And.intro f0 (And.intro f1 (And.intro f2 (And.intro f3 (And.intro f4 (And.intro f5 (And.intro f6 (And.intro hszr (Below.refl B0 wr))))))))))))))))
          clear g0 g1 g2 g3 g4 g5 g6 f0 f1 f2 f3 f4 f5 f6
          obtain ⟨RA, RN, RC, rfl, hRN⟩ := HR.out.form
          clear hRN
          go_wp2
          go_region_held3 (fun w' => w'.cell? ⟨b5, 0, none⟩ = some (.int .i64 x0) ∧ w'.cell? ⟨b5, 1, none⟩ = some (.int .i64 x1) ∧ w'.cell? ⟨b5, 2, none⟩ = some (.int .i64 x2) ∧ w'.cell? ⟨b5, 3, none⟩ = some (.int .i64 x3) ∧ w'.cell? ⟨b5, 4, none⟩ = some (.int .i64 x4) ∧ w'.cell? ⟨b5, 5, none⟩ = some (.string xd) ∧ w'.cell? ⟨b5, 6, none⟩ = some (.int .i64 x6) ∧ w'.cell? ⟨g, o + j * 7, none⟩ = some (.int .i64 y0) ∧ w'.cell? ⟨g, o + j * 7 + 1, none⟩ = some (.int .i64 y1) ∧ w'.cell? ⟨g, o + j * 7 + 2, none⟩ = some (.int .i64 y2) ∧ w'.cell? ⟨g, o + j * 7 + 3, none⟩ = some (.int .i64 y3) ∧ w'.cell? ⟨g, o + j * 7 + 4, none⟩ = some (.int .i64 y4) ∧ w'.cell? ⟨g, o + j * 7 + 5, none⟩ = some (.string yd) ∧ w'.cell? ⟨g, o + j * 7 + 6, none⟩ = some (.int .i64 y6) ∧ B0 ≤ w'.heap.size ∧ Below B0 wr w') (first | with_reducible assumption | with_reducible exact held_xy hs.out (Below.refl _ _).drew l5 mg | with_reducible exact held_xy (by with_reducible assumption) ((ba _ _).mono (held_xyB (by with_reducible assumption)).1) l5 mg | fail)
            (first
              | (refine step_append_ks (w := wr.drew) (ya := #[.int .i64 x0, .int .i64 x1, .int .i64 x2, .int .i64 x3, .int .i64 x4, .string xd, .int .i64 x6, .int .i64 y0, .int .i64 y1, .int .i64 y2, .int .i64 y3, .int .i64 y4, .string yd, .int .i64 y6]) Try.underlying36 ev_info rfl (by omega) evC_size rfl _ _ rfl rfl rfl rfl (show EvRow wr.drew B0 _ L from HR.out) (show B0 ≤ wr.drew.heap.size from hszr) [(⟨x0, x1, x2, x3, x4, xd.data.toList, x6⟩ : Ev), ⟨y0, y1, y2, y3, y4, yd.data.toList, y6⟩] rfl (by omega) rfl rfl (by omega) (by omega) ?_; intro v6 w6 R6 b6; have h6 := held_xy (wr := wr) (held_xy hs.out (Below.refl _ _).drew l5 mg) b6 l5 mg)
              | fail)
          have R6' := Lib.hid R6; have B6' := Lib.hid (HB.out.trans (held_xyB h6).2); have z6 := (held_xyB h6).1
          clear R6 h6
          go_wp2
          go_roundw
          case rel => exact ⟨j + 1, by omega, val_int (by omega), Lib.hid (by rw [HS.out, HE.out, hyd2]; exact R6'.out), B6', z6⟩
          case measure => simp [intOf]; omega
        · have he : l.take j = l := List.take_of_length_le (by omega)
          rw [he, hIL'.out] at HR
          clear he
          obtain ⟨RA, RN, RC, rfl, hRN⟩ := HR.out.form
          clear hRN
          have z0 := HX3.out _ HB.out
          have hs := Lib.hid (And.intro z0 (And.intro g0 (And.intro g1 (And.intro g2 (And.intro g3 (And.intro g4 (And.intro g5 (And.intro g6 (And.intro hszr (Below.refl B0 wr))))))))))
          clear z0 g0 g1 g2 g3 g4 g5 g6
          have hlm : IL.length ≤ 80 := by rw [← hIL'.out, igL_len]; omega
          have hown := Lib.hid (fun k (hk : (Value.slice RA RN RC).ownBlock = some k) => (HR.out.lt k hk).2)
          have HRd : Hid (EvRow wr.drew B0 (.slice RA RN RC) IL) := Lib.hid HR.out
          have HEN' : Hid ([x] = [(⟨x0, x1, x2, x3, x4, xd.data.toList, x6⟩ : Ev)]) := Lib.hid (by rw [HEN.out, hxdl'.out])
          rw [HEN'.out] at CD1'
          have hws : wr.heap.size ≤ wr.drew.heap.size := Nat.le_refl _
          go_wp2
          go_region_held3 (fun w' => w'.cell? ⟨b3, 0, none⟩ = some (.bool z) ∧ w'.cell? ⟨b5, 0, none⟩ = some (.int .i64 x0) ∧ w'.cell? ⟨b5, 1, none⟩ = some (.int .i64 x1) ∧ w'.cell? ⟨b5, 2, none⟩ = some (.int .i64 x2) ∧ w'.cell? ⟨b5, 3, none⟩ = some (.int .i64 x3) ∧ w'.cell? ⟨b5, 4, none⟩ = some (.int .i64 x4) ∧ w'.cell? ⟨b5, 5, none⟩ = some (.string xd) ∧ w'.cell? ⟨b5, 6, none⟩ = some (.int .i64 x6) ∧ B0 ≤ w'.heap.size ∧ Below B0 wr w') (first | with_reducible assumption | with_reducible exact held_zx hs.out (Below.refl _ _).drew l3 l5 | with_reducible exact held_zx (by with_reducible assumption) ((ba _ _).mono (held_zxB (by with_reducible assumption)).1) l3 l5 | fail)
            (first
              | (have tok := RD2.out; (first | refine step_append_ks2 (w := w9) (ya := #[.int .i64 x0, .int .i64 x1, .int .i64 x2, .int .i64 x3, .int .i64 x4, .string xd, .int .i64 x6]) Try.underlying36 ev_info rfl (by omega) evC_size rfl _ _ rfl rfl rfl rfl R9.out (held_zxB h9).1 [(⟨x0, x1, x2, x3, x4, xd.data.toList, x6⟩ : Ev)] rfl (by omega) rfl rfl (by omega) (by omega) ?_ | refine step_append_arg (w := w9) Try.underlying36 ev_info rfl (by omega) evC_size ev_one rfl _ _ rfl rfl rfl R9.out RL.out (held_zxB h9).1 (by simp only [List.length_singleton]; omega) (by simp only [List.length_singleton]; omega) ?_); intro v6 w6 R6 b6 n6; have h6 := held_zx h9 b6 l3 l5; have RM := Lib.hid (R6.arg evC_size); obtain ⟨X6, K6, hX6⟩ := kp_append b6 n6; have RD2' := Lib.hid (RD2.out.kp K6 (fun g hg hx => by have h1 := RD2.out.lt g hg; have h2 := hown.out g (hX6 g hx); omega)))
              | (refine step_append_ks (w := wr.drew) (ya := #[.int .i64 x0, .int .i64 x1, .int .i64 x2, .int .i64 x3, .int .i64 x4, .string xd, .int .i64 x6]) Try.underlying36 ev_info rfl (by omega) evC_size rfl _ _ rfl rfl rfl rfl HRd.out (show B0 ≤ wr.drew.heap.size from hszr) [(⟨x0, x1, x2, x3, x4, xd.data.toList, x6⟩ : Ev)] rfl (by omega) rfl rfl (by omega) (by omega) ?_; intro v6 w6 R6 b6; have h6 := held_zx (wr := wr) (held_zx hs.out (Below.refl _ _).drew l3 l5) b6 l3 l5; have RM := Lib.hid (R6.arg evC_size))
              | (go_at_call 41; (first | with_reducible refine (CD1'.out _ _ RM.out (by simp only [List.length_append, List.length_singleton]; omega)).mono ?_ | with_reducible refine (CD1'.out _ _ RM'.out (by simp only [List.length_append, List.length_singleton]; omega)).mono ?_); rintro e8 w8 ⟨v8, rfl, r8, b8⟩; have h8 := held_zx (by with_reducible assumption) (b8.mono (held_zxB (by with_reducible assumption)).1) l3 l5; have RD1 := Lib.hid (r8.arg evC_size); (first | (have RD2'' := Lib.hid ((RD2'.out.keep b8).arg evC_size)) | (have RD2'' := Lib.hid ((RD2.out.keep b8).arg evC_size)) | skip))
              | (go_at_call 41; refine (CD2'.out _ (hbw.trans ((held_zxB (by with_reducible assumption)).2.mono hwB))).mono ?_; rintro e9 w9 ⟨v9, rfl, r9, b9⟩; have h9 := held_zx (by with_reducible assumption) (b9.mono (held_zxB (by with_reducible assumption)).1) l3 l5; (first
                  | (have RD1' := Lib.hid (RD1.out.keep b9); have RD2x := Lib.hid (r9.arg evC_size))
                  | (have RM' := Lib.hid (RM.out.keep b9); have RD2 := Lib.hid r9)
                  | (have R9 := Lib.hid (HRd.out.keep b9); have RD2 := Lib.hid (r9.mono hws))
                  | (have R9 := Lib.hid ((HRd.out.alloc _).keep b9); have RL := Lib.hid ((KRow.lit (T := 44) evC_size wr.drew wr.drew.heap.size (Nat.le_refl _) [(⟨x0, x1, x2, x3, x4, xd.data.toList, x6⟩ : Ev)] #[.int .i64 x0, .int .i64 x1, .int .i64 x2, .int .i64 x3, .int .i64 x4, .string xd, .int .i64 x6] rfl 1 rfl (by decide)).arg evC_size |>.keep b9); have RD2 := Lib.hid (r9.mono (Nat.le_trans hws (ba wr.drew _).size)))))
              | (go_at_call 38; (first | refine (CSm'.out _ _ _ RD1'.out RD2x.out).mono ?_ | refine (CSm'.out _ _ _ RD1.out RD2''.out).mono ?_); rintro e7 w7 ⟨rfl, b7⟩; have h7 := held_zx (by with_reducible assumption) (b7.mono (held_zxB (by with_reducible assumption)).1) l3 l5)
              | (go_at_call 33; refine (CA.out _).mono ?_; rintro e7 w7 ⟨rfl, b7⟩; have h7 := held_zx (by with_reducible assumption) (b7.mono (held_zxB (by with_reducible assumption)).1) l3 l5)
              | fail)
          all_goals
            have B9 := Lib.hid (hbw.trans ((held_zxB (by with_reducible assumption)).2.mono hwB))
            go_wp2
            go_returns
            exact ⟨rfl, B9.out⟩

end Go.Proofs.Ytfbclbolkojjeaa
