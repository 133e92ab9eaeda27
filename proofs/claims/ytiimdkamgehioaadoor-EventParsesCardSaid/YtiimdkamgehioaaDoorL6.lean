/-
  EventRoundTrips: the event of a line of a valid event is that event, and the line of an event that was parsed is that line; other events have no line.
-/
import Derived.Test.YtiimdkamgehioaaDoorA17
import Derived.Test.YtiimdkamgehioaaDoorA15
namespace Go.Proofs.YtiimdkamgehioaaDoor
open Go Go.RowKit Go.Joins
set_option linter.unusedVariables false
set_option linter.unusedSimpArgs false

theorem held_rt {w W W' : World} {b : Nat} {k f t v a : Int} {s : ByteArray} {u : Int} (h : W.cell? ⟨b, 0, none⟩ = some (.int .i64 k) ∧ W.cell? ⟨b, 1, none⟩ = some (.int .i64 f) ∧ W.cell? ⟨b, 2, none⟩ = some (.int .i64 t) ∧ W.cell? ⟨b, 3, none⟩ = some (.int .i64 v) ∧ W.cell? ⟨b, 4, none⟩ = some (.int .i64 a) ∧ W.cell? ⟨b, 5, none⟩ = some (.string s) ∧ W.cell? ⟨b, 6, none⟩ = some (.int .i64 u) ∧ Below w.heap.size w W ∧ b < W.heap.size) (hb : Below W.heap.size W W') : W'.cell? ⟨b, 0, none⟩ = some (.int .i64 k) ∧ W'.cell? ⟨b, 1, none⟩ = some (.int .i64 f) ∧ W'.cell? ⟨b, 2, none⟩ = some (.int .i64 t) ∧ W'.cell? ⟨b, 3, none⟩ = some (.int .i64 v) ∧ W'.cell? ⟨b, 4, none⟩ = some (.int .i64 a) ∧ W'.cell? ⟨b, 5, none⟩ = some (.string s) ∧ W'.cell? ⟨b, 6, none⟩ = some (.int .i64 u) ∧ Below w.heap.size w W' ∧ b < W'.heap.size := by
  obtain ⟨a0, a1, a2, a3, a4, a5, a6, hB, l1⟩ := h
  have hs := hb.size
  exact ⟨(hb.cell l1).trans a0, (hb.cell l1).trans a1, (hb.cell l1).trans a2, (hb.cell l1).trans a3, (hb.cell l1).trans a4, (hb.cell l1).trans a5, (hb.cell l1).trans a6, hB.trans (hb.mono hB.size), by omega⟩
theorem below_rt {w W : World} {b : Nat} {k f t v a : Int} {s : ByteArray} {u : Int} (h : W.cell? ⟨b, 0, none⟩ = some (.int .i64 k) ∧ W.cell? ⟨b, 1, none⟩ = some (.int .i64 f) ∧ W.cell? ⟨b, 2, none⟩ = some (.int .i64 t) ∧ W.cell? ⟨b, 3, none⟩ = some (.int .i64 v) ∧ W.cell? ⟨b, 4, none⟩ = some (.int .i64 a) ∧ W.cell? ⟨b, 5, none⟩ = some (.string s) ∧ W.cell? ⟨b, 6, none⟩ = some (.int .i64 u) ∧ Below w.heap.size w W ∧ b < W.heap.size) : Below w.heap.size w W := h.2.2.2.2.2.2.2.1
/-- What Parse answers of a string: an error with some event, or the valid event whose line it is. -/
theorem pr_cases (l : List UInt8) : (∃ e c, (c = 2 ∨ c = 4) ∧ prV l = .tuple #[evV e, .int .i64 c]) ∨ (∃ e, vE e = true ∧ ln7 e = l ∧ prV l = .tuple #[evV e, .int .i64 0]) := by
  unfold prV
  cases h : p7 l with
  | none => exact .inl ⟨_, 4, .inr rfl, rfl⟩
  | some e =>
    cases hv : vE e with
    | false => exact .inl ⟨⟨0, 0, 0, 0, 0, [], 0⟩, 2, .inl rfl, by simp [hv]⟩
    | true => exact .inr ⟨e, hv, ln7_p7 h hv, by simp [hv]⟩
theorem new_rt (w : World) (k f t v a : Int) (s : ByteArray) (u : Int) : ∃ W b, W = w.alloc (.cells (evA k f t v a s u) 23) ∧ b = w.heap.size ∧ W.cell? ⟨b, 0, none⟩ = some (.int .i64 k) ∧ W.cell? ⟨b, 1, none⟩ = some (.int .i64 f) ∧ W.cell? ⟨b, 2, none⟩ = some (.int .i64 t) ∧ W.cell? ⟨b, 3, none⟩ = some (.int .i64 v) ∧ W.cell? ⟨b, 4, none⟩ = some (.int .i64 a) ∧ W.cell? ⟨b, 5, none⟩ = some (.string s) ∧ W.cell? ⟨b, 6, none⟩ = some (.int .i64 u) ∧ Below w.heap.size w W ∧ b < W.heap.size := by
  refine ⟨_, _, rfl, rfl, ?_⟩
  have h1 := seven_new w k f t v a s u 23
  exact ⟨h1.1, h1.2.1, h1.2.2.1, h1.2.2.2.1, h1.2.2.2.2.1, h1.2.2.2.2.2.1, h1.2.2.2.2.2.2, (Below.refl _ w).alloc (Nat.le_refl _) _, by rw [World.size_alloc]; omega⟩

set_option maxRecDepth 20000 in
set_option maxHeartbeats 8000000 in
theorem round_big (k f t v a : Int) (s : ByteArray) (u : Int) (x : ByteArray) (w : World) (hE : Env w) (hs : s.size ≤ 140737488351232) (hx : x.size ≤ 140737488351232) (h : 300 < s.size ∨ 400 < x.size) :
    Calls Tryd.prog 7 #[.agg (evA k f t v a s u), .string x] w fun e w' => e = .returned (.bool true) ∧ Below w.heap.size w w' := by
  have HA := Lib.hid (fun W h => awake_any W (hE.below h))
  have z1 : (s.size : Int) ≤ 140737488351232 := by omega
  have z2 : (x.size : Int) ≤ 140737488351232 := by omega
  obtain ⟨W, b, eW, eb, HS⟩ := new_rt w k f t v a s u
  have hs0 := Lib.hid HS
  have c5 : W.cell? ⟨b, 5, none⟩ = some (.string s) := HS.2.2.2.2.2.1
  have HB := Lib.hid (below_rt HS)
  clear HS hE
  rcases Nat.lt_or_ge 300 s.size with h5 | h5
  · have i1 : (300 : Int) < s.size := by omega
    have d1 := decide_eq_true i1
    clear h
    go_enter Tryd.func7, Tryd.ntmps7
    go_wp2_with (go_at_call 10; go_must (rw [← eW]; refine (HA.out _ HB.out).mono ?_; rintro e1 w1 ⟨rfl, b1⟩))
    go_returns
    exact ⟨rfl, HB.out.trans (b1.mono HB.out.size)⟩
  · have i1 : ¬ (300 : Int) < s.size := by omega
    have d1 := decide_eq_false i1
    have i2 : (400 : Int) < x.size := by omega
    have d2 := decide_eq_true i2
    clear h
    go_enter Tryd.func7, Tryd.ntmps7
    go_wp2_with (go_at_call 10; go_must (rw [← eW]; refine (HA.out _ HB.out).mono ?_; rintro e1 w1 ⟨rfl, b1⟩))
    go_returns
    exact ⟨rfl, HB.out.trans (b1.mono HB.out.size)⟩

set_option maxRecDepth 20000 in
set_option maxHeartbeats 8000000 in
theorem round_vo (k f t v a : Int) (s : ByteArray) (u : Int) (x : ByteArray) (w : World) (hE : Env w) (hs : s.size ≤ 300) (hx : x.size ≤ 400) (hv : vE ⟨k, f, t, v, a, s.data.toList, u⟩ = true) (k' f' t' v' a' : Int) (s' : ByteArray) (u' : Int) (hy : vE ⟨k', f', t', v', a', s'.data.toList, u'⟩ = true) (hl : ln7 ⟨k', f', t', v', a', s'.data.toList, u'⟩ = x.data.toList) (hp : prV x.data.toList = .tuple #[.agg (evA k' f' t' v' a' s' u'), .int .i64 0]) :
    Calls Tryd.prog 7 #[.agg (evA k f t v a s u), .string x] w fun e w' => e = .returned (.bool true) ∧ Below w.heap.size w w' := by
  have HA := Lib.hid (fun W h => awake_any W (hE.below h))
  have z1 : ¬ (300 : Int) < s.size := by omega
  have z2 : ¬ (400 : Int) < x.size := by omega
  have d1 := decide_eq_false z1
  have d2 := decide_eq_false z2
  have z3 : (s.size : Int) ≤ 300 := by omega
  have z4 : (x.size : Int) ≤ 400 := by omega
  have CV := fun W => (valid_xy k f t v a s u W (by omega)).mono fun e w' (h : _ ∧ _) => (⟨h.1, by rw [h.2]; exact ba _ _⟩ : e = .returned (.bool (decide (VeP k f t v a s.size u))) ∧ Below W.heap.size W w')
  have CL := fun W (h : Below w.heap.size w W) => line_xy k f t v a s u W (by omega) (hE.below h)
  have CP := fun W (h : Below w.heap.size w W) => parse_any x W (by omega) (hE.below h)
  rw [hp] at CP
  rw [vE_VeP] at CV
  rw [hv] at CV
  have hln := ln7_len _ hv
  have e1 : lnV ⟨k, f, t, v, a, s.data.toList, u⟩ = .tuple #[.string ⟨(ln7 ⟨k, f, t, v, a, s.data.toList, u⟩).toArray⟩, .int .i64 0] := by unfold lnV; rw [hv]; rfl
  have e2 : prV (ln7 ⟨k, f, t, v, a, s.data.toList, u⟩) = .tuple #[.agg (evA k f t v a s u), .int .i64 0] := by unfold prV; rw [p7_ln _ hv]; simp only [hv, if_true]; rfl
  have CQ := fun W (h : Below w.heap.size w W) => parse_any ⟨(ln7 ⟨k, f, t, v, a, s.data.toList, u⟩).toArray⟩ W (by rw [size_mk]; omega) (hE.below h)
  rw [toList_mk, e2] at CQ
  rw [e1] at CL
  have Q := fun W => neq_ev k f t v a s u k f t v a s u W
  rw [show eqF k f t v a s u k f t v a s u = true from by rw [eqF_iff]; exact decide_eq_true rfl] at Q
  have HCQ := Lib.hid CQ
  clear CQ e1 e2 hln
  generalize (⟨(ln7 ⟨k, f, t, v, a, s.data.toList, u⟩).toArray⟩ : ByteArray) = L at *
  have hsy : s'.size ≤ 4096 := by
    have := vE_all hy
    rw [size_len]; exact this.2.2.2.2.2.2.1
  have CM := fun W (h : Below w.heap.size w W) => line_xy k' f' t' v' a' s' u' W (by omega) (hE.below h)
  have e3 : lnV ⟨k', f', t', v', a', s'.data.toList, u'⟩ = .tuple #[.string x, .int .i64 0] := by unfold lnV; rw [hy, hl]; rfl
  rw [e3] at CM
  have HCM := Lib.hid CM
  clear CM e3 hsy hy hl
  have HCV := Lib.hid CV; have HCL := Lib.hid CL; have HCP := Lib.hid CP
  obtain ⟨W, b, eW, rfl, HS⟩ := new_rt w k f t v a s u
  have hs0 := Lib.hid HS
  have hB0 := Lib.hid (below_rt HS)
  obtain ⟨a0, a1, a2, a3, a4, a5, a6, _, _⟩ := HS
  clear CV CL CP hE hp hv
  go_enter Tryd.func7, Tryd.ntmps7
  go_wp2_with (first
    | (go_at_call_of 23 (Value.agg #[Value.int IntKind.i64 k, Value.int IntKind.i64 f, Value.int IntKind.i64 t, Value.int IntKind.i64 v, Value.int IntKind.i64 a, Value.string s, Value.int IntKind.i64 u]); go_must (rw [← eW]; refine (HCL.out _ hB0.out).mono ?_; rintro e1 w1 ⟨rfl, b1⟩; have h1 := held_rt hs0.out b1; have H1 := Lib.hid h1; have K1 := Lib.hid (below_rt h1); obtain ⟨g0, g1, g2, g3, g4, g5, g6, _, _⟩ := h1; clear b1))
    | (go_at_call 11; go_must (refine (HCV.out _).mono ?_; rintro e2 w2 ⟨rfl, b2⟩; have h2 := held_rt H1.out b2; have H2 := Lib.hid h2; have K2 := Lib.hid (below_rt h2); obtain ⟨m0, m1, m2, m3, m4, m5, m6, _, _⟩ := h2; clear b2))
    | (go_at_call_of 25 (Value.string L); go_must (refine (HCQ.out _ K2.out).mono ?_; rintro e3 w3 ⟨rfl, b3⟩; have h3 := held_rt H2.out b3; have H3 := Lib.hid h3; have K3 := Lib.hid (below_rt h3); obtain ⟨n0, n1, n2, n3, n4, n5, n6, _, _⟩ := h3; clear b3))
    | (go_at_call 25; go_must (have h4 := held_rt H3.out (ba w3 (.cells #[.int .i64 k, .int .i64 f, .int .i64 t, .int .i64 v, .int .i64 a, .string s, .int .i64 u] 23)); refine (HCP.out _ (below_rt h4)).mono ?_; rintro e5 w5 ⟨rfl, b5⟩; have h5 := held_rt h4 b5; have K5 := Lib.hid (below_rt h5); clear b5 h4 h5))
    | (go_at_call_of 23 (Value.agg #[Value.int IntKind.i64 k', Value.int IntKind.i64 f', Value.int IntKind.i64 t', Value.int IntKind.i64 v', Value.int IntKind.i64 a', Value.string s', Value.int IntKind.i64 u']); go_must (refine (HCM.out _ (K5.out.alloc K5.out.size _)).mono ?_; rintro e6 w6 ⟨rfl, b6⟩; have K6 := Lib.hid ((K5.out.alloc K5.out.size _).trans (b6.mono (K5.out.alloc K5.out.size _).size)); clear b6))
    | (go_at_call 10; go_must (refine (HA.out _ K6.out).mono ?_; rintro e7 w7 ⟨rfl, b7⟩; have K7 := Lib.hid (K6.out.trans (b7.mono K6.out.size)); clear b7))
    | fail)
  go_returns
  exact ⟨rfl, K7.out⟩

set_option maxRecDepth 20000 in
set_option maxHeartbeats 8000000 in
theorem round_vn (k f t v a : Int) (s : ByteArray) (u : Int) (x : ByteArray) (w : World) (hE : Env w) (hs : s.size ≤ 300) (hx : x.size ≤ 400) (hv : vE ⟨k, f, t, v, a, s.data.toList, u⟩ = true) (k' f' t' v' a' : Int) (s' : ByteArray) (u' : Int) (c : Int) (hc : c = 2 ∨ c = 4) (hp : prV x.data.toList = .tuple #[.agg (evA k' f' t' v' a' s' u'), .int .i64 c]) :
    Calls Tryd.prog 7 #[.agg (evA k f t v a s u), .string x] w fun e w' => e = .returned (.bool true) ∧ Below w.heap.size w w' := by
  have HA := Lib.hid (fun W h => awake_any W (hE.below h))
  have z1 : ¬ (300 : Int) < s.size := by omega
  have z2 : ¬ (400 : Int) < x.size := by omega
  have d1 := decide_eq_false z1
  have d2 := decide_eq_false z2
  have z3 : (s.size : Int) ≤ 300 := by omega
  have z4 : (x.size : Int) ≤ 400 := by omega
  have CV := fun W => (valid_xy k f t v a s u W (by omega)).mono fun e w' (h : _ ∧ _) => (⟨h.1, by rw [h.2]; exact ba _ _⟩ : e = .returned (.bool (decide (VeP k f t v a s.size u))) ∧ Below W.heap.size W w')
  have CL := fun W (h : Below w.heap.size w W) => line_xy k f t v a s u W (by omega) (hE.below h)
  have CP := fun W (h : Below w.heap.size w W) => parse_any x W (by omega) (hE.below h)
  rw [hp] at CP
  rw [vE_VeP] at CV
  rw [hv] at CV
  have hln := ln7_len _ hv
  have e1 : lnV ⟨k, f, t, v, a, s.data.toList, u⟩ = .tuple #[.string ⟨(ln7 ⟨k, f, t, v, a, s.data.toList, u⟩).toArray⟩, .int .i64 0] := by unfold lnV; rw [hv]; rfl
  have e2 : prV (ln7 ⟨k, f, t, v, a, s.data.toList, u⟩) = .tuple #[.agg (evA k f t v a s u), .int .i64 0] := by unfold prV; rw [p7_ln _ hv]; simp only [hv, if_true]; rfl
  have CQ := fun W (h : Below w.heap.size w W) => parse_any ⟨(ln7 ⟨k, f, t, v, a, s.data.toList, u⟩).toArray⟩ W (by rw [size_mk]; omega) (hE.below h)
  rw [toList_mk, e2] at CQ
  rw [e1] at CL
  have Q := fun W => neq_ev k f t v a s u k f t v a s u W
  rw [show eqF k f t v a s u k f t v a s u = true from by rw [eqF_iff]; exact decide_eq_true rfl] at Q
  have HCQ := Lib.hid CQ
  clear CQ e1 e2 hln
  generalize (⟨(ln7 ⟨k, f, t, v, a, s.data.toList, u⟩).toArray⟩ : ByteArray) = L at *
  have HCV := Lib.hid CV; have HCL := Lib.hid CL; have HCP := Lib.hid CP
  obtain ⟨W, b, eW, rfl, HS⟩ := new_rt w k f t v a s u
  have hs0 := Lib.hid HS
  have hB0 := Lib.hid (below_rt HS)
  obtain ⟨a0, a1, a2, a3, a4, a5, a6, _, _⟩ := HS
  clear CV CL CP hE hp hv
  go_enter Tryd.func7, Tryd.ntmps7
  go_wp2_with (first
    | (go_at_call 23; go_must (rw [← eW]; refine (HCL.out _ hB0.out).mono ?_; rintro e1 w1 ⟨rfl, b1⟩; have h1 := held_rt hs0.out b1; have H1 := Lib.hid h1; have K1 := Lib.hid (below_rt h1); obtain ⟨g0, g1, g2, g3, g4, g5, g6, _, _⟩ := h1; clear b1))
    | (go_at_call 11; go_must (refine (HCV.out _).mono ?_; rintro e2 w2 ⟨rfl, b2⟩; have h2 := held_rt H1.out b2; have H2 := Lib.hid h2; have K2 := Lib.hid (below_rt h2); obtain ⟨m0, m1, m2, m3, m4, m5, m6, _, _⟩ := h2; clear b2))
    | (go_at_call_of 25 (Value.string L); go_must (refine (HCQ.out _ K2.out).mono ?_; rintro e3 w3 ⟨rfl, b3⟩; have h3 := held_rt H2.out b3; have H3 := Lib.hid h3; have K3 := Lib.hid (below_rt h3); obtain ⟨n0, n1, n2, n3, n4, n5, n6, _, _⟩ := h3; clear b3))
    | (go_at_call 25; go_must (have h4 := held_rt H3.out (ba w3 (.cells #[.int .i64 k, .int .i64 f, .int .i64 t, .int .i64 v, .int .i64 a, .string s, .int .i64 u] 23)); refine (HCP.out _ (below_rt h4)).mono ?_; rintro e5 w5 ⟨rfl, b5⟩; have h5 := held_rt h4 b5; have K5 := Lib.hid (below_rt h5); clear b5 h4 h5))
    | (go_at_call 10; go_must (refine (HA.out _ (K5.out.alloc K5.out.size _)).mono ?_; rintro e7 w7 ⟨rfl, b7⟩; have K7 := Lib.hid ((K5.out.alloc K5.out.size _).trans (b7.mono (K5.out.alloc K5.out.size _).size)); clear b7))
    | fail)
  go_returns
  exact ⟨rfl, K7.out⟩

set_option maxRecDepth 20000 in
set_option maxHeartbeats 8000000 in
theorem round_no (k f t v a : Int) (s : ByteArray) (u : Int) (x : ByteArray) (w : World) (hE : Env w) (hs : s.size ≤ 300) (hx : x.size ≤ 400) (hv : vE ⟨k, f, t, v, a, s.data.toList, u⟩ = false) (k' f' t' v' a' : Int) (s' : ByteArray) (u' : Int) (hy : vE ⟨k', f', t', v', a', s'.data.toList, u'⟩ = true) (hl : ln7 ⟨k', f', t', v', a', s'.data.toList, u'⟩ = x.data.toList) (hp : prV x.data.toList = .tuple #[.agg (evA k' f' t' v' a' s' u'), .int .i64 0]) :
    Calls Tryd.prog 7 #[.agg (evA k f t v a s u), .string x] w fun e w' => e = .returned (.bool true) ∧ Below w.heap.size w w' := by
  have HA := Lib.hid (fun W h => awake_any W (hE.below h))
  have z1 : ¬ (300 : Int) < s.size := by omega
  have z2 : ¬ (400 : Int) < x.size := by omega
  have d1 := decide_eq_false z1
  have d2 := decide_eq_false z2
  have z3 : (s.size : Int) ≤ 300 := by omega
  have z4 : (x.size : Int) ≤ 400 := by omega
  have CV := fun W => (valid_xy k f t v a s u W (by omega)).mono fun e w' (h : _ ∧ _) => (⟨h.1, by rw [h.2]; exact ba _ _⟩ : e = .returned (.bool (decide (VeP k f t v a s.size u))) ∧ Below W.heap.size W w')
  have CL := fun W (h : Below w.heap.size w W) => line_xy k f t v a s u W (by omega) (hE.below h)
  have CP := fun W (h : Below w.heap.size w W) => parse_any x W (by omega) (hE.below h)
  rw [hp] at CP
  rw [vE_VeP] at CV
  rw [hv] at CV
  have e1 : lnV ⟨k, f, t, v, a, s.data.toList, u⟩ = .tuple #[.string ⟨#[]⟩, .int .i64 1] := by unfold lnV; rw [hv]; rfl
  rw [e1] at CL
  clear e1
  have hsy : s'.size ≤ 4096 := by
    have := vE_all hy
    rw [size_len]; exact this.2.2.2.2.2.2.1
  have CM := fun W (h : Below w.heap.size w W) => line_xy k' f' t' v' a' s' u' W (by omega) (hE.below h)
  have e3 : lnV ⟨k', f', t', v', a', s'.data.toList, u'⟩ = .tuple #[.string x, .int .i64 0] := by unfold lnV; rw [hy, hl]; rfl
  rw [e3] at CM
  have HCM := Lib.hid CM
  clear CM e3 hsy hy hl
  have HCV := Lib.hid CV; have HCL := Lib.hid CL; have HCP := Lib.hid CP
  obtain ⟨W, b, eW, rfl, HS⟩ := new_rt w k f t v a s u
  have hs0 := Lib.hid HS
  have hB0 := Lib.hid (below_rt HS)
  obtain ⟨a0, a1, a2, a3, a4, a5, a6, _, _⟩ := HS
  clear CV CL CP hE hp hv
  go_enter Tryd.func7, Tryd.ntmps7
  go_wp2_with (first
    | (go_at_call_of 23 (Value.agg #[Value.int IntKind.i64 k, Value.int IntKind.i64 f, Value.int IntKind.i64 t, Value.int IntKind.i64 v, Value.int IntKind.i64 a, Value.string s, Value.int IntKind.i64 u]); go_must (rw [← eW]; refine (HCL.out _ hB0.out).mono ?_; rintro e1 w1 ⟨rfl, b1⟩; have h1 := held_rt hs0.out b1; have H1 := Lib.hid h1; have K1 := Lib.hid (below_rt h1); obtain ⟨g0, g1, g2, g3, g4, g5, g6, _, _⟩ := h1; clear b1))
    | (go_at_call 11; go_must (refine (HCV.out _).mono ?_; rintro e2 w2 ⟨rfl, b2⟩; have h2 := held_rt H1.out b2; have H2 := Lib.hid h2; have K2 := Lib.hid (below_rt h2); obtain ⟨m0, m1, m2, m3, m4, m5, m6, _, _⟩ := h2; clear b2))
    | (go_at_call 25; go_must (refine (HCP.out _ K2.out).mono ?_; rintro e5 w5 ⟨rfl, b5⟩; have h5 := held_rt H2.out b5; have K5 := Lib.hid (below_rt h5); clear b5 h5))
    | (go_at_call_of 23 (Value.agg #[Value.int IntKind.i64 k', Value.int IntKind.i64 f', Value.int IntKind.i64 t', Value.int IntKind.i64 v', Value.int IntKind.i64 a', Value.string s', Value.int IntKind.i64 u']); go_must (refine (HCM.out _ (K5.out.alloc K5.out.size _)).mono ?_; rintro e6 w6 ⟨rfl, b6⟩; have K6 := Lib.hid ((K5.out.alloc K5.out.size _).trans (b6.mono (K5.out.alloc K5.out.size _).size)); clear b6))
    | (go_at_call 10; go_must (refine (HA.out _ K6.out).mono ?_; rintro e7 w7 ⟨rfl, b7⟩; have K7 := Lib.hid (K6.out.trans (b7.mono K6.out.size)); clear b7))
    | fail)
  go_returns
  exact ⟨rfl, K7.out⟩

set_option maxRecDepth 20000 in
set_option maxHeartbeats 8000000 in
theorem round_nn (k f t v a : Int) (s : ByteArray) (u : Int) (x : ByteArray) (w : World) (hE : Env w) (hs : s.size ≤ 300) (hx : x.size ≤ 400) (hv : vE ⟨k, f, t, v, a, s.data.toList, u⟩ = false) (k' f' t' v' a' : Int) (s' : ByteArray) (u' : Int) (c : Int) (hc : c = 2 ∨ c = 4) (hp : prV x.data.toList = .tuple #[.agg (evA k' f' t' v' a' s' u'), .int .i64 c]) :
    Calls Tryd.prog 7 #[.agg (evA k f t v a s u), .string x] w fun e w' => e = .returned (.bool true) ∧ Below w.heap.size w w' := by
  have HA := Lib.hid (fun W h => awake_any W (hE.below h))
  have z1 : ¬ (300 : Int) < s.size := by omega
  have z2 : ¬ (400 : Int) < x.size := by omega
  have d1 := decide_eq_false z1
  have d2 := decide_eq_false z2
  have z3 : (s.size : Int) ≤ 300 := by omega
  have z4 : (x.size : Int) ≤ 400 := by omega
  have CV := fun W => (valid_xy k f t v a s u W (by omega)).mono fun e w' (h : _ ∧ _) => (⟨h.1, by rw [h.2]; exact ba _ _⟩ : e = .returned (.bool (decide (VeP k f t v a s.size u))) ∧ Below W.heap.size W w')
  have CL := fun W (h : Below w.heap.size w W) => line_xy k f t v a s u W (by omega) (hE.below h)
  have CP := fun W (h : Below w.heap.size w W) => parse_any x W (by omega) (hE.below h)
  rw [hp] at CP
  rw [vE_VeP] at CV
  rw [hv] at CV
  have e1 : lnV ⟨k, f, t, v, a, s.data.toList, u⟩ = .tuple #[.string ⟨#[]⟩, .int .i64 1] := by unfold lnV; rw [hv]; rfl
  rw [e1] at CL
  clear e1
  have HCV := Lib.hid CV; have HCL := Lib.hid CL; have HCP := Lib.hid CP
  obtain ⟨W, b, eW, rfl, HS⟩ := new_rt w k f t v a s u
  have hs0 := Lib.hid HS
  have hB0 := Lib.hid (below_rt HS)
  obtain ⟨a0, a1, a2, a3, a4, a5, a6, _, _⟩ := HS
  clear CV CL CP hE hp hv
  go_enter Tryd.func7, Tryd.ntmps7
  go_wp2_with (first
    | (go_at_call 23; go_must (rw [← eW]; refine (HCL.out _ hB0.out).mono ?_; rintro e1 w1 ⟨rfl, b1⟩; have h1 := held_rt hs0.out b1; have H1 := Lib.hid h1; have K1 := Lib.hid (below_rt h1); obtain ⟨g0, g1, g2, g3, g4, g5, g6, _, _⟩ := h1; clear b1))
    | (go_at_call 11; go_must (refine (HCV.out _).mono ?_; rintro e2 w2 ⟨rfl, b2⟩; have h2 := held_rt H1.out b2; have H2 := Lib.hid h2; have K2 := Lib.hid (below_rt h2); obtain ⟨m0, m1, m2, m3, m4, m5, m6, _, _⟩ := h2; clear b2))
    | (go_at_call 25; go_must (refine (HCP.out _ K2.out).mono ?_; rintro e5 w5 ⟨rfl, b5⟩; have h5 := held_rt H2.out b5; have K5 := Lib.hid (below_rt h5); clear b5 h5))
    | (go_at_call 10; go_must (refine (HA.out _ (K5.out.alloc K5.out.size _)).mono ?_; rintro e7 w7 ⟨rfl, b7⟩; have K7 := Lib.hid ((K5.out.alloc K5.out.size _).trans (b7.mono (K5.out.alloc K5.out.size _).size)); clear b7))
    | fail)
  go_returns
  exact ⟨rfl, K7.out⟩

set_option maxRecDepth 20000 in
set_option maxHeartbeats 8000000 in
theorem law_round (k f t v a : Int) (s : ByteArray) (u : Int) (x : ByteArray) (w : World) (hE : Env w) (hs : s.size ≤ 140737488351232) (hx : x.size ≤ 140737488351232) :
    Calls Tryd.prog 7 #[.agg (evA k f t v a s u), .string x] w fun e w' => e = .returned (.bool true) ∧ Below w.heap.size w w' := by
  by_cases hbig : 300 < s.size ∨ 400 < x.size
  · exact round_big k f t v a s u x w hE hs hx hbig
  · have h1 : s.size ≤ 300 := by omega
    have h2 : x.size ≤ 400 := by omega
    rcases pr_cases x.data.toList with ⟨⟨k', f', t', v', a', d', u'⟩, c, hc, hp⟩ | ⟨⟨k', f', t', v', a', d', u'⟩, hy, hl, hp⟩
    · cases hv : vE ⟨k, f, t, v, a, s.data.toList, u⟩ with
      | true => exact round_vn k f t v a s u x w hE h1 h2 hv k' f' t' v' a' ⟨d'.toArray⟩ u' c hc hp
      | false => exact round_nn k f t v a s u x w hE h1 h2 hv k' f' t' v' a' ⟨d'.toArray⟩ u' c hc hp
    · cases hv : vE ⟨k, f, t, v, a, s.data.toList, u⟩ with
      | true => exact round_vo k f t v a s u x w hE h1 h2 hv k' f' t' v' a' ⟨d'.toArray⟩ u' (by rw [toList_mk]; exact hy) (by rw [toList_mk]; exact hl) hp
      | false => exact round_no k f t v a s u x w hE h1 h2 hv k' f' t' v' a' ⟨d'.toArray⟩ u' (by rw [toList_mk]; exact hy) (by rw [toList_mk]; exact hl) hp

end Go.Proofs.YtiimdkamgehioaaDoor
