/-
  EventValid: whether any event is valid, which one of two precedes the other one, and an event without times, are as the specification says.
-/
import Derived.Test.YtddphdohjceonaaDoorA17
namespace Go.Proofs.YtddphdohjceonaaDoor
open Go Go.RowKit Go.Joins
set_option linter.unusedVariables false
set_option linter.unusedSimpArgs false

theorem held_ab {w W W' : World} {b c : Nat} {k f t v a : Int} {s : ByteArray} {u : Int} {k' f' t' v' a' : Int} {s' : ByteArray} {u' : Int} (h : W.cell? ⟨b, 0, none⟩ = some (.int .i64 k) ∧ W.cell? ⟨b, 1, none⟩ = some (.int .i64 f) ∧ W.cell? ⟨b, 2, none⟩ = some (.int .i64 t) ∧ W.cell? ⟨b, 3, none⟩ = some (.int .i64 v) ∧ W.cell? ⟨b, 4, none⟩ = some (.int .i64 a) ∧ W.cell? ⟨b, 5, none⟩ = some (.string s) ∧ W.cell? ⟨b, 6, none⟩ = some (.int .i64 u) ∧ W.cell? ⟨c, 0, none⟩ = some (.int .i64 k') ∧ W.cell? ⟨c, 1, none⟩ = some (.int .i64 f') ∧ W.cell? ⟨c, 2, none⟩ = some (.int .i64 t') ∧ W.cell? ⟨c, 3, none⟩ = some (.int .i64 v') ∧ W.cell? ⟨c, 4, none⟩ = some (.int .i64 a') ∧ W.cell? ⟨c, 5, none⟩ = some (.string s') ∧ W.cell? ⟨c, 6, none⟩ = some (.int .i64 u') ∧ Below w.heap.size w W ∧ b < W.heap.size ∧ c < W.heap.size) (hb : Below W.heap.size W W') : W'.cell? ⟨b, 0, none⟩ = some (.int .i64 k) ∧ W'.cell? ⟨b, 1, none⟩ = some (.int .i64 f) ∧ W'.cell? ⟨b, 2, none⟩ = some (.int .i64 t) ∧ W'.cell? ⟨b, 3, none⟩ = some (.int .i64 v) ∧ W'.cell? ⟨b, 4, none⟩ = some (.int .i64 a) ∧ W'.cell? ⟨b, 5, none⟩ = some (.string s) ∧ W'.cell? ⟨b, 6, none⟩ = some (.int .i64 u) ∧ W'.cell? ⟨c, 0, none⟩ = some (.int .i64 k') ∧ W'.cell? ⟨c, 1, none⟩ = some (.int .i64 f') ∧ W'.cell? ⟨c, 2, none⟩ = some (.int .i64 t') ∧ W'.cell? ⟨c, 3, none⟩ = some (.int .i64 v') ∧ W'.cell? ⟨c, 4, none⟩ = some (.int .i64 a') ∧ W'.cell? ⟨c, 5, none⟩ = some (.string s') ∧ W'.cell? ⟨c, 6, none⟩ = some (.int .i64 u') ∧ Below w.heap.size w W' ∧ b < W'.heap.size ∧ c < W'.heap.size := by
  obtain ⟨a0, a1, a2, a3, a4, a5, a6, b0, b1, b2, b3, b4, b5, b6, hB, l1, l2⟩ := h
  have hs := hb.size
  have hB' : Below w.heap.size w W' := hB.trans (hb.mono hB.size)
  exact ⟨(hb.cell l1).trans a0, (hb.cell l1).trans a1, (hb.cell l1).trans a2, (hb.cell l1).trans a3, (hb.cell l1).trans a4, (hb.cell l1).trans a5, (hb.cell l1).trans a6, (hb.cell l2).trans b0, (hb.cell l2).trans b1, (hb.cell l2).trans b2, (hb.cell l2).trans b3, (hb.cell l2).trans b4, (hb.cell l2).trans b5, (hb.cell l2).trans b6, hB', by omega, by omega⟩
theorem below_ab {w W : World} {b c : Nat} {k f t v a : Int} {s : ByteArray} {u : Int} {k' f' t' v' a' : Int} {s' : ByteArray} {u' : Int} (h : W.cell? ⟨b, 0, none⟩ = some (.int .i64 k) ∧ W.cell? ⟨b, 1, none⟩ = some (.int .i64 f) ∧ W.cell? ⟨b, 2, none⟩ = some (.int .i64 t) ∧ W.cell? ⟨b, 3, none⟩ = some (.int .i64 v) ∧ W.cell? ⟨b, 4, none⟩ = some (.int .i64 a) ∧ W.cell? ⟨b, 5, none⟩ = some (.string s) ∧ W.cell? ⟨b, 6, none⟩ = some (.int .i64 u) ∧ W.cell? ⟨c, 0, none⟩ = some (.int .i64 k') ∧ W.cell? ⟨c, 1, none⟩ = some (.int .i64 f') ∧ W.cell? ⟨c, 2, none⟩ = some (.int .i64 t') ∧ W.cell? ⟨c, 3, none⟩ = some (.int .i64 v') ∧ W.cell? ⟨c, 4, none⟩ = some (.int .i64 a') ∧ W.cell? ⟨c, 5, none⟩ = some (.string s') ∧ W.cell? ⟨c, 6, none⟩ = some (.int .i64 u') ∧ Below w.heap.size w W ∧ b < W.heap.size ∧ c < W.heap.size) : Below w.heap.size w W := h.2.2.2.2.2.2.2.2.2.2.2.2.2.2.1

set_option maxRecDepth 20000 in
set_option maxHeartbeats 8000000 in
theorem law_valid (k f t v a : Int) (s : ByteArray) (u : Int) (k' f' t' v' a' : Int) (s' : ByteArray) (u' : Int) (w : World) (hE : Env w) (hs : s.size ≤ 140737488351232) (hs' : s'.size ≤ 140737488351232) :
    Calls Tryd.prog 3 #[.agg (evA k f t v a s u), .agg (evA k' f' t' v' a' s' u')] w fun e w' => e = .returned (.bool true) ∧ Below w.heap.size w w' := by
  have HE := Lib.hid hE
  have HA := Lib.hid (fun W h => awake_any W (hE.below h))
  have z1 : (s.size : Int) ≤ 140737488351232 := by omega
  have z2 : (s'.size : Int) ≤ 140737488351232 := by omega
  have hw0 : ∃ W b c, W = (w.alloc (.cells (evA k f t v a s u) 23)).alloc (.cells (evA k' f' t' v' a' s' u') 23) ∧ b = w.heap.size ∧ c = w.heap.size + 1 ∧ W.cell? ⟨b, 0, none⟩ = some (.int .i64 k) ∧ W.cell? ⟨b, 1, none⟩ = some (.int .i64 f) ∧ W.cell? ⟨b, 2, none⟩ = some (.int .i64 t) ∧ W.cell? ⟨b, 3, none⟩ = some (.int .i64 v) ∧ W.cell? ⟨b, 4, none⟩ = some (.int .i64 a) ∧ W.cell? ⟨b, 5, none⟩ = some (.string s) ∧ W.cell? ⟨b, 6, none⟩ = some (.int .i64 u) ∧ W.cell? ⟨c, 0, none⟩ = some (.int .i64 k') ∧ W.cell? ⟨c, 1, none⟩ = some (.int .i64 f') ∧ W.cell? ⟨c, 2, none⟩ = some (.int .i64 t') ∧ W.cell? ⟨c, 3, none⟩ = some (.int .i64 v') ∧ W.cell? ⟨c, 4, none⟩ = some (.int .i64 a') ∧ W.cell? ⟨c, 5, none⟩ = some (.string s') ∧ W.cell? ⟨c, 6, none⟩ = some (.int .i64 u') ∧ Below w.heap.size w W ∧ b < W.heap.size ∧ c < W.heap.size := by
    refine ⟨_, _, _, rfl, rfl, rfl, ?_⟩
    have h1 := seven_new w k f t v a s u 23
    have h2 := seven_new (w.alloc (.cells (evA k f t v a s u) 23)) k' f' t' v' a' s' u' 23
    rw [World.size_alloc] at h2
    have hb := ba (w.alloc (.cells (evA k f t v a s u) 23)) (.cells (evA k' f' t' v' a' s' u') 23)
    have l1 : w.heap.size < (w.alloc (.cells (evA k f t v a s u) 23)).heap.size := by rw [World.size_alloc]; omega
    exact ⟨(hb.cell l1).trans h1.1, (hb.cell l1).trans h1.2.1, (hb.cell l1).trans h1.2.2.1, (hb.cell l1).trans h1.2.2.2.1, (hb.cell l1).trans h1.2.2.2.2.1, (hb.cell l1).trans h1.2.2.2.2.2.1, (hb.cell l1).trans h1.2.2.2.2.2.2, h2.1, h2.2.1, h2.2.2.1, h2.2.2.2.1, h2.2.2.2.2.1, h2.2.2.2.2.2.1, h2.2.2.2.2.2.2, ((Below.refl _ w).alloc (Nat.le_refl _) _).alloc (by rw [World.size_alloc]; omega) _, by rw [World.size_alloc, World.size_alloc]; omega, by rw [World.size_alloc, World.size_alloc]; omega⟩
  obtain ⟨W, b, c, eW, eb, ec, HS⟩ := hw0
  have hs0 := Lib.hid HS
  by_cases hbig : 5000 < s.size ∨ 5000 < s'.size
  · have c5 : W.cell? ⟨b, 5, none⟩ = some (.string s) := HS.2.2.2.2.2.1
    have d5 : W.cell? ⟨c, 5, none⟩ = some (.string s') := HS.2.2.2.2.2.2.2.2.2.2.2.2.1
    have HB := Lib.hid (below_ab HS)
    clear HS hE
    rcases Nat.lt_or_ge 5000 s.size with h5 | h5
    · have i1 : (5000 : Int) < s.size := by omega
      have d1 := decide_eq_true i1
      clear hbig
      go_enter Tryd.func3, Tryd.ntmps3
      go_wp2_with (go_at_call 10; go_must (rw [← eW]; refine (HA.out _ HB.out).mono ?_; rintro e1 w1 ⟨rfl, b1⟩))
      go_returns
      exact ⟨rfl, HB.out.trans (b1.mono HB.out.size)⟩
    · have i1 : ¬ (5000 : Int) < s.size := by omega
      have d1 := decide_eq_false i1
      have i2 : (5000 : Int) < s'.size := by omega
      have d2 := decide_eq_true i2
      clear hbig
      go_enter Tryd.func3, Tryd.ntmps3
      go_wp2_with (go_at_call 10; go_must (rw [← eW]; refine (HA.out _ HB.out).mono ?_; rintro e1 w1 ⟨rfl, b1⟩))
      go_returns
      exact ⟨rfl, HB.out.trans (b1.mono HB.out.size)⟩
  · have i1 : ¬ (5000 : Int) < s.size := by omega
    have i2 : ¬ (5000 : Int) < s'.size := by omega
    have d1 := decide_eq_false i1
    have d2 := decide_eq_false i2
    have CV := fun W => (valid_xy k f t v a s u W hs).mono fun e w' (h : _ ∧ _) => (⟨h.1, by rw [h.2]; exact ba _ _⟩ : e = .returned (.bool (decide (VeP k f t v a s.size u))) ∧ Below W.heap.size W w')
    have CR := fun W => (refValid_xy k f t v a s u W hs).mono fun e w' (h : _ ∧ _) => (⟨h.1, by rw [h.2]; exact ba _ _⟩ : e = .returned (.bool (decide (VeP k f t v a s.size u))) ∧ Below W.heap.size W w')
    have CL := fun W => less_xy k f t v a s u k' f' t' v' a' s' u' W
    have CM := fun W => refLess_xy k f t v a s u k' f' t' v' a' s' u' W
    have CC := fun W => (core_xy k f t v a s u W).mono fun e w' (h : _ ∧ _ ∧ _) => (⟨h.1, h.2.1⟩ : e = .returned (.agg (evA k 0 0 v a s u)) ∧ Below W.heap.size W w')
    have CD := fun W => (refCore_xy k f t v a s u W).mono fun e w' (h : _ ∧ _ ∧ _) => (⟨h.1, h.2.1⟩ : e = .returned (.agg (evA k 0 0 v a s u)) ∧ Below W.heap.size W w')
    have Q := fun W => eql_ev k 0 0 v a s u k 0 0 v a s u W
    rw [show eqF k 0 0 v a s u k 0 0 v a s u = true from by rw [eqF_iff]; exact decide_eq_true rfl] at Q
    generalize decide (VeP k f t v a s.size u) = vb at *
    generalize lE ⟨k, f, t, v, a, s.data.toList, u⟩ ⟨k', f', t', v', a', s'.data.toList, u'⟩ = lb at *
    have HCV := Lib.hid CV; have HCR := Lib.hid CR; have HCL := Lib.hid CL; have HCM := Lib.hid CM; have HCC := Lib.hid CC; have HCD := Lib.hid CD
    have c5 : W.cell? ⟨b, 5, none⟩ = some (.string s) := HS.2.2.2.2.2.1
    have d5 : W.cell? ⟨c, 5, none⟩ = some (.string s') := HS.2.2.2.2.2.2.2.2.2.2.2.2.1
    clear HS hE hbig CV CR CL CM CC CD
    go_enter Tryd.func3, Tryd.ntmps3
    go_wp2
    rw [← eW, ← ec, ← eb]
    clear eW eb ec c5 d5
    have qb : (vb == vb) = true := by simp
    have ql : (lb == lb) = true := by simp
    go_region_held3 (fun w' => w'.cell? ⟨b, 0, none⟩ = some (.int .i64 k) ∧ w'.cell? ⟨b, 1, none⟩ = some (.int .i64 f) ∧ w'.cell? ⟨b, 2, none⟩ = some (.int .i64 t) ∧ w'.cell? ⟨b, 3, none⟩ = some (.int .i64 v) ∧ w'.cell? ⟨b, 4, none⟩ = some (.int .i64 a) ∧ w'.cell? ⟨b, 5, none⟩ = some (.string s) ∧ w'.cell? ⟨b, 6, none⟩ = some (.int .i64 u) ∧ w'.cell? ⟨c, 0, none⟩ = some (.int .i64 k') ∧ w'.cell? ⟨c, 1, none⟩ = some (.int .i64 f') ∧ w'.cell? ⟨c, 2, none⟩ = some (.int .i64 t') ∧ w'.cell? ⟨c, 3, none⟩ = some (.int .i64 v') ∧ w'.cell? ⟨c, 4, none⟩ = some (.int .i64 a') ∧ w'.cell? ⟨c, 5, none⟩ = some (.string s') ∧ w'.cell? ⟨c, 6, none⟩ = some (.int .i64 u') ∧ Below w.heap.size w w' ∧ b < w'.heap.size ∧ c < w'.heap.size) (first | assumption | exact held_ab hs0.out (Below.refl _ _).drew | exact held_ab (by assumption) (Below.refl _ _).drew | fail)
      (first
        | (go_at_call 11; refine (HCV.out _).mono ?_; rintro e1 w1 ⟨rfl, b1⟩; have h1 := held_ab (by assumption) b1)
        | (go_at_call 12; refine (HCR.out _).mono ?_; rintro e2 w2 ⟨rfl, b2⟩; have h2 := held_ab (by assumption) b2)
        | (go_at_call 13; refine (HCL.out _).mono ?_; rintro e3 w3 ⟨rfl, b3⟩; have h3 := held_ab (by assumption) b3)
        | (go_at_call 14; refine (HCM.out _).mono ?_; rintro e4 w4 ⟨rfl, b4⟩; have h4 := held_ab (by assumption) b4)
        | (go_at_call 15; refine (HCC.out _).mono ?_; rintro e5 w5 ⟨rfl, b5⟩; have h5 := held_ab (by assumption) b5)
        | (go_at_call 16; refine (HCD.out _).mono ?_; rintro e6 w6 ⟨rfl, b6⟩; have h6 := held_ab (by assumption) b6)
        | (go_at_call 10; refine (HA.out _ (below_ab (by assumption))).mono ?_; rintro e7 w7 ⟨rfl, b7⟩; have h7 := held_ab (by assumption) b7))
    rename_i hS9
    have hB9 := Lib.hid (below_ab hS9)
    clear hS9
    go_wp2
    go_returns
    exact ⟨rfl, hB9.out⟩

end Go.Proofs.YtddphdohjceonaaDoor
