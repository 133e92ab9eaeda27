/-
  The walks of the program's compare and Less.
-/
import Derived.Test.YtiimdkamgehioaaDoorA3
import Derived.Test.YtiimdkamgehioaaDoorA5
namespace Go.Proofs.YtiimdkamgehioaaDoor
open Go Go.RowKit Go.Joins Go.Sort
set_option linter.unusedVariables false
set_option linter.unusedSimpArgs false

theorem numArg2 (w : World) (x y : Int) (T : TypeId) : NumArg (w.alloc (.cells #[.int .i64 x, .int .i64 y] T)) w.heap.size 2 [x, y] := by
  refine ⟨rfl, fun j hj => ?_⟩
  rw [(RowAt.new w T #[.int .i64 x, .int .i64 y]).cell j]
  match j, hj with
  | 0, _ => rfl
  | 1, _ => rfl
theorem numArg5 (w : World) (x y z u v : Int) (T : TypeId) : NumArg (w.alloc (.cells #[.int .i64 x, .int .i64 y, .int .i64 z, .int .i64 u, .int .i64 v] T)) w.heap.size 5 [x, y, z, u, v] := by
  refine ⟨rfl, fun j hj => ?_⟩
  rw [(RowAt.new w T #[.int .i64 x, .int .i64 y, .int .i64 z, .int .i64 u, .int .i64 v]).cell j]
  match j, hj with
  | 0, _ => rfl
  | 1, _ => rfl
  | 2, _ => rfl
  | 3, _ => rfl
  | 4, _ => rfl
theorem seven_new (w : World) (k f t v a : Int) (s : ByteArray) (u : Int) (T : TypeId) :
    (w.alloc (.cells (evA k f t v a s u) T)).cell? ⟨w.heap.size, 0, none⟩ = some (.int .i64 k) ∧ (w.alloc (.cells (evA k f t v a s u) T)).cell? ⟨w.heap.size, 1, none⟩ = some (.int .i64 f) ∧ (w.alloc (.cells (evA k f t v a s u) T)).cell? ⟨w.heap.size, 2, none⟩ = some (.int .i64 t) ∧ (w.alloc (.cells (evA k f t v a s u) T)).cell? ⟨w.heap.size, 3, none⟩ = some (.int .i64 v) ∧ (w.alloc (.cells (evA k f t v a s u) T)).cell? ⟨w.heap.size, 4, none⟩ = some (.int .i64 a) ∧ (w.alloc (.cells (evA k f t v a s u) T)).cell? ⟨w.heap.size, 5, none⟩ = some (.string s) ∧ (w.alloc (.cells (evA k f t v a s u) T)).cell? ⟨w.heap.size, 6, none⟩ = some (.int .i64 u) := by
  have h := RowAt.new w T (evA k f t v a s u)
  exact ⟨h.cell 0, h.cell 1, h.cell 2, h.cell 3, h.cell 4, h.cell 5, h.cell 6⟩


theorem numArg2d (w : World) (x y : Int) (T : TypeId) : NumArg (w.alloc (.cells #[.int .i64 x, .int .i64 y] T)).drew w.heap.size 2 [x, y] := numArg2 w x y T
theorem numArg5d (w : World) (x y z u v : Int) (T : TypeId) : NumArg (w.alloc (.cells #[.int .i64 x, .int .i64 y, .int .i64 z, .int .i64 u, .int .i64 v] T)).drew w.heap.size 5 [x, y, z, u, v] := numArg5 w x y z u v T
theorem held_ev {w W W' : World} {b c : Nat} {k f t v a : Int} {s : ByteArray} {u : Int} {k' f' t' v' a' : Int} {s' : ByteArray} {u' : Int} (h : W.cell? ⟨b, 0, none⟩ = some (.int .i64 k) ∧ W.cell? ⟨b, 1, none⟩ = some (.int .i64 f) ∧ W.cell? ⟨b, 2, none⟩ = some (.int .i64 t) ∧ W.cell? ⟨b, 3, none⟩ = some (.int .i64 v) ∧ W.cell? ⟨b, 4, none⟩ = some (.int .i64 a) ∧ W.cell? ⟨b, 5, none⟩ = some (.string s) ∧ W.cell? ⟨b, 6, none⟩ = some (.int .i64 u) ∧ W.cell? ⟨c, 0, none⟩ = some (.int .i64 k') ∧ W.cell? ⟨c, 1, none⟩ = some (.int .i64 f') ∧ W.cell? ⟨c, 2, none⟩ = some (.int .i64 t') ∧ W.cell? ⟨c, 3, none⟩ = some (.int .i64 v') ∧ W.cell? ⟨c, 4, none⟩ = some (.int .i64 a') ∧ W.cell? ⟨c, 5, none⟩ = some (.string s') ∧ W.cell? ⟨c, 6, none⟩ = some (.int .i64 u') ∧ Below w.heap.size w W ∧ b < W.heap.size ∧ c < W.heap.size ∧ w.drawn ≤ W.drawn) (hb : Below W.heap.size W W') (hd : W.drawn ≤ W'.drawn) : W'.cell? ⟨b, 0, none⟩ = some (.int .i64 k) ∧ W'.cell? ⟨b, 1, none⟩ = some (.int .i64 f) ∧ W'.cell? ⟨b, 2, none⟩ = some (.int .i64 t) ∧ W'.cell? ⟨b, 3, none⟩ = some (.int .i64 v) ∧ W'.cell? ⟨b, 4, none⟩ = some (.int .i64 a) ∧ W'.cell? ⟨b, 5, none⟩ = some (.string s) ∧ W'.cell? ⟨b, 6, none⟩ = some (.int .i64 u) ∧ W'.cell? ⟨c, 0, none⟩ = some (.int .i64 k') ∧ W'.cell? ⟨c, 1, none⟩ = some (.int .i64 f') ∧ W'.cell? ⟨c, 2, none⟩ = some (.int .i64 t') ∧ W'.cell? ⟨c, 3, none⟩ = some (.int .i64 v') ∧ W'.cell? ⟨c, 4, none⟩ = some (.int .i64 a') ∧ W'.cell? ⟨c, 5, none⟩ = some (.string s') ∧ W'.cell? ⟨c, 6, none⟩ = some (.int .i64 u') ∧ Below w.heap.size w W' ∧ b < W'.heap.size ∧ c < W'.heap.size ∧ w.drawn ≤ W'.drawn := by
  obtain ⟨a0, a1, a2, a3, a4, a5, a6, b0, b1, b2, b3, b4, b5, b6, hB, l1, l2, hD⟩ := h
  have hs := hb.size
  have hB' : Below w.heap.size w W' := hB.trans (hb.mono hB.size)
  exact ⟨(hb.cell l1).trans a0, (hb.cell l1).trans a1, (hb.cell l1).trans a2, (hb.cell l1).trans a3, (hb.cell l1).trans a4, (hb.cell l1).trans a5, (hb.cell l1).trans a6, (hb.cell l2).trans b0, (hb.cell l2).trans b1, (hb.cell l2).trans b2, (hb.cell l2).trans b3, (hb.cell l2).trans b4, (hb.cell l2).trans b5, (hb.cell l2).trans b6, hB', by omega, by omega, Nat.le_trans hD hd⟩

set_option maxRecDepth 20000 in
set_option maxHeartbeats 4000000 in
theorem compare_xy (k f t v a : Int) (s : ByteArray) (u : Int) (k' f' t' v' a' : Int) (s' : ByteArray) (u' : Int) (w : World) :
    Calls Tryd.prog 31 #[.agg (evA k f t v a s u), .agg (evA k' f' t' v' a' s' u')] w fun e w' => e = .returned (.int .i64 (cpE ⟨k, f, t, v, a, s.data.toList, u⟩ ⟨k', f', t', v', a', s'.data.toList, u'⟩)) ∧ Below w.heap.size w w' ∧ w.drawn ≤ w'.drawn := by
  have P0 := Lib.hid (fun h => cp_times ⟨k, f, t, v, a, s.data.toList, u⟩ ⟨k', f', t', v', a', s'.data.toList, u'⟩ h)
  have P1 := Lib.hid (fun h => cp_core ⟨k, f, t, v, a, s.data.toList, u⟩ ⟨k', f', t', v', a', s'.data.toList, u'⟩ h)
  have P2 := Lib.hid (fun h => cp_same ⟨k, f, t, v, a, s.data.toList, u⟩ ⟨k', f', t', v', a', s'.data.toList, u'⟩ h)
  simp only at P0 P1 P2
  have P3 : Hid (eqF k 0 0 v a s u k' 0 0 v' a' s' u' = true → cOr [cI f f', cI t t'] = 0 → cpE ⟨k, f, t, v, a, s.data.toList, u⟩ ⟨k', f', t', v', a', s'.data.toList, u'⟩ = 0) := Lib.hid fun hq hz => by
    rw [eqF_iff] at hq
    have hq' := of_decide_eq_true hq
    simp only [Ev.mk.injEq] at hq'
    exact P2.out hz hq'.1 hq'.2.2.2.1 hq'.2.2.2.2.1 hq'.2.2.2.2.2.1 hq'.2.2.2.2.2.2
  clear P2
  have CI := Lib.hid (fun x y W => cmpInt_x x y W)
  have CS := Lib.hid (fun x y W => cmpStr_x x y W)
  have CO := Lib.hid (fun l g n c W h hl => or_x l g n c W h hl)
  have QE := fun W => eql_ev k 0 0 v a s u k' 0 0 v' a' s' u' W
  generalize eqF k 0 0 v a s u k' 0 0 v' a' s' u' = q at QE P3
  have CC := Lib.hid (fun k f t v a s u W => core_xy k f t v a s u W)
  generalize cpE ⟨k, f, t, v, a, s.data.toList, u⟩ ⟨k', f', t', v', a', s'.data.toList, u'⟩ = R at *
  have hw0 : ∃ W b c, W = (w.alloc (.cells (evA k f t v a s u) 23)).alloc (.cells (evA k' f' t' v' a' s' u') 23) ∧ b = w.heap.size ∧ c = w.heap.size + 1 ∧ W.cell? ⟨b, 0, none⟩ = some (.int .i64 k) ∧ W.cell? ⟨b, 1, none⟩ = some (.int .i64 f) ∧ W.cell? ⟨b, 2, none⟩ = some (.int .i64 t) ∧ W.cell? ⟨b, 3, none⟩ = some (.int .i64 v) ∧ W.cell? ⟨b, 4, none⟩ = some (.int .i64 a) ∧ W.cell? ⟨b, 5, none⟩ = some (.string s) ∧ W.cell? ⟨b, 6, none⟩ = some (.int .i64 u) ∧ W.cell? ⟨c, 0, none⟩ = some (.int .i64 k') ∧ W.cell? ⟨c, 1, none⟩ = some (.int .i64 f') ∧ W.cell? ⟨c, 2, none⟩ = some (.int .i64 t') ∧ W.cell? ⟨c, 3, none⟩ = some (.int .i64 v') ∧ W.cell? ⟨c, 4, none⟩ = some (.int .i64 a') ∧ W.cell? ⟨c, 5, none⟩ = some (.string s') ∧ W.cell? ⟨c, 6, none⟩ = some (.int .i64 u') ∧ Below w.heap.size w W ∧ b < W.heap.size ∧ c < W.heap.size ∧ w.drawn ≤ W.drawn := by
    refine ⟨_, _, _, rfl, rfl, rfl, ?_⟩
    have h1 := seven_new w k f t v a s u 23
    have h2 := seven_new (w.alloc (.cells (evA k f t v a s u) 23)) k' f' t' v' a' s' u' 23
    rw [World.size_alloc] at h2
    have hb := ba (w.alloc (.cells (evA k f t v a s u) 23)) (.cells (evA k' f' t' v' a' s' u') 23)
    have l1 : w.heap.size < (w.alloc (.cells (evA k f t v a s u) 23)).heap.size := by rw [World.size_alloc]; omega
    exact ⟨(hb.cell l1).trans h1.1, (hb.cell l1).trans h1.2.1, (hb.cell l1).trans h1.2.2.1, (hb.cell l1).trans h1.2.2.2.1, (hb.cell l1).trans h1.2.2.2.2.1, (hb.cell l1).trans h1.2.2.2.2.2.1, (hb.cell l1).trans h1.2.2.2.2.2.2, h2.1, h2.2.1, h2.2.2.1, h2.2.2.2.1, h2.2.2.2.2.1, h2.2.2.2.2.2.1, h2.2.2.2.2.2.2, ((Below.refl _ w).alloc (Nat.le_refl _) _).alloc (by rw [World.size_alloc]; omega) _, by rw [World.size_alloc, World.size_alloc]; omega, by rw [World.size_alloc, World.size_alloc]; omega, Nat.le_refl _⟩
  obtain ⟨W, b, c, eW, eb, ec, HS⟩ := hw0
  have EW := Lib.hid eW
  have hs := Lib.hid HS
  clear HS
  go_enter Tryd.func31, Tryd.ntmps31
  go_wp2
  rw [← eW, ← ec, ← eb]
  clear eW eb ec EW
  go_region_held3 (fun w' => w'.cell? ⟨b, 0, none⟩ = some (.int .i64 k) ∧ w'.cell? ⟨b, 1, none⟩ = some (.int .i64 f) ∧ w'.cell? ⟨b, 2, none⟩ = some (.int .i64 t) ∧ w'.cell? ⟨b, 3, none⟩ = some (.int .i64 v) ∧ w'.cell? ⟨b, 4, none⟩ = some (.int .i64 a) ∧ w'.cell? ⟨b, 5, none⟩ = some (.string s) ∧ w'.cell? ⟨b, 6, none⟩ = some (.int .i64 u) ∧ w'.cell? ⟨c, 0, none⟩ = some (.int .i64 k') ∧ w'.cell? ⟨c, 1, none⟩ = some (.int .i64 f') ∧ w'.cell? ⟨c, 2, none⟩ = some (.int .i64 t') ∧ w'.cell? ⟨c, 3, none⟩ = some (.int .i64 v') ∧ w'.cell? ⟨c, 4, none⟩ = some (.int .i64 a') ∧ w'.cell? ⟨c, 5, none⟩ = some (.string s') ∧ w'.cell? ⟨c, 6, none⟩ = some (.int .i64 u') ∧ Below w.heap.size w w' ∧ b < w'.heap.size ∧ c < w'.heap.size ∧ w.drawn ≤ w'.drawn) (first | assumption | exact held_ev hs.out (Below.refl _ _).drew (Nat.le_succ _) | exact held_ev (by assumption) ((ba _ _).drew) (Nat.le_succ _) | exact held_ev (by assumption) (Below.refl _ _).drew (Nat.le_succ _) | fail)
    (first | (go_at_call 50; refine (CI.out _ _ _).mono ?_; rintro e1 w1 ⟨rfl, rfl⟩) | (go_at_call 49; refine (CO.out [cI f f', cI t t'] _ _ _ _ (numArg2d _ _ _ _) (by simp)).mono ?_; rintro e1 w1 ⟨rfl, rfl⟩))
  rename_i hS1
  have hs1 := Lib.hid hS1
  clear hs hS1
  generalize (W.alloc (.cells #[.int .i64 (cI f f'), .int .i64 (cI t t')] 3)).drew = W1 at hs1 ⊢
  generalize cOr [cI f f', cI t t'] = Z at *
  by_cases hz : Z = 0
  · subst hz
    go_wp2
    go_region_held3 (fun w' => w'.cell? ⟨b, 0, none⟩ = some (.int .i64 k) ∧ w'.cell? ⟨b, 1, none⟩ = some (.int .i64 f) ∧ w'.cell? ⟨b, 2, none⟩ = some (.int .i64 t) ∧ w'.cell? ⟨b, 3, none⟩ = some (.int .i64 v) ∧ w'.cell? ⟨b, 4, none⟩ = some (.int .i64 a) ∧ w'.cell? ⟨b, 5, none⟩ = some (.string s) ∧ w'.cell? ⟨b, 6, none⟩ = some (.int .i64 u) ∧ w'.cell? ⟨c, 0, none⟩ = some (.int .i64 k') ∧ w'.cell? ⟨c, 1, none⟩ = some (.int .i64 f') ∧ w'.cell? ⟨c, 2, none⟩ = some (.int .i64 t') ∧ w'.cell? ⟨c, 3, none⟩ = some (.int .i64 v') ∧ w'.cell? ⟨c, 4, none⟩ = some (.int .i64 a') ∧ w'.cell? ⟨c, 5, none⟩ = some (.string s') ∧ w'.cell? ⟨c, 6, none⟩ = some (.int .i64 u') ∧ Below w.heap.size w w' ∧ b < w'.heap.size ∧ c < w'.heap.size ∧ w.drawn ≤ w'.drawn) (first | assumption | exact held_ev hs1.out (Below.refl _ _).drew (Nat.le_succ _) | exact held_ev (by assumption) ((ba _ _).drew) (Nat.le_succ _) | exact held_ev (by assumption) (Below.refl _ _).drew (Nat.le_succ _) | fail)
      (first | (go_at_call_of 15 (Value.agg (evA k f t v a s u)); refine (CC.out _ _ _ _ _ _ _ _).mono ?_; rintro e1 w1 ⟨rfl, b1, d1⟩; have h1 := held_ev (by assumption) b1 d1) | (go_at_call 15; refine (CC.out _ _ _ _ _ _ _ _).mono ?_; rintro e1 w1 ⟨rfl, b1, d1⟩; have h1 := held_ev (by assumption) b1 d1))
    rename_i hS2
    have hs2 := Lib.hid hS2
    clear hS2
    cases q
    · go_wp2
      go_region_held3 (fun w' => w'.cell? ⟨b, 0, none⟩ = some (.int .i64 k) ∧ w'.cell? ⟨b, 1, none⟩ = some (.int .i64 f) ∧ w'.cell? ⟨b, 2, none⟩ = some (.int .i64 t) ∧ w'.cell? ⟨b, 3, none⟩ = some (.int .i64 v) ∧ w'.cell? ⟨b, 4, none⟩ = some (.int .i64 a) ∧ w'.cell? ⟨b, 5, none⟩ = some (.string s) ∧ w'.cell? ⟨b, 6, none⟩ = some (.int .i64 u) ∧ w'.cell? ⟨c, 0, none⟩ = some (.int .i64 k') ∧ w'.cell? ⟨c, 1, none⟩ = some (.int .i64 f') ∧ w'.cell? ⟨c, 2, none⟩ = some (.int .i64 t') ∧ w'.cell? ⟨c, 3, none⟩ = some (.int .i64 v') ∧ w'.cell? ⟨c, 4, none⟩ = some (.int .i64 a') ∧ w'.cell? ⟨c, 5, none⟩ = some (.string s') ∧ w'.cell? ⟨c, 6, none⟩ = some (.int .i64 u') ∧ Below w.heap.size w w' ∧ b < w'.heap.size ∧ c < w'.heap.size ∧ w.drawn ≤ w'.drawn) (first | assumption | exact held_ev hs2.out (Below.refl _ _).drew (Nat.le_succ _) | exact held_ev (by assumption) ((ba _ _).drew) (Nat.le_succ _) | exact held_ev (by assumption) (Below.refl _ _).drew (Nat.le_succ _) | fail)
        (first | (go_at_call 50; refine (CI.out _ _ _).mono ?_; rintro e1 w1 ⟨rfl, rfl⟩) | (go_at_call 51; refine (CS.out _ _ _).mono ?_; rintro e1 w1 ⟨rfl, rfl⟩) | (go_at_call 49; refine (CO.out [cI k k', cI v v', cI a a', cB s.data.toList s'.data.toList, cI u u'] _ _ _ _ (numArg5d _ _ _ _ _ _ _) (by simp)).mono ?_; rintro e1 w1 ⟨rfl, rfl⟩))
      rename_i hS3
      have hs3 := Lib.hid hS3
      clear hS3
      go_wp2
      go_returns
      exact ⟨ret_int (P1.out (by first | trivial | rfl)).symm, hs3.out.2.2.2.2.2.2.2.2.2.2.2.2.2.2.1, hs3.out.2.2.2.2.2.2.2.2.2.2.2.2.2.2.2.2.2⟩
    · go_wp2
      go_returns
      exact ⟨ret_int (P3.out (by first | trivial | rfl) (by first | trivial | rfl)).symm, hs2.out.2.2.2.2.2.2.2.2.2.2.2.2.2.2.1, hs2.out.2.2.2.2.2.2.2.2.2.2.2.2.2.2.2.2.2⟩
  · go_wp2
    go_returns
    exact ⟨ret_int (P0.out hz).symm, hs1.out.2.2.2.2.2.2.2.2.2.2.2.2.2.2.1, hs1.out.2.2.2.2.2.2.2.2.2.2.2.2.2.2.2.2.2⟩

theorem gro_grow {w w' : World} (h : Below w.heap.size w w') (hd : w.drawn ≤ w'.drawn) : ∃ q os', w' = grow (w.drewN q) os' := by
  refine ⟨w'.drawn - w.drawn, w'.heap.extract w.heap.size w'.heap.size, ?_⟩
  obtain ⟨h1, h2, h3, h4, h5⟩ := h
  cases w with
  | mk heap tape drawn os output =>
  cases w' with
  | mk heap' tape' drawn' os' output' =>
  simp only at h1 h2 h3 h4 h5 hd
  subst h1 h2 h3
  unfold grow World.drewN
  simp only [World.mk.injEq, and_true, true_and]
  refine ⟨?_, by omega⟩
  apply Array.ext_getElem?
  intro i
  rw [Array.getElem?_append]
  by_cases hi : i < heap.size
  · rw [if_pos hi]; exact h5 i hi
  · rw [if_neg hi, Array.getElem?_extract]
    by_cases h2 : i < heap'.size
    · rw [if_pos (by omega)]
      congr 1
      omega
    · rw [if_neg (by omega)]
      exact Array.getElem?_eq_none (by omega)

set_option maxHeartbeats 1000000 in
theorem less_xy (k f t v a : Int) (s : ByteArray) (u : Int) (k' f' t' v' a' : Int) (s' : ByteArray) (u' : Int) (w : World) :
    Calls Tryd.prog 13 #[.agg (evA k f t v a s u), .agg (evA k' f' t' v' a' s' u')] w fun e w' => e = .returned (.bool (lE ⟨k, f, t, v, a, s.data.toList, u⟩ ⟨k', f', t', v', a', s'.data.toList, u'⟩)) ∧ Below w.heap.size w w' := by
  have P0 := Lib.hid (cpE_neg ⟨k, f, t, v, a, s.data.toList, u⟩ ⟨k', f', t', v', a', s'.data.toList, u'⟩)
  have CC := Lib.hid (fun W => compare_xy k f t v a s u k' f' t' v' a' s' u' W)
  generalize cpE ⟨k, f, t, v, a, s.data.toList, u⟩ ⟨k', f', t', v', a', s'.data.toList, u'⟩ = R at *
  generalize lE ⟨k, f, t, v, a, s.data.toList, u⟩ ⟨k', f', t', v', a', s'.data.toList, u'⟩ = L at *
  go_enter Tryd.func13, Tryd.ntmps13
  go_wp2_with (go_at_call 31; go_must (refine (CC.out _).mono ?_; rintro e1 w1 ⟨rfl, b1, d1⟩))
  go_returns
  exact ⟨ret_bool P0.out, (by repeat' (first | with_reducible exact Below.refl _ _ | with_reducible exact Nat.le_refl _ | with_reducible assumption | with_reducible refine below_drewN ?_ _ | with_reducible refine Below.drew ?_ | with_reducible refine Below.trans ?_ (Below.mono (by assumption) ?_) | with_reducible refine Below.alloc ?_ ?_ _ | with_reducible refine Below.setCell ?_ ?_ _ | with_reducible refine le_setCell ?_ _ _ | with_reducible refine le_alloc ?_ _ | with_reducible refine le_drewN ?_ _ | with_reducible refine le_drew ?_ | with_reducible refine Nat.le_trans ?_ (Below.size (by assumption)) | (simp only [World.size_alloc, World.size_setCell]; omega)))⟩

end Go.Proofs.YtiimdkamgehioaaDoor
