/-
  The walks of slices.Clone, slices.SortFunc and Sort over events.
-/
import Derived.Test.YtddphdohjceonaaDoorA14
import Derived.Test.YtddphdohjceonaaDoorS0
import Derived.Test.YtddphdohjceonaaDoorShelf
import Derived.Shelf.SlSortCmp.NoneTotal
import Derived.Shelf.SlicesE.Clone
namespace Go.Proofs.YtddphdohjceonaaDoor
open Go Go.RowKit Go.Joins Go.Sort Go.Shelf
set_option linter.unusedVariables false
set_option linter.unusedSimpArgs false

theorem closure_e (x y : Ev) (w : World) : Calls Tryd.prog 31 #[.agg (evC x), .agg (evC y)] w fun e w' => e = .returned (.int .i64 (cpE x y)) ∧ ∃ q os', w' = grow (w.drewN q) os' :=
  (compare_xy x.k x.f x.t x.v x.a ⟨x.d.toArray⟩ x.u y.k y.f y.t y.v y.a ⟨y.d.toArray⟩ y.u w).mono fun e w' h => ⟨h.1, gro_grow h.2.1 h.2.2⟩
theorem ltE (x y : Ev) : ltOf cpE x y = lE x y := by
  unfold ltOf
  exact cpE_neg x y
theorem swoE : SWO (ltOf cpE) where
  irrefl x := by rw [ltE]; exact lE_irrefl x
  trans x y z h1 h2 := by rw [ltE] at *; exact lE_trans h1 h2
  ntrans x y z h1 h2 := by rw [ltE] at *; exact le_trans' h2 h1

set_option maxHeartbeats 1000000 in
/-- The sort. -/
theorem sort_any (l : List Ev) (v : Value) (w : World) (B : Nat) (hv : EvRow w B v l) (hB : B ≤ w.heap.size) (hn : l.length ≤ 4294967296) :
    Calls Tryd.prog 47 #[v, .func (.func 31) #[] #[]] w fun e w' => e = .returned (.tuple #[]) ∧ EvRow w' B v (soE l) ∧ Below B w w' := by
  by_cases h0 : 0 < l.length
  · obtain ⟨g, c, rfl⟩ := hv.full h0
    have hH := hv.holds evC_size
    have eg : ∀ args w, (callFunc 31 args).run Tryd.prog w = .ok (.enter 31 args) w := enters_of Tryd.func31 (by kernel_rfl) rfl
    have hcon := AnyQ.slices_SortFunc Tryd.sortEv 7 Tryd.isAgg23 Tryd.sizeOf23 (fun x : Ev => (evC x).toList) (fun _ => rfl) (fun x v hv => by simp [evC] at hv; rcases hv with rfl | rfl | rfl | rfl | rfl | rfl | rfl <;> rfl) cpE swoE 31 #[] g 0 c l.toArray w eg (fun _ _ _ _ x y => closure_e x y _) hH (hv.lt g rfl).2 (by simp; omega)
    change Calls Tryd.prog 47 _ _ _ at hcon
    refine hcon.mono ?_
    rintro e w' ⟨rfl, d', n, os, hp, hs, rfl⟩
    obtain ⟨p1, p2⟩ := perm_of_in hp
    have hs' := sorted_of_in (d := d') (by rw [p1]; exact hs)
    obtain ⟨r1, r2⟩ := hv.sorted evC_size d' (by simpa using p1) n os
    have hso : d'.toList = soE l := soE_of (by simpa using p2) (hs'.imp fun {a b} h => by rw [ltE] at h; exact h)
    rw [hso] at r1
    exact ⟨rfl, r1, r2⟩
  · obtain rfl : l = [] := List.eq_nil_of_length_eq_zero (by omega)
    obtain ⟨A, N, c, rfl, rfl⟩ := hv.form
    have hcon := AnyF.slices_SortFunc_none Tryd.sortEv A c (.func (.func 31) #[] #[]) w
    change Calls Tryd.prog 47 _ _ _ at hcon
    refine hcon.mono ?_
    rintro e w' ⟨rfl, rfl⟩
    exact ⟨rfl, hv, Below.refl _ _⟩

theorem one7 (x : Ev) : ∀ u ∈ (evC x).toList, u.oneCell' = true := by
  intro u hu
  simp [evC] at hu
  rcases hu with rfl | rfl | rfl | rfl | rfl | rfl | rfl <;> rfl
set_option maxHeartbeats 1000000 in
theorem clone_any (l : List Ev) (V : Value) (w : World) (h1 : EvArg w V l) (hl : l.length ≤ 1000) :
    Calls Tryd.prog 46 #[V] w fun e w' => ∃ v, e = .returned v ∧ EvRow w' w.heap.size v l ∧ Below w.heap.size w w' := by
  obtain ⟨A, c, rfl, h1⟩ := h1
  by_cases h0 : 0 < l.length
  · obtain ⟨g, o, rfl, hg, hc⟩ := h1 h0
    obtain ⟨i0, hi, hz0, hz1, hz2⟩ := info_parts ev_info
    have hcon := AnyE.slices_Clone Tryd.cloneEv i0 _ 7 64 hi hz0 hz1 hz2 rfl (by omega) Tryd.sizeOf23 g o l.length c (kCs evC l) w (kCs_len evC_size l) (by unfold maxLen; omega) (by omega)
      (fun j u hj => by
        have hjl : j < l.length * 7 := by rw [← kCs_len evC_size l]; exact (List.getElem?_eq_some_iff.1 hj).1
        have h7 := hc (j / 7) (by omega) (j % 7) (Nat.mod_lt _ (by omega))
        rw [show o + j / 7 * 7 + j % 7 = o + j by omega] at h7
        rw [h7, ← kCs_at evC_size l (j / 7) (by omega) (j % 7) (Nat.mod_lt _ (by omega)), show j / 7 * 7 + j % 7 = j by omega]
        exact hj)
      (fun u hu => by
        obtain ⟨x, hx, hu⟩ := List.mem_flatMap.1 hu
        exact one7 x u hu)
    change Calls Tryd.prog 46 _ _ _ at hcon
    refine hcon.mono ?_
    rintro e w' ⟨v', rfl, ho, _, hb⟩
    exact ⟨v', rfl, ho, hb⟩
  · obtain rfl : l = [] := List.eq_nil_of_length_eq_zero (by omega)
    clear h1 h0 hl
    cases A with
    | none =>
      have hcon := AnyE.slices_Clone_nil Tryd.cloneEv 0 c w
      change Calls Tryd.prog 46 _ _ _ at hcon
      refine hcon.mono ?_
      rintro e w' ⟨rfl, rfl⟩
      exact ⟨_, rfl, KRow.nil _ _, Below.refl _ _⟩
    | some a =>
      have q22 : ∀ (w : World) (a : Option Addr) (n c n' c' : Nat), (binOp .eql 28 (.slice a n c) (.slice none n' c')).run Tryd.prog w = .ok (.bool a.isNone) w := fun w a n c n' c' => Lib.run_eql_slice_nil w _ _ a n c n' c' Tryd.underlying28
      go_enter Tryd.func46, Tryd.ntmps46
      go_wp2
      go_returns
      exact ⟨_, rfl, KRow.lit evC_size w w.heap.size (Nat.le_refl _) [] #[] rfl 0 rfl (by simp), ba _ _⟩

set_option maxHeartbeats 1000000 in
theorem sorts_any (l : List Ev) (V : Value) (w : World) (h1 : EvArg w V l) (hl : l.length ≤ 1000) :
    Calls Tryd.prog 27 #[V] w fun e w' => ∃ v, e = .returned v ∧ EvRow w' w.heap.size v (soE l) ∧ Below w.heap.size w w' := by
  have C1 := Lib.hid (clone_any l V w h1 hl)
  have C2 := Lib.hid (fun v W h hB => sort_any l v W w.heap.size h hB (by omega))
  clear h1
  generalize soE l = L at *
  go_enter Tryd.func27, Tryd.ntmps27
  go_wp2_with (first
    | (go_at_call 46; go_must (refine C1.out.mono ?_; rintro e1 w1 ⟨v, rfl, r1, b1⟩; have R1 := Lib.hid r1; have B1 := Lib.hid b1; clear r1 b1))
    | (go_at_call 47; go_must (refine (C2.out _ _ R1.out B1.out.size).mono ?_; rintro e2 w2 ⟨rfl, r2, b2⟩; have R2 := Lib.hid r2; have B2 := Lib.hid b2; clear r2 b2)))
  go_returns
  first | exact ⟨_, rfl, R2.out, B1.out.trans B2.out⟩ | exact ⟨R2.out, B1.out.trans B2.out⟩

end Go.Proofs.YtddphdohjceonaaDoor
