/-
  The walks of bounds, of the comparison, of the sort, and of ascending.
-/
import Derived.Test.YtpeiiomimfiebaaW1
import Derived.Test.YtpeiiomimfiebaaShelf
import Derived.Shelf.SlSortCmp.NoneTotal
namespace Go.Proofs.Ytpeiiomimfiebaa
open Go Go.RowKit Go.Joins Go.Sort Go.Shelf
set_option linter.unusedVariables false
set_option linter.unusedSimpArgs false

set_option maxRecDepth 20000 in
set_option maxHeartbeats 1000000 in
/-- 'cmp.Compare(a.From, b.From)'. -/
theorem closure_xy (x y u z : Int) (w : World) : Calls Try.prog 32 #[.agg #[.int .i64 x, .int .i64 y], .agg #[.int .i64 u, .int .i64 z]] w fun e w' => e = .returned (.int .i64 (Lib.compareInt x u)) ∧ ∃ q os', w' = grow (w.drewN q) os' := by
  have hcon := Lib.hid (fun W' => Try.cmp_Compare_int x u W')
  generalize Lib.compareInt x u = r at hcon ⊢
  go_enter Try.func32, Try.ntmps32
  go_wp2_with (go_at_call 33; go_must (refine (hcon.out _).mono ?_; rintro e w' ⟨rfl, rfl⟩))
  go_returns
  exact ⟨rfl, 0, _, by rw [alloc_eq_grow, alloc_eq_grow, grow_grow]; rfl⟩

theorem ltFrom (x y : Sp) : ltOf (fun x y : Sp => Lib.compareInt x.1 y.1) x y = decide (x.1 < y.1) := by
  unfold ltOf Lib.compareInt
  by_cases h1 : x.1 < y.1
  · simp [h1]
  · by_cases h2 : y.1 < x.1 <;> simp [h1, h2]
theorem swoFrom : SWO (ltOf fun x y : Sp => Lib.compareInt x.1 y.1) where
  irrefl x := by rw [ltFrom]; simp
  trans x y z h1 h2 := by rw [ltFrom] at *; simp at *; omega
  ntrans x y z h1 h2 := by rw [ltFrom] at *; simp at *; omega
instance : Inhabited Sp := ⟨(0, 0)⟩

set_option maxHeartbeats 1000000 in
/-- The sort. -/
theorem sort_any (l : List Sp) (v : Value) (w : World) (B : Nat) (hv : SpRow w B v l) (hB : B ≤ w.heap.size) (hn : l.length ≤ 4294967296) :
    Calls Try.prog 31 #[v, .func (.func 32) #[] #[]] w fun e w' => e = .returned (.tuple #[]) ∧ ∃ q : List Sp, SpRow w' B v q ∧ q.Perm l ∧ (q.Pairwise fun a b => a.1 ≤ b.1) ∧ Below B w w' := by
  by_cases h0 : 0 < l.length
  · obtain ⟨g, c, rfl⟩ := hv.full h0
    have hH := hv.holds spC_size
    have eg : ∀ args w, (callFunc 32 args).run Try.prog w = .ok (.enter 32 args) w := enters_of Try.func32 (by kernel_rfl) rfl
    have hcon := AnyQ.slices_SortFunc Try.sortSp 2 Try.isAgg23 Try.sizeOf23 (fun x : Sp => (spC x).toList) (fun _ => rfl) (fun x v hv => by simp [spC] at hv; rcases hv with rfl | rfl <;> rfl) (fun x y => Lib.compareInt x.1 y.1) swoFrom 32 #[] g 0 c l.toArray w eg (fun _ _ _ _ x y => closure_xy x.1 x.2 y.1 y.2 _) hH (hv.lt g rfl).2 (by simp; omega)
    change Calls Try.prog 31 _ _ _ at hcon
    refine hcon.mono ?_
    rintro e w' ⟨rfl, d', n, os, hp, hs, rfl⟩
    obtain ⟨p1, p2⟩ := perm_of_in hp
    have hs' := sorted_of_in (d := d') (by rw [p1]; exact hs)
    obtain ⟨r1, r2⟩ := hv.sorted spC_size d' (by simpa using p1) n os
    refine ⟨rfl, d'.toList, r1, by simpa using p2, hs'.imp fun h => ?_, r2⟩
    rw [ltFrom] at h
    simp only [decide_eq_false_iff_not] at h
    omega
  · obtain rfl : l = [] := List.eq_nil_of_length_eq_zero (by omega)
    obtain ⟨A, N, c, rfl, rfl⟩ := hv.form
    have hcon := AnyF.slices_SortFunc_none Try.sortSp A c (.func (.func 32) #[] #[]) w
    change Calls Try.prog 31 _ _ _ at hcon
    refine hcon.mono ?_
    rintro e w' ⟨rfl, rfl⟩
    exact ⟨rfl, [], hv, List.Perm.refl _, List.Pairwise.nil, Below.refl _ _⟩

end Go.Proofs.Ytpeiiomimfiebaa
