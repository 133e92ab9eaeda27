/-
  The walk of the chapter's examples ('awake').
-/
import Derived.Test.YtlbepbddhnmmjaaDoorW15
namespace Go.Proofs.YtlbepbddhnmmjaaDoor
open Go.RowKit

/-- Two cells of an old block, behind what only makes memory. -/
theorem old2 {w w' : World} {b : Nat} {x y : Value} (hb : Below w.heap.size w w') (h : w.cell? ⟨b, 0, none⟩ = some x ∧ w.cell? ⟨b, 1, none⟩ = some y ∧ b < w.heap.size) : w'.cell? ⟨b, 0, none⟩ = some x ∧ w'.cell? ⟨b, 1, none⟩ = some y ∧ b < w'.heap.size :=
  ⟨by rw [hb.cell h.2.2]; exact h.1, by rw [hb.cell h.2.2]; exact h.2.1, Nat.lt_of_lt_of_le h.2.2 hb.size⟩
theorem new2 (w : World) (x y : Value) (T : TypeId) : (w.alloc (.cells #[x, y] T)).cell? ⟨w.heap.size, 0, none⟩ = some x ∧ (w.alloc (.cells #[x, y] T)).cell? ⟨w.heap.size, 1, none⟩ = some y ∧ w.heap.size < (w.alloc (.cells #[x, y] T)).heap.size :=
  ⟨by go_simp, by go_simp, by rw [World.size_alloc]; omega⟩
theorem two_new (w : World) (x0 x1 y0 y1 : Value) (T : TypeId) :
    (((w.alloc (.cells #[x0, x1] T)).alloc (.cells #[y0, y1] T)).cell? ⟨w.heap.size, 0, none⟩ = some x0 ∧ ((w.alloc (.cells #[x0, x1] T)).alloc (.cells #[y0, y1] T)).cell? ⟨w.heap.size, 1, none⟩ = some x1 ∧ w.heap.size < ((w.alloc (.cells #[x0, x1] T)).alloc (.cells #[y0, y1] T)).heap.size) ∧
    (((w.alloc (.cells #[x0, x1] T)).alloc (.cells #[y0, y1] T)).cell? ⟨w.heap.size + 1, 0, none⟩ = some y0 ∧ ((w.alloc (.cells #[x0, x1] T)).alloc (.cells #[y0, y1] T)).cell? ⟨w.heap.size + 1, 1, none⟩ = some y1 ∧ w.heap.size + 1 < ((w.alloc (.cells #[x0, x1] T)).alloc (.cells #[y0, y1] T)).heap.size) :=
  ⟨⟨by go_simp, by go_simp, by simp only [World.size_alloc]; omega⟩, ⟨by go_simp, by go_simp, by simp only [World.size_alloc]; omega⟩⟩
theorem ba (w : World) (o : Obj) : Below w.heap.size w (w.alloc o) := (Below.refl _ _).alloc (Nat.le_refl _) _

set_option maxHeartbeats 4000000 in
theorem awake_any (m : Int) (w : World) (h : Env m w) :
    Calls Tryd.prog 16 #[] w fun e w' => e = .returned (.bool true) ∧ Below w.heap.size w w' := by
  go_enter Tryd.func16, Tryd.ntmps16
  go_wp2_with (first
    | (go_at_call 17; refine (ex_make _).mono ?_; rintro e w1 ⟨rfl, b1⟩; have h1 := h.below b1; have h1a := h1.below (ba _ (.cells #[.int .i64 (-3), .int .i64 4] 23)))
    | (go_at_call 27; refine (ex_scale _).mono ?_; rintro e w2 ⟨rfl, b2⟩; have h2 := h1a.below b2; have p2 := old2 b2 (new2 _ _ _ _))
    | (go_at_call_of 35 (Value.string ⟨#[50, 47, 52]⟩); refine (ex_parse1 m _ h2).mono ?_; rintro e w3 ⟨rfl, b3⟩; have h3 := h2.below b3; have h3a := h3.below (ba _ (.cells #[.int .i64 0, .int .i64 0] 23)); have p3 := old2 (ba _ (.cells #[.int .i64 0, .int .i64 0] 23)) (old2 b3 p2))
    | (go_at_call_of 35 (Value.string ⟨#[55]⟩); refine (ex_parse2 m _ h3a).mono ?_; rintro e w4 ⟨rfl, b4⟩; have h4 := h3a.below b4; have h5 := (h4.below (ba _ (.cells #[.int .i64 7, .int .i64 1] 23))).below (ba _ (.cells #[.int .i64 1, .int .i64 2] 23)); obtain ⟨a0, a1, a2⟩ := old2 (ba _ (.cells #[.int .i64 1, .int .i64 2] 23)) (old2 (ba _ (.cells #[.int .i64 7, .int .i64 1] 23)) (old2 b4 p3)))
    | (go_at_call 14; refine (ex_text m _ h5).mono ?_; rintro e w5 ⟨rfl, b5⟩; obtain ⟨c0, c1, c2⟩ := old2 b5 ⟨a0, a1, a2⟩; obtain ⟨d0, d1, d2⟩ := two2 b5)
    | (go_at_call 31; refine (ex_floor _).mono ?_; rintro e w6 ⟨rfl, b6⟩; obtain ⟨e0, e1, e2⟩ := old2 b6 ⟨c0, c1, c2⟩; obtain ⟨f0, f1, f2⟩ := old2 b6 ⟨d1.1, d1.2, d2⟩)
    | (go_at_call 33; refine (ex_round _).mono ?_; rintro e w7 ⟨rfl, b7⟩; obtain ⟨g0, g1, g2⟩ := old2 b7 ⟨e0, e1, e2⟩; obtain ⟨k0, k1, k2⟩ := old2 b7 ⟨f0, f1, f2⟩)
    | (go_at_call 29; refine (ex_cmp _).mono ?_; rintro e w8 ⟨rfl, b8⟩))
  go_returns
  exact ⟨rfl, by repeat' (first | with_reducible exact Below.refl _ _ | with_reducible exact Nat.le_refl _ | with_reducible assumption | with_reducible refine Below.trans ?_ (Below.mono (by assumption) ?_) | with_reducible refine Below.alloc ?_ ?_ _ | with_reducible refine le_alloc ?_ _ | with_reducible refine Nat.le_trans ?_ (Below.size (by assumption)))⟩

end Go.Proofs.YtlbepbddhnmmjaaDoor
