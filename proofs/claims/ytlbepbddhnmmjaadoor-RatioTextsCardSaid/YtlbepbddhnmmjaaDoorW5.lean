/-
  The walks of floor, Floor, Round, Scale, Cmp, of package ratio and of its specification.
-/
import Derived.Test.YtlbepbddhnmmjaaDoorW4
namespace Go.Proofs.YtlbepbddhnmmjaaDoor
open Go.RowKit

/-- Behind calls that only make memory: one block of two cells, as it was laid. -/
theorem one2 {w wa : World} {x0 x1 : Value} {T : TypeId} (h : Below (w.alloc (.cells #[x0, x1] T)).heap.size (w.alloc (.cells #[x0, x1] T)) wa) :
    wa.cell? ⟨w.heap.size, 0, none⟩ = some x0 ∧ wa.cell? ⟨w.heap.size, 1, none⟩ = some x1 ∧ w.heap.size < wa.heap.size := by
  have hs := h.size
  simp only [World.size_alloc] at hs
  refine ⟨?_, ?_, by omega⟩
  all_goals (refine (h.cell (by simp only [World.size_alloc]; omega)).trans ?_; go_simp)
theorem two2 {w wa : World} {x0 x1 y0 y1 : Value} {T : TypeId} (h : Below ((w.alloc (.cells #[x0, x1] T)).alloc (.cells #[y0, y1] T)).heap.size ((w.alloc (.cells #[x0, x1] T)).alloc (.cells #[y0, y1] T)) wa) :
    (wa.cell? ⟨w.heap.size, 0, none⟩ = some x0 ∧ wa.cell? ⟨w.heap.size, 1, none⟩ = some x1) ∧ (wa.cell? ⟨w.heap.size + 1, 0, none⟩ = some y0 ∧ wa.cell? ⟨w.heap.size + 1, 1, none⟩ = some y1) ∧ w.heap.size + 1 < wa.heap.size := by
  have hs := h.size
  simp only [World.size_alloc] at hs
  refine ⟨⟨?_, ?_⟩, ⟨?_, ?_⟩, by omega⟩
  all_goals (refine (h.cell (by simp only [World.size_alloc]; omega)).trans ?_; go_simp)

set_option maxHeartbeats 1000000 in
theorem floor_any (a b : Int) (w : World) (h0 : -9223372036854775807 ≤ a) (h1 : a ≤ 9223372036854775807) (hb0 : 1 ≤ b) (hb1 : b ≤ 9223372036854775807) :
    Calls Tryd.prog 45 #[.int .i64 a, .int .i64 b] w fun e w' => e = .returned (.int .i64 (a / b)) ∧ w' = w := by
  by_cases hn : 0 ≤ a
  · have hr : 0 ≤ a % b := Int.emod_nonneg a (by omega)
    go_enter Tryd.func45, Tryd.ntmps45
    go_wp2_with fail
    go_returns
    exact ⟨rfl, rfl⟩
  · have hg := fl_ge (a := a) (b := b) (by omega) hb0
    have hl : a / b < 0 := Int.ediv_neg_of_neg_of_pos (by omega) (by omega)
    by_cases hr : a.tmod b < 0
    · have he := Lib.hid (fl_neg (a := a) (b := b) (by omega) hb0 hr)
      have k1 : -9223372036854775808 ≤ a.tdiv b - 1 := by rw [he.out]; omega
      have k2 : a.tdiv b - 1 ≤ 9223372036854775807 := by rw [he.out]; omega
      go_enter Tryd.func45, Tryd.ntmps45
      go_wp2_with fail
      go_returns
      exact ⟨ret_int he.out, rfl⟩
    · have he := Lib.hid (fl_exact (a := a) (b := b) (by omega) hb0 (by omega))
      go_enter Tryd.func45, Tryd.ntmps45
      go_wp2_with fail
      go_returns
      exact ⟨ret_int he.out, rfl⟩

set_option maxHeartbeats 1000000 in
theorem fl_any (n d : Int) (w : World) (hn0 : -9223372036854775808 ≤ n) (hn1 : n ≤ 9223372036854775807) (hd0 : -9223372036854775808 ≤ d) (hd1 : d ≤ 9223372036854775807) :
    Calls Tryd.prog 31 #[.agg #[.int .i64 n, .int .i64 d]] w fun e w' => e = .returned (.int .i64 (okI (validB n d) (n / d))) ∧ Below w.heap.size w w' := by
  cases v1 : validB n d
  · go_enter Tryd.func31, Tryd.ntmps31
    go_wp2_with (go_at_call 12; refine (valid_any _ _ _ hn0 hn1 hd0 hd1).mono ?_; rintro e wa ⟨rfl, ba⟩; obtain ⟨a0, a1, asz⟩ := one2 ba)
    go_returns
    exact ⟨rfl, by (repeat' (first | with_reducible exact Below.refl _ _ | with_reducible exact Nat.le_refl _ | with_reducible assumption | with_reducible refine below_drewN ?_ _ | with_reducible refine Below.drew ?_ | with_reducible refine Below.alloc ?_ ?_ _ | with_reducible refine Below.setCell ?_ ?_ _ | with_reducible refine le_alloc ?_ _ | with_reducible refine le_setCell ?_ _ _ | with_reducible refine le_drewN ?_ _ | with_reducible refine Below.trans ?_ (Below.mono (by assumption) ?_) | with_reducible refine Nat.le_trans ?_ (Below.size (by assumption)) | exact Nat.le_refl _ | (simp; omega)))⟩
  · obtain ⟨p1, p2, p3, p4⟩ := valid_bd v1
    have m1 : -9223372036854775807 ≤ n := by omega
    have m2 : n ≤ 9223372036854775807 := by omega
    have m3 : 1 ≤ d := by omega
    have m4 : d ≤ 9223372036854775807 := by omega
    go_enter Tryd.func31, Tryd.ntmps31
    go_wp2_with (first | (go_at_call 12; refine (valid_any _ _ _ hn0 hn1 hd0 hd1).mono ?_; rintro e wa ⟨rfl, ba⟩; obtain ⟨a0, a1, asz⟩ := one2 ba) | (go_at_call 45; refine (floor_any _ _ _ m1 m2 m3 m4).mono ?_; rintro e w' ⟨rfl, rfl⟩))
    go_returns
    exact ⟨rfl, by (repeat' (first | with_reducible exact Below.refl _ _ | with_reducible exact Nat.le_refl _ | with_reducible assumption | with_reducible refine below_drewN ?_ _ | with_reducible refine Below.drew ?_ | with_reducible refine Below.alloc ?_ ?_ _ | with_reducible refine Below.setCell ?_ ?_ _ | with_reducible refine le_alloc ?_ _ | with_reducible refine le_setCell ?_ _ _ | with_reducible refine le_drewN ?_ _ | with_reducible refine Below.trans ?_ (Below.mono (by assumption) ?_) | with_reducible refine Nat.le_trans ?_ (Below.size (by assumption)) | exact Nat.le_refl _ | (simp; omega)))⟩

set_option maxHeartbeats 1000000 in
theorem rd_any (n d : Int) (w : World) (hn0 : -9223372036854775808 ≤ n) (hn1 : n ≤ 9223372036854775807) (hd0 : -9223372036854775808 ≤ d) (hd1 : d ≤ 9223372036854775807) :
    Calls Tryd.prog 33 #[.agg #[.int .i64 n, .int .i64 d]] w fun e w' => e = .returned (.int .i64 (okI (validB n d) ((2 * n + d) / (2 * d)))) ∧ Below w.heap.size w w' := by
  cases v1 : validB n d
  · go_enter Tryd.func33, Tryd.ntmps33
    go_wp2_with (go_at_call 12; refine (valid_any _ _ _ hn0 hn1 hd0 hd1).mono ?_; rintro e wa ⟨rfl, ba⟩; obtain ⟨a0, a1, asz⟩ := one2 ba)
    go_returns
    exact ⟨rfl, by (repeat' (first | with_reducible exact Below.refl _ _ | with_reducible exact Nat.le_refl _ | with_reducible assumption | with_reducible refine below_drewN ?_ _ | with_reducible refine Below.drew ?_ | with_reducible refine Below.alloc ?_ ?_ _ | with_reducible refine Below.setCell ?_ ?_ _ | with_reducible refine le_alloc ?_ _ | with_reducible refine le_setCell ?_ _ _ | with_reducible refine le_drewN ?_ _ | with_reducible refine Below.trans ?_ (Below.mono (by assumption) ?_) | with_reducible refine Nat.le_trans ?_ (Below.size (by assumption)) | exact Nat.le_refl _ | (simp; omega)))⟩
  · obtain ⟨p1, p2, p3, p4⟩ := valid_bd v1
    have m1 : -9223372036854775807 ≤ (2 * n + d) := by omega
    have m2 : (2 * n + d) ≤ 9223372036854775807 := by omega
    have m3 : 1 ≤ (2 * d) := by omega
    have m4 : (2 * d) ≤ 9223372036854775807 := by omega
    go_enter Tryd.func33, Tryd.ntmps33
    go_wp2_with (first | (go_at_call 12; refine (valid_any _ _ _ hn0 hn1 hd0 hd1).mono ?_; rintro e wa ⟨rfl, ba⟩; obtain ⟨a0, a1, asz⟩ := one2 ba) | (go_at_call 45; refine (floor_any _ _ _ m1 m2 m3 m4).mono ?_; rintro e w' ⟨rfl, rfl⟩))
    go_returns
    exact ⟨rfl, by (repeat' (first | with_reducible exact Below.refl _ _ | with_reducible exact Nat.le_refl _ | with_reducible assumption | with_reducible refine below_drewN ?_ _ | with_reducible refine Below.drew ?_ | with_reducible refine Below.alloc ?_ ?_ _ | with_reducible refine Below.setCell ?_ ?_ _ | with_reducible refine le_alloc ?_ _ | with_reducible refine le_setCell ?_ _ _ | with_reducible refine le_drewN ?_ _ | with_reducible refine Below.trans ?_ (Below.mono (by assumption) ?_) | with_reducible refine Nat.le_trans ?_ (Below.size (by assumption)) | exact Nat.le_refl _ | (simp; omega)))⟩

set_option maxHeartbeats 2000000 in
theorem sc_any (n d k : Int) (w : World) (hn0 : -9223372036854775808 ≤ n) (hn1 : n ≤ 9223372036854775807) (hd0 : -9223372036854775808 ≤ d) (hd1 : d ≤ 9223372036854775807) (hk0 : -9223372036854775808 ≤ k) (hk1 : k ≤ 9223372036854775807) :
    Calls Tryd.prog 27 #[.agg #[.int .i64 n, .int .i64 d], .int .i64 k] w fun e w' => e = .returned (.tuple #[.int .i64 (scV (validB n d) n d k), .int .i64 (scE (validB n d) k)]) ∧ Below w.heap.size w w' := by
  cases v1 : validB n d
  · go_enter Tryd.func27, Tryd.ntmps27
    go_wp2_with (go_at_call 12; refine (valid_any _ _ _ hn0 hn1 hd0 hd1).mono ?_; rintro e wa ⟨rfl, ba⟩; obtain ⟨a0, a1, asz⟩ := one2 ba)
    go_returns
    exact ⟨rfl, by (repeat' (first | with_reducible exact Below.refl _ _ | with_reducible exact Nat.le_refl _ | with_reducible assumption | with_reducible refine below_drewN ?_ _ | with_reducible refine Below.drew ?_ | with_reducible refine Below.alloc ?_ ?_ _ | with_reducible refine Below.setCell ?_ ?_ _ | with_reducible refine le_alloc ?_ _ | with_reducible refine le_setCell ?_ _ _ | with_reducible refine le_drewN ?_ _ | with_reducible refine Below.trans ?_ (Below.mono (by assumption) ?_) | with_reducible refine Nat.le_trans ?_ (Below.size (by assumption)) | exact Nat.le_refl _ | (simp; omega)))⟩
  · by_cases c1 : k < -4294967296
    · have e1 := Lib.hid (show scE true k = 3 from if_pos (Or.inl c1))
      have e2 := Lib.hid (show scV true n d k = 0 from if_pos (Or.inl c1))
      go_enter Tryd.func27, Tryd.ntmps27
      go_wp2_with (go_at_call 12; refine (valid_any _ _ _ hn0 hn1 hd0 hd1).mono ?_; rintro e wa ⟨rfl, ba⟩; obtain ⟨a0, a1, asz⟩ := one2 ba)
      go_returns
      exact ⟨by rw [e1.out, e2.out]; rfl, by (repeat' (first | with_reducible exact Below.refl _ _ | with_reducible exact Nat.le_refl _ | with_reducible assumption | with_reducible refine below_drewN ?_ _ | with_reducible refine Below.drew ?_ | with_reducible refine Below.alloc ?_ ?_ _ | with_reducible refine Below.setCell ?_ ?_ _ | with_reducible refine le_alloc ?_ _ | with_reducible refine le_setCell ?_ _ _ | with_reducible refine le_drewN ?_ _ | with_reducible refine Below.trans ?_ (Below.mono (by assumption) ?_) | with_reducible refine Nat.le_trans ?_ (Below.size (by assumption)) | exact Nat.le_refl _ | (simp; omega)))⟩
    · by_cases c2 : 4294967296 < k
      · have e1 := Lib.hid (show scE true k = 3 from if_pos (Or.inr c2))
        have e2 := Lib.hid (show scV true n d k = 0 from if_pos (Or.inr c2))
        go_enter Tryd.func27, Tryd.ntmps27
        go_wp2_with (go_at_call 12; refine (valid_any _ _ _ hn0 hn1 hd0 hd1).mono ?_; rintro e wa ⟨rfl, ba⟩; obtain ⟨a0, a1, asz⟩ := one2 ba)
        go_returns
        exact ⟨by rw [e1.out, e2.out]; rfl, by (repeat' (first | with_reducible exact Below.refl _ _ | with_reducible exact Nat.le_refl _ | with_reducible assumption | with_reducible refine below_drewN ?_ _ | with_reducible refine Below.drew ?_ | with_reducible refine Below.alloc ?_ ?_ _ | with_reducible refine Below.setCell ?_ ?_ _ | with_reducible refine le_alloc ?_ _ | with_reducible refine le_setCell ?_ _ _ | with_reducible refine le_drewN ?_ _ | with_reducible refine Below.trans ?_ (Below.mono (by assumption) ?_) | with_reducible refine Nat.le_trans ?_ (Below.size (by assumption)) | exact Nat.le_refl _ | (simp; omega)))⟩
      · have e1 := Lib.hid (show scE true k = 0 from if_neg (by omega))
        have e2 := Lib.hid (show scV true n d k = n * k / d from if_neg (by omega))
        obtain ⟨p1, p2, p3, p4⟩ := valid_bd v1
        obtain ⟨m1, m2⟩ := scale_bd p3 p4 (by omega) (show k ≤ 4294967296 by omega)
        have m4 : d ≤ 9223372036854775807 := by omega
        go_enter Tryd.func27, Tryd.ntmps27
        go_wp2_with (first | (go_at_call 12; refine (valid_any _ _ _ hn0 hn1 hd0 hd1).mono ?_; rintro e wa ⟨rfl, ba⟩; obtain ⟨a0, a1, asz⟩ := one2 ba) | (go_at_call 45; refine (floor_any _ _ _ m1 m2 p1 m4).mono ?_; rintro e w' ⟨rfl, rfl⟩))
        go_returns
        exact ⟨by rw [e1.out, e2.out]; rfl, by (repeat' (first | with_reducible exact Below.refl _ _ | with_reducible exact Nat.le_refl _ | with_reducible assumption | with_reducible refine below_drewN ?_ _ | with_reducible refine Below.drew ?_ | with_reducible refine Below.alloc ?_ ?_ _ | with_reducible refine Below.setCell ?_ ?_ _ | with_reducible refine le_alloc ?_ _ | with_reducible refine le_setCell ?_ _ _ | with_reducible refine le_drewN ?_ _ | with_reducible refine Below.trans ?_ (Below.mono (by assumption) ?_) | with_reducible refine Nat.le_trans ?_ (Below.size (by assumption)) | exact Nat.le_refl _ | (simp; omega)))⟩

set_option maxHeartbeats 1000000 in
theorem rfloor_any (a b : Int) (w : World) (h0 : -9223372036854775807 ≤ a) (h1 : a ≤ 9223372036854775807) (hb0 : 1 ≤ b) (hb1 : b ≤ 9223372036854775807) :
    Calls Tryd.prog 46 #[.int .i64 a, .int .i64 b] w fun e w' => e = .returned (.int .i64 (a / b)) ∧ w' = w := by
  by_cases hn : 0 ≤ a
  · have hr : 0 ≤ a % b := Int.emod_nonneg a (by omega)
    go_enter Tryd.func46, Tryd.ntmps46
    go_wp2_with fail
    go_returns
    exact ⟨rfl, rfl⟩
  · have hg := fl_ge (a := a) (b := b) (by omega) hb0
    have hl : a / b < 0 := Int.ediv_neg_of_neg_of_pos (by omega) (by omega)
    by_cases hr : a.tmod b < 0
    · have he := Lib.hid (fl_neg (a := a) (b := b) (by omega) hb0 hr)
      have k1 : -9223372036854775808 ≤ a.tdiv b - 1 := by rw [he.out]; omega
      have k2 : a.tdiv b - 1 ≤ 9223372036854775807 := by rw [he.out]; omega
      go_enter Tryd.func46, Tryd.ntmps46
      go_wp2_with fail
      go_returns
      exact ⟨ret_int he.out, rfl⟩
    · have he := Lib.hid (fl_exact (a := a) (b := b) (by omega) hb0 (by omega))
      go_enter Tryd.func46, Tryd.ntmps46
      go_wp2_with fail
      go_returns
      exact ⟨ret_int he.out, rfl⟩

set_option maxHeartbeats 1000000 in
theorem rfl_any (n d : Int) (w : World) (hn0 : -9223372036854775808 ≤ n) (hn1 : n ≤ 9223372036854775807) (hd0 : -9223372036854775808 ≤ d) (hd1 : d ≤ 9223372036854775807) :
    Calls Tryd.prog 32 #[.agg #[.int .i64 n, .int .i64 d]] w fun e w' => e = .returned (.int .i64 (okI (validB n d) (n / d))) ∧ Below w.heap.size w w' := by
  cases v1 : validB n d
  · go_enter Tryd.func32, Tryd.ntmps32
    go_wp2_with (go_at_call 13; refine (rvalid_any _ _ _ hn0 hn1 hd0 hd1).mono ?_; rintro e wa ⟨rfl, ba⟩; obtain ⟨a0, a1, asz⟩ := one2 ba)
    go_returns
    exact ⟨rfl, by (repeat' (first | with_reducible exact Below.refl _ _ | with_reducible exact Nat.le_refl _ | with_reducible assumption | with_reducible refine below_drewN ?_ _ | with_reducible refine Below.drew ?_ | with_reducible refine Below.alloc ?_ ?_ _ | with_reducible refine Below.setCell ?_ ?_ _ | with_reducible refine le_alloc ?_ _ | with_reducible refine le_setCell ?_ _ _ | with_reducible refine le_drewN ?_ _ | with_reducible refine Below.trans ?_ (Below.mono (by assumption) ?_) | with_reducible refine Nat.le_trans ?_ (Below.size (by assumption)) | exact Nat.le_refl _ | (simp; omega)))⟩
  · obtain ⟨p1, p2, p3, p4⟩ := valid_bd v1
    have m1 : -9223372036854775807 ≤ n := by omega
    have m2 : n ≤ 9223372036854775807 := by omega
    have m3 : 1 ≤ d := by omega
    have m4 : d ≤ 9223372036854775807 := by omega
    go_enter Tryd.func32, Tryd.ntmps32
    go_wp2_with (first | (go_at_call 13; refine (rvalid_any _ _ _ hn0 hn1 hd0 hd1).mono ?_; rintro e wa ⟨rfl, ba⟩; obtain ⟨a0, a1, asz⟩ := one2 ba) | (go_at_call 46; refine (rfloor_any _ _ _ m1 m2 m3 m4).mono ?_; rintro e w' ⟨rfl, rfl⟩))
    go_returns
    exact ⟨rfl, by (repeat' (first | with_reducible exact Below.refl _ _ | with_reducible exact Nat.le_refl _ | with_reducible assumption | with_reducible refine below_drewN ?_ _ | with_reducible refine Below.drew ?_ | with_reducible refine Below.alloc ?_ ?_ _ | with_reducible refine Below.setCell ?_ ?_ _ | with_reducible refine le_alloc ?_ _ | with_reducible refine le_setCell ?_ _ _ | with_reducible refine le_drewN ?_ _ | with_reducible refine Below.trans ?_ (Below.mono (by assumption) ?_) | with_reducible refine Nat.le_trans ?_ (Below.size (by assumption)) | exact Nat.le_refl _ | (simp; omega)))⟩

set_option maxHeartbeats 1000000 in
theorem rrd_any (n d : Int) (w : World) (hn0 : -9223372036854775808 ≤ n) (hn1 : n ≤ 9223372036854775807) (hd0 : -9223372036854775808 ≤ d) (hd1 : d ≤ 9223372036854775807) :
    Calls Tryd.prog 34 #[.agg #[.int .i64 n, .int .i64 d]] w fun e w' => e = .returned (.int .i64 (okI (validB n d) ((2 * n + d) / (2 * d)))) ∧ Below w.heap.size w w' := by
  cases v1 : validB n d
  · go_enter Tryd.func34, Tryd.ntmps34
    go_wp2_with (go_at_call 13; refine (rvalid_any _ _ _ hn0 hn1 hd0 hd1).mono ?_; rintro e wa ⟨rfl, ba⟩; obtain ⟨a0, a1, asz⟩ := one2 ba)
    go_returns
    exact ⟨rfl, by (repeat' (first | with_reducible exact Below.refl _ _ | with_reducible exact Nat.le_refl _ | with_reducible assumption | with_reducible refine below_drewN ?_ _ | with_reducible refine Below.drew ?_ | with_reducible refine Below.alloc ?_ ?_ _ | with_reducible refine Below.setCell ?_ ?_ _ | with_reducible refine le_alloc ?_ _ | with_reducible refine le_setCell ?_ _ _ | with_reducible refine le_drewN ?_ _ | with_reducible refine Below.trans ?_ (Below.mono (by assumption) ?_) | with_reducible refine Nat.le_trans ?_ (Below.size (by assumption)) | exact Nat.le_refl _ | (simp; omega)))⟩
  · obtain ⟨p1, p2, p3, p4⟩ := valid_bd v1
    have m1 : -9223372036854775807 ≤ (2 * n + d) := by omega
    have m2 : (2 * n + d) ≤ 9223372036854775807 := by omega
    have m3 : 1 ≤ (2 * d) := by omega
    have m4 : (2 * d) ≤ 9223372036854775807 := by omega
    go_enter Tryd.func34, Tryd.ntmps34
    go_wp2_with (first | (go_at_call 13; refine (rvalid_any _ _ _ hn0 hn1 hd0 hd1).mono ?_; rintro e wa ⟨rfl, ba⟩; obtain ⟨a0, a1, asz⟩ := one2 ba) | (go_at_call 46; refine (rfloor_any _ _ _ m1 m2 m3 m4).mono ?_; rintro e w' ⟨rfl, rfl⟩))
    go_returns
    exact ⟨rfl, by (repeat' (first | with_reducible exact Below.refl _ _ | with_reducible exact Nat.le_refl _ | with_reducible assumption | with_reducible refine below_drewN ?_ _ | with_reducible refine Below.drew ?_ | with_reducible refine Below.alloc ?_ ?_ _ | with_reducible refine Below.setCell ?_ ?_ _ | with_reducible refine le_alloc ?_ _ | with_reducible refine le_setCell ?_ _ _ | with_reducible refine le_drewN ?_ _ | with_reducible refine Below.trans ?_ (Below.mono (by assumption) ?_) | with_reducible refine Nat.le_trans ?_ (Below.size (by assumption)) | exact Nat.le_refl _ | (simp; omega)))⟩

set_option maxHeartbeats 2000000 in
theorem rsc_any (n d k : Int) (w : World) (hn0 : -9223372036854775808 ≤ n) (hn1 : n ≤ 9223372036854775807) (hd0 : -9223372036854775808 ≤ d) (hd1 : d ≤ 9223372036854775807) (hk0 : -9223372036854775808 ≤ k) (hk1 : k ≤ 9223372036854775807) :
    Calls Tryd.prog 28 #[.agg #[.int .i64 n, .int .i64 d], .int .i64 k] w fun e w' => e = .returned (.tuple #[.int .i64 (scV (validB n d) n d k), .int .i64 (scE (validB n d) k)]) ∧ Below w.heap.size w w' := by
  cases v1 : validB n d
  · go_enter Tryd.func28, Tryd.ntmps28
    go_wp2_with (go_at_call 13; refine (rvalid_any _ _ _ hn0 hn1 hd0 hd1).mono ?_; rintro e wa ⟨rfl, ba⟩; obtain ⟨a0, a1, asz⟩ := one2 ba)
    go_returns
    exact ⟨rfl, by (repeat' (first | with_reducible exact Below.refl _ _ | with_reducible exact Nat.le_refl _ | with_reducible assumption | with_reducible refine below_drewN ?_ _ | with_reducible refine Below.drew ?_ | with_reducible refine Below.alloc ?_ ?_ _ | with_reducible refine Below.setCell ?_ ?_ _ | with_reducible refine le_alloc ?_ _ | with_reducible refine le_setCell ?_ _ _ | with_reducible refine le_drewN ?_ _ | with_reducible refine Below.trans ?_ (Below.mono (by assumption) ?_) | with_reducible refine Nat.le_trans ?_ (Below.size (by assumption)) | exact Nat.le_refl _ | (simp; omega)))⟩
  · by_cases c1 : k < -4294967296
    · have e1 := Lib.hid (show scE true k = 3 from if_pos (Or.inl c1))
      have e2 := Lib.hid (show scV true n d k = 0 from if_pos (Or.inl c1))
      go_enter Tryd.func28, Tryd.ntmps28
      go_wp2_with (go_at_call 13; refine (rvalid_any _ _ _ hn0 hn1 hd0 hd1).mono ?_; rintro e wa ⟨rfl, ba⟩; obtain ⟨a0, a1, asz⟩ := one2 ba)
      go_returns
      exact ⟨by rw [e1.out, e2.out]; rfl, by (repeat' (first | with_reducible exact Below.refl _ _ | with_reducible exact Nat.le_refl _ | with_reducible assumption | with_reducible refine below_drewN ?_ _ | with_reducible refine Below.drew ?_ | with_reducible refine Below.alloc ?_ ?_ _ | with_reducible refine Below.setCell ?_ ?_ _ | with_reducible refine le_alloc ?_ _ | with_reducible refine le_setCell ?_ _ _ | with_reducible refine le_drewN ?_ _ | with_reducible refine Below.trans ?_ (Below.mono (by assumption) ?_) | with_reducible refine Nat.le_trans ?_ (Below.size (by assumption)) | exact Nat.le_refl _ | (simp; omega)))⟩
    · by_cases c2 : 4294967296 < k
      · have e1 := Lib.hid (show scE true k = 3 from if_pos (Or.inr c2))
        have e2 := Lib.hid (show scV true n d k = 0 from if_pos (Or.inr c2))
        go_enter Tryd.func28, Tryd.ntmps28
        go_wp2_with (go_at_call 13; refine (rvalid_any _ _ _ hn0 hn1 hd0 hd1).mono ?_; rintro e wa ⟨rfl, ba⟩; obtain ⟨a0, a1, asz⟩ := one2 ba)
        go_returns
        exact ⟨by rw [e1.out, e2.out]; rfl, by (repeat' (first | with_reducible exact Below.refl _ _ | with_reducible exact Nat.le_refl _ | with_reducible assumption | with_reducible refine below_drewN ?_ _ | with_reducible refine Below.drew ?_ | with_reducible refine Below.alloc ?_ ?_ _ | with_reducible refine Below.setCell ?_ ?_ _ | with_reducible refine le_alloc ?_ _ | with_reducible refine le_setCell ?_ _ _ | with_reducible refine le_drewN ?_ _ | with_reducible refine Below.trans ?_ (Below.mono (by assumption) ?_) | with_reducible refine Nat.le_trans ?_ (Below.size (by assumption)) | exact Nat.le_refl _ | (simp; omega)))⟩
      · have e1 := Lib.hid (show scE true k = 0 from if_neg (by omega))
        have e2 := Lib.hid (show scV true n d k = n * k / d from if_neg (by omega))
        obtain ⟨p1, p2, p3, p4⟩ := valid_bd v1
        obtain ⟨m1, m2⟩ := scale_bd p3 p4 (by omega) (show k ≤ 4294967296 by omega)
        have m4 : d ≤ 9223372036854775807 := by omega
        go_enter Tryd.func28, Tryd.ntmps28
        go_wp2_with (first | (go_at_call 13; refine (rvalid_any _ _ _ hn0 hn1 hd0 hd1).mono ?_; rintro e wa ⟨rfl, ba⟩; obtain ⟨a0, a1, asz⟩ := one2 ba) | (go_at_call 46; refine (rfloor_any _ _ _ m1 m2 p1 m4).mono ?_; rintro e w' ⟨rfl, rfl⟩))
        go_returns
        exact ⟨by rw [e1.out, e2.out]; rfl, by (repeat' (first | with_reducible exact Below.refl _ _ | with_reducible exact Nat.le_refl _ | with_reducible assumption | with_reducible refine below_drewN ?_ _ | with_reducible refine Below.drew ?_ | with_reducible refine Below.alloc ?_ ?_ _ | with_reducible refine Below.setCell ?_ ?_ _ | with_reducible refine le_alloc ?_ _ | with_reducible refine le_setCell ?_ _ _ | with_reducible refine le_drewN ?_ _ | with_reducible refine Below.trans ?_ (Below.mono (by assumption) ?_) | with_reducible refine Nat.le_trans ?_ (Below.size (by assumption)) | exact Nat.le_refl _ | (simp; omega)))⟩

end Go.Proofs.YtlbepbddhnmmjaaDoor
