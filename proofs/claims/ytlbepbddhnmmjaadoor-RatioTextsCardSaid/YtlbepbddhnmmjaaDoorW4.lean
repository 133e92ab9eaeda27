/-
  The walks of Add, Sub, Mul, Div, of package ratio and of its specification.
-/
import Derived.Test.YtlbepbddhnmmjaaDoorW3
namespace Go.Proofs.YtlbepbddhnmmjaaDoor
open Go.RowKit

theorem bcell {W w1 : World} (hb : Below W.heap.size W w1) : (∀ b o, b < W.heap.size → w1.cell? ⟨b, o, none⟩ = W.cell? ⟨b, o, none⟩) ∧ (∀ b o, b < W.heap.size → w1.frozen? ⟨b, o, none⟩ = W.frozen? ⟨b, o, none⟩) :=
  ⟨fun b o h => hb.cell (p := ⟨b, o, none⟩) h, fun b o h => hb.frozen (p := ⟨b, o, none⟩) h⟩

/-- Behind calls that only make memory: three blocks of two cells, as they were laid. -/
theorem three {w wa : World} {x0 x1 y0 y1 z0 z1 : Value} {T : TypeId}
    (h : Below (((w.alloc (.cells #[x0, x1] T)).alloc (.cells #[y0, y1] T)).alloc (.cells #[z0, z1] T)).heap.size (((w.alloc (.cells #[x0, x1] T)).alloc (.cells #[y0, y1] T)).alloc (.cells #[z0, z1] T)) wa) :
    (wa.cell? ⟨w.heap.size, 0, none⟩ = some x0 ∧ wa.cell? ⟨w.heap.size, 1, none⟩ = some x1) ∧ (wa.cell? ⟨w.heap.size + 1, 0, none⟩ = some y0 ∧ wa.cell? ⟨w.heap.size + 1, 1, none⟩ = some y1) ∧
    (wa.cell? ⟨w.heap.size + 1 + 1, 0, none⟩ = some z0 ∧ wa.cell? ⟨w.heap.size + 1 + 1, 1, none⟩ = some z1) ∧ (wa.frozen? ⟨w.heap.size + 1 + 1, 0, none⟩ = false ∧ wa.frozen? ⟨w.heap.size + 1 + 1, 1, none⟩ = false) ∧ w.heap.size + 1 + 1 < wa.heap.size := by
  have hs := h.size
  simp only [World.size_alloc] at hs
  refine ⟨⟨?_, ?_⟩, ⟨?_, ?_⟩, ⟨?_, ?_⟩, ⟨?_, ?_⟩, by omega⟩
  all_goals first
    | (refine (h.cell (by simp only [World.size_alloc]; omega)).trans ?_; go_simp)
    | (refine (h.frozen (by simp only [World.size_alloc]; omega)).trans ?_; go_simp)

/-- A result of two cells, stored behind calls. -/
theorem two_set {wa : World} {b : Nat} {u0 u1 v0 v1 : Value} (h0 : wa.cell? ⟨b, 0, none⟩ = some u0) (h1 : wa.cell? ⟨b, 1, none⟩ = some u1) :
    ((wa.setCell ⟨b, 0, none⟩ v0).setCell ⟨b, 1, none⟩ v1).cell? ⟨b, 0, none⟩ = some v0 ∧ ((wa.setCell ⟨b, 0, none⟩ v0).setCell ⟨b, 1, none⟩ v1).cell? ⟨b, 1, none⟩ = some v1 := by
  constructor
  · rw [World.cell?_setCell_other _ _ _ _ (by simp)]; exact World.cell?_setCell_same _ _ _ h0
  · exact World.cell?_setCell_same _ _ _ (by rw [World.cell?_setCell_other _ _ _ _ (by simp)]; exact h1)

set_option maxHeartbeats 2000000 in
theorem add_bad (a1 a2 b1 b2 : Int) (w : World) (ha10 : -9223372036854775808 ≤ a1) (ha11 : a1 ≤ 9223372036854775807) (ha20 : -9223372036854775808 ≤ a2) (ha21 : a2 ≤ 9223372036854775807) (hb10 : -9223372036854775808 ≤ b1) (hb11 : b1 ≤ 9223372036854775807) (hb20 : -9223372036854775808 ≤ b2) (hb21 : b2 ≤ 9223372036854775807) (hv : validB a1 a2 = false ∨ validB a1 a2 = true ∧ validB b1 b2 = false) :
    Calls Tryd.prog 19 #[.agg #[.int .i64 a1, .int .i64 a2], .agg #[.int .i64 b1, .int .i64 b2]] w fun e w' => e = .returned (.tuple #[.agg #[.int .i64 0, .int .i64 0], .int .i64 1]) ∧ Below w.heap.size w w' := by
  rcases hv with v1 | ⟨v1, v2⟩
  · go_enter Tryd.func19, Tryd.ntmps19
    go_wp2_with (first | (go_at_call_of 12 (Value.int .i64 a1); refine (valid_any _ _ _ ha10 ha11 ha20 ha21).mono ?_; rintro e wa ⟨rfl, ba⟩; obtain ⟨⟨a00, a01⟩, ⟨a10, a11⟩, ⟨a20, a21⟩, ⟨af0, af1⟩, asz⟩ := three ba) | (go_at_call_of 12 (Value.int .i64 b1); refine (valid_any _ _ _ hb10 hb11 hb20 hb21).mono ?_; rintro e wb ⟨rfl, bb⟩; have bb' := ba.trans (bb.mono ba.size); obtain ⟨⟨b00, b01⟩, ⟨b10, b11⟩, ⟨b20, b21⟩, ⟨bf0, bf1⟩, bsz⟩ := three bb'))
    refine bodyPost_ret (v := .tuple #[.agg #[.int .i64 0, .int .i64 0], .int .i64 1]) (by simp [results, Tryd.results19, go_sem, (two_set a20 a21).1, (two_set a20 a21).2]) rfl ⟨rfl, by (repeat' (first | with_reducible exact Below.refl _ _ | with_reducible exact Nat.le_refl _ | with_reducible assumption | with_reducible refine below_drewN ?_ _ | with_reducible refine Below.drew ?_ | with_reducible refine Below.alloc ?_ ?_ _ | with_reducible refine Below.setCell ?_ ?_ _ | with_reducible refine le_alloc ?_ _ | with_reducible refine le_setCell ?_ _ _ | with_reducible refine le_drewN ?_ _ | with_reducible refine Below.trans ?_ (Below.mono (by assumption) ?_) | with_reducible refine Nat.le_trans ?_ (Below.size (by assumption)) | exact Nat.le_refl _ | (simp; omega)))⟩
  · go_enter Tryd.func19, Tryd.ntmps19
    go_wp2_with (first | (go_at_call_of 12 (Value.int .i64 a1); refine (valid_any _ _ _ ha10 ha11 ha20 ha21).mono ?_; rintro e wa ⟨rfl, ba⟩; obtain ⟨⟨a00, a01⟩, ⟨a10, a11⟩, ⟨a20, a21⟩, ⟨af0, af1⟩, asz⟩ := three ba) | (go_at_call_of 12 (Value.int .i64 b1); refine (valid_any _ _ _ hb10 hb11 hb20 hb21).mono ?_; rintro e wb ⟨rfl, bb⟩; have bb' := ba.trans (bb.mono ba.size); obtain ⟨⟨b00, b01⟩, ⟨b10, b11⟩, ⟨b20, b21⟩, ⟨bf0, bf1⟩, bsz⟩ := three bb'))
    refine bodyPost_ret (v := .tuple #[.agg #[.int .i64 0, .int .i64 0], .int .i64 1]) (by simp [results, Tryd.results19, go_sem, (two_set b20 b21).1, (two_set b20 b21).2]) rfl ⟨rfl, by (repeat' (first | with_reducible exact Below.refl _ _ | with_reducible exact Nat.le_refl _ | with_reducible assumption | with_reducible refine below_drewN ?_ _ | with_reducible refine Below.drew ?_ | with_reducible refine Below.alloc ?_ ?_ _ | with_reducible refine Below.setCell ?_ ?_ _ | with_reducible refine le_alloc ?_ _ | with_reducible refine le_setCell ?_ _ _ | with_reducible refine le_drewN ?_ _ | with_reducible refine Below.trans ?_ (Below.mono (by assumption) ?_) | with_reducible refine Nat.le_trans ?_ (Below.size (by assumption)) | exact Nat.le_refl _ | (simp; omega)))⟩

set_option maxHeartbeats 4000000 in
theorem add_good (a1 a2 b1 b2 : Int) (w : World) (ha10 : -9223372036854775808 ≤ a1) (ha11 : a1 ≤ 9223372036854775807) (ha20 : -9223372036854775808 ≤ a2) (ha21 : a2 ≤ 9223372036854775807) (hb10 : -9223372036854775808 ≤ b1) (hb11 : b1 ≤ 9223372036854775807) (hb20 : -9223372036854775808 ≤ b2) (hb21 : b2 ≤ 9223372036854775807) (v1 : validB a1 a2 = true) (v2 : validB b1 b2 = true) :
    Calls Tryd.prog 19 #[.agg #[.int .i64 a1, .int .i64 a2], .agg #[.int .i64 b1, .int .i64 b2]] w fun e w' => e = .returned (.tuple #[.agg #[.int .i64 (mkN (a1 * b2 + b1 * a2) (a2 * b2)), .int .i64 (mkD (a1 * b2 + b1 * a2) (a2 * b2))], .int .i64 (mkE (a1 * b2 + b1 * a2) (a2 * b2))]) ∧ Below w.heap.size w w' := by
  obtain ⟨p1, p2, p3, p4⟩ := valid_bd v1
  obtain ⟨q1, q2, q3, q4⟩ := valid_bd v2
  obtain ⟨m0, m0'⟩ := mul_bd (x := a1) (y := b2) (by omega) (by omega) (by omega) (by omega)
  obtain ⟨m1, m1'⟩ := mul_bd (x := b1) (y := a2) (by omega) (by omega) (by omega) (by omega)
  obtain ⟨m2, m2'⟩ := mul_bd (x := a2) (y := b2) (by omega) (by omega) (by omega) (by omega)
  have hN0 : -9223372036854775808 ≤ (a1 * b2 + b1 * a2) := by omega
  have hN1 : (a1 * b2 + b1 * a2) ≤ 9223372036854775807 := by omega
  have hD0 : -9223372036854775808 ≤ (a2 * b2) := by omega
  have hD1 : (a2 * b2) ≤ 9223372036854775807 := by omega
  go_enter Tryd.func19, Tryd.ntmps19
  go_wp2_with (first | (go_at_call_of 12 (Value.int .i64 a1); refine (valid_any _ _ _ ha10 ha11 ha20 ha21).mono ?_; rintro e wa ⟨rfl, ba⟩; obtain ⟨⟨a00, a01⟩, ⟨a10, a11⟩, ⟨a20, a21⟩, ⟨af0, af1⟩, asz⟩ := three ba) | (go_at_call_of 12 (Value.int .i64 b1); refine (valid_any _ _ _ hb10 hb11 hb20 hb21).mono ?_; rintro e wb ⟨rfl, bb⟩; have bb' := ba.trans (bb.mono ba.size); obtain ⟨⟨b00, b01⟩, ⟨b10, b11⟩, ⟨b20, b21⟩, ⟨bf0, bf1⟩, bsz⟩ := three bb') | (go_at_call 17; refine (make_any _ _ _ hN0 hN1 hD0 hD1).mono ?_; rintro e wc ⟨rfl, bc⟩; have bc' := bb'.trans (bc.mono bb'.size); obtain ⟨⟨c00, c01⟩, ⟨c10, c11⟩, ⟨c20, c21⟩, ⟨cf0, cf1⟩, csz⟩ := three bc'))
  refine bodyPost_ret (v := .tuple #[.agg #[.int .i64 (mkN (a1 * b2 + b1 * a2) (a2 * b2)), .int .i64 (mkD (a1 * b2 + b1 * a2) (a2 * b2))], .int .i64 (mkE (a1 * b2 + b1 * a2) (a2 * b2))]) (by simp [results, Tryd.results19, go_sem, (two_set c20 c21).1, (two_set c20 c21).2]) rfl ⟨rfl, by (repeat' (first | with_reducible exact Below.refl _ _ | with_reducible exact Nat.le_refl _ | with_reducible assumption | with_reducible refine below_drewN ?_ _ | with_reducible refine Below.drew ?_ | with_reducible refine Below.alloc ?_ ?_ _ | with_reducible refine Below.setCell ?_ ?_ _ | with_reducible refine le_alloc ?_ _ | with_reducible refine le_setCell ?_ _ _ | with_reducible refine le_drewN ?_ _ | with_reducible refine Below.trans ?_ (Below.mono (by assumption) ?_) | with_reducible refine Nat.le_trans ?_ (Below.size (by assumption)) | exact Nat.le_refl _ | (simp; omega)))⟩

theorem add_any (a1 a2 b1 b2 : Int) (w : World) (ha10 : -9223372036854775808 ≤ a1) (ha11 : a1 ≤ 9223372036854775807) (ha20 : -9223372036854775808 ≤ a2) (ha21 : a2 ≤ 9223372036854775807) (hb10 : -9223372036854775808 ≤ b1) (hb11 : b1 ≤ 9223372036854775807) (hb20 : -9223372036854775808 ≤ b2) (hb21 : b2 ≤ 9223372036854775807) :
    Calls Tryd.prog 19 #[.agg #[.int .i64 a1, .int .i64 a2], .agg #[.int .i64 b1, .int .i64 b2]] w fun e w' => e = .returned (.tuple #[.agg #[.int .i64 (arN (validB a1 a2 && validB b1 b2) (a1 * b2 + b1 * a2) (a2 * b2)), .int .i64 (arD (validB a1 a2 && validB b1 b2) (a1 * b2 + b1 * a2) (a2 * b2))], .int .i64 (arE (validB a1 a2 && validB b1 b2) (a1 * b2 + b1 * a2) (a2 * b2))]) ∧ Below w.heap.size w w' := by
  cases v1 : validB a1 a2
  · exact (add_bad a1 a2 b1 b2 w ha10 ha11 ha20 ha21 hb10 hb11 hb20 hb21 (Or.inl v1))
  · cases v2 : validB b1 b2
    · exact (add_bad a1 a2 b1 b2 w ha10 ha11 ha20 ha21 hb10 hb11 hb20 hb21 (Or.inr ⟨v1, v2⟩))
    · exact (add_good a1 a2 b1 b2 w ha10 ha11 ha20 ha21 hb10 hb11 hb20 hb21 v1 v2)

set_option maxHeartbeats 2000000 in
theorem sub_bad (a1 a2 b1 b2 : Int) (w : World) (ha10 : -9223372036854775808 ≤ a1) (ha11 : a1 ≤ 9223372036854775807) (ha20 : -9223372036854775808 ≤ a2) (ha21 : a2 ≤ 9223372036854775807) (hb10 : -9223372036854775808 ≤ b1) (hb11 : b1 ≤ 9223372036854775807) (hb20 : -9223372036854775808 ≤ b2) (hb21 : b2 ≤ 9223372036854775807) (hv : validB a1 a2 = false ∨ validB a1 a2 = true ∧ validB b1 b2 = false) :
    Calls Tryd.prog 21 #[.agg #[.int .i64 a1, .int .i64 a2], .agg #[.int .i64 b1, .int .i64 b2]] w fun e w' => e = .returned (.tuple #[.agg #[.int .i64 0, .int .i64 0], .int .i64 1]) ∧ Below w.heap.size w w' := by
  rcases hv with v1 | ⟨v1, v2⟩
  · go_enter Tryd.func21, Tryd.ntmps21
    go_wp2_with (first | (go_at_call_of 12 (Value.int .i64 a1); refine (valid_any _ _ _ ha10 ha11 ha20 ha21).mono ?_; rintro e wa ⟨rfl, ba⟩; obtain ⟨⟨a00, a01⟩, ⟨a10, a11⟩, ⟨a20, a21⟩, ⟨af0, af1⟩, asz⟩ := three ba) | (go_at_call_of 12 (Value.int .i64 b1); refine (valid_any _ _ _ hb10 hb11 hb20 hb21).mono ?_; rintro e wb ⟨rfl, bb⟩; have bb' := ba.trans (bb.mono ba.size); obtain ⟨⟨b00, b01⟩, ⟨b10, b11⟩, ⟨b20, b21⟩, ⟨bf0, bf1⟩, bsz⟩ := three bb'))
    refine bodyPost_ret (v := .tuple #[.agg #[.int .i64 0, .int .i64 0], .int .i64 1]) (by simp [results, Tryd.results21, go_sem, (two_set a20 a21).1, (two_set a20 a21).2]) rfl ⟨rfl, by (repeat' (first | with_reducible exact Below.refl _ _ | with_reducible exact Nat.le_refl _ | with_reducible assumption | with_reducible refine below_drewN ?_ _ | with_reducible refine Below.drew ?_ | with_reducible refine Below.alloc ?_ ?_ _ | with_reducible refine Below.setCell ?_ ?_ _ | with_reducible refine le_alloc ?_ _ | with_reducible refine le_setCell ?_ _ _ | with_reducible refine le_drewN ?_ _ | with_reducible refine Below.trans ?_ (Below.mono (by assumption) ?_) | with_reducible refine Nat.le_trans ?_ (Below.size (by assumption)) | exact Nat.le_refl _ | (simp; omega)))⟩
  · go_enter Tryd.func21, Tryd.ntmps21
    go_wp2_with (first | (go_at_call_of 12 (Value.int .i64 a1); refine (valid_any _ _ _ ha10 ha11 ha20 ha21).mono ?_; rintro e wa ⟨rfl, ba⟩; obtain ⟨⟨a00, a01⟩, ⟨a10, a11⟩, ⟨a20, a21⟩, ⟨af0, af1⟩, asz⟩ := three ba) | (go_at_call_of 12 (Value.int .i64 b1); refine (valid_any _ _ _ hb10 hb11 hb20 hb21).mono ?_; rintro e wb ⟨rfl, bb⟩; have bb' := ba.trans (bb.mono ba.size); obtain ⟨⟨b00, b01⟩, ⟨b10, b11⟩, ⟨b20, b21⟩, ⟨bf0, bf1⟩, bsz⟩ := three bb'))
    refine bodyPost_ret (v := .tuple #[.agg #[.int .i64 0, .int .i64 0], .int .i64 1]) (by simp [results, Tryd.results21, go_sem, (two_set b20 b21).1, (two_set b20 b21).2]) rfl ⟨rfl, by (repeat' (first | with_reducible exact Below.refl _ _ | with_reducible exact Nat.le_refl _ | with_reducible assumption | with_reducible refine below_drewN ?_ _ | with_reducible refine Below.drew ?_ | with_reducible refine Below.alloc ?_ ?_ _ | with_reducible refine Below.setCell ?_ ?_ _ | with_reducible refine le_alloc ?_ _ | with_reducible refine le_setCell ?_ _ _ | with_reducible refine le_drewN ?_ _ | with_reducible refine Below.trans ?_ (Below.mono (by assumption) ?_) | with_reducible refine Nat.le_trans ?_ (Below.size (by assumption)) | exact Nat.le_refl _ | (simp; omega)))⟩

set_option maxHeartbeats 4000000 in
theorem sub_good (a1 a2 b1 b2 : Int) (w : World) (ha10 : -9223372036854775808 ≤ a1) (ha11 : a1 ≤ 9223372036854775807) (ha20 : -9223372036854775808 ≤ a2) (ha21 : a2 ≤ 9223372036854775807) (hb10 : -9223372036854775808 ≤ b1) (hb11 : b1 ≤ 9223372036854775807) (hb20 : -9223372036854775808 ≤ b2) (hb21 : b2 ≤ 9223372036854775807) (v1 : validB a1 a2 = true) (v2 : validB b1 b2 = true) :
    Calls Tryd.prog 21 #[.agg #[.int .i64 a1, .int .i64 a2], .agg #[.int .i64 b1, .int .i64 b2]] w fun e w' => e = .returned (.tuple #[.agg #[.int .i64 (mkN (a1 * b2 - b1 * a2) (a2 * b2)), .int .i64 (mkD (a1 * b2 - b1 * a2) (a2 * b2))], .int .i64 (mkE (a1 * b2 - b1 * a2) (a2 * b2))]) ∧ Below w.heap.size w w' := by
  obtain ⟨p1, p2, p3, p4⟩ := valid_bd v1
  obtain ⟨q1, q2, q3, q4⟩ := valid_bd v2
  obtain ⟨m0, m0'⟩ := mul_bd (x := a1) (y := b2) (by omega) (by omega) (by omega) (by omega)
  obtain ⟨m1, m1'⟩ := mul_bd (x := b1) (y := a2) (by omega) (by omega) (by omega) (by omega)
  obtain ⟨m2, m2'⟩ := mul_bd (x := a2) (y := b2) (by omega) (by omega) (by omega) (by omega)
  have hN0 : -9223372036854775808 ≤ (a1 * b2 - b1 * a2) := by omega
  have hN1 : (a1 * b2 - b1 * a2) ≤ 9223372036854775807 := by omega
  have hD0 : -9223372036854775808 ≤ (a2 * b2) := by omega
  have hD1 : (a2 * b2) ≤ 9223372036854775807 := by omega
  go_enter Tryd.func21, Tryd.ntmps21
  go_wp2_with (first | (go_at_call_of 12 (Value.int .i64 a1); refine (valid_any _ _ _ ha10 ha11 ha20 ha21).mono ?_; rintro e wa ⟨rfl, ba⟩; obtain ⟨⟨a00, a01⟩, ⟨a10, a11⟩, ⟨a20, a21⟩, ⟨af0, af1⟩, asz⟩ := three ba) | (go_at_call_of 12 (Value.int .i64 b1); refine (valid_any _ _ _ hb10 hb11 hb20 hb21).mono ?_; rintro e wb ⟨rfl, bb⟩; have bb' := ba.trans (bb.mono ba.size); obtain ⟨⟨b00, b01⟩, ⟨b10, b11⟩, ⟨b20, b21⟩, ⟨bf0, bf1⟩, bsz⟩ := three bb') | (go_at_call 17; refine (make_any _ _ _ hN0 hN1 hD0 hD1).mono ?_; rintro e wc ⟨rfl, bc⟩; have bc' := bb'.trans (bc.mono bb'.size); obtain ⟨⟨c00, c01⟩, ⟨c10, c11⟩, ⟨c20, c21⟩, ⟨cf0, cf1⟩, csz⟩ := three bc'))
  refine bodyPost_ret (v := .tuple #[.agg #[.int .i64 (mkN (a1 * b2 - b1 * a2) (a2 * b2)), .int .i64 (mkD (a1 * b2 - b1 * a2) (a2 * b2))], .int .i64 (mkE (a1 * b2 - b1 * a2) (a2 * b2))]) (by simp [results, Tryd.results21, go_sem, (two_set c20 c21).1, (two_set c20 c21).2]) rfl ⟨rfl, by (repeat' (first | with_reducible exact Below.refl _ _ | with_reducible exact Nat.le_refl _ | with_reducible assumption | with_reducible refine below_drewN ?_ _ | with_reducible refine Below.drew ?_ | with_reducible refine Below.alloc ?_ ?_ _ | with_reducible refine Below.setCell ?_ ?_ _ | with_reducible refine le_alloc ?_ _ | with_reducible refine le_setCell ?_ _ _ | with_reducible refine le_drewN ?_ _ | with_reducible refine Below.trans ?_ (Below.mono (by assumption) ?_) | with_reducible refine Nat.le_trans ?_ (Below.size (by assumption)) | exact Nat.le_refl _ | (simp; omega)))⟩

theorem sub_any (a1 a2 b1 b2 : Int) (w : World) (ha10 : -9223372036854775808 ≤ a1) (ha11 : a1 ≤ 9223372036854775807) (ha20 : -9223372036854775808 ≤ a2) (ha21 : a2 ≤ 9223372036854775807) (hb10 : -9223372036854775808 ≤ b1) (hb11 : b1 ≤ 9223372036854775807) (hb20 : -9223372036854775808 ≤ b2) (hb21 : b2 ≤ 9223372036854775807) :
    Calls Tryd.prog 21 #[.agg #[.int .i64 a1, .int .i64 a2], .agg #[.int .i64 b1, .int .i64 b2]] w fun e w' => e = .returned (.tuple #[.agg #[.int .i64 (arN (validB a1 a2 && validB b1 b2) (a1 * b2 - b1 * a2) (a2 * b2)), .int .i64 (arD (validB a1 a2 && validB b1 b2) (a1 * b2 - b1 * a2) (a2 * b2))], .int .i64 (arE (validB a1 a2 && validB b1 b2) (a1 * b2 - b1 * a2) (a2 * b2))]) ∧ Below w.heap.size w w' := by
  cases v1 : validB a1 a2
  · exact (sub_bad a1 a2 b1 b2 w ha10 ha11 ha20 ha21 hb10 hb11 hb20 hb21 (Or.inl v1))
  · cases v2 : validB b1 b2
    · exact (sub_bad a1 a2 b1 b2 w ha10 ha11 ha20 ha21 hb10 hb11 hb20 hb21 (Or.inr ⟨v1, v2⟩))
    · exact (sub_good a1 a2 b1 b2 w ha10 ha11 ha20 ha21 hb10 hb11 hb20 hb21 v1 v2)

set_option maxHeartbeats 2000000 in
theorem mul_bad (a1 a2 b1 b2 : Int) (w : World) (ha10 : -9223372036854775808 ≤ a1) (ha11 : a1 ≤ 9223372036854775807) (ha20 : -9223372036854775808 ≤ a2) (ha21 : a2 ≤ 9223372036854775807) (hb10 : -9223372036854775808 ≤ b1) (hb11 : b1 ≤ 9223372036854775807) (hb20 : -9223372036854775808 ≤ b2) (hb21 : b2 ≤ 9223372036854775807) (hv : validB a1 a2 = false ∨ validB a1 a2 = true ∧ validB b1 b2 = false) :
    Calls Tryd.prog 23 #[.agg #[.int .i64 a1, .int .i64 a2], .agg #[.int .i64 b1, .int .i64 b2]] w fun e w' => e = .returned (.tuple #[.agg #[.int .i64 0, .int .i64 0], .int .i64 1]) ∧ Below w.heap.size w w' := by
  rcases hv with v1 | ⟨v1, v2⟩
  · go_enter Tryd.func23, Tryd.ntmps23
    go_wp2_with (first | (go_at_call_of 12 (Value.int .i64 a1); refine (valid_any _ _ _ ha10 ha11 ha20 ha21).mono ?_; rintro e wa ⟨rfl, ba⟩; obtain ⟨⟨a00, a01⟩, ⟨a10, a11⟩, ⟨a20, a21⟩, ⟨af0, af1⟩, asz⟩ := three ba) | (go_at_call_of 12 (Value.int .i64 b1); refine (valid_any _ _ _ hb10 hb11 hb20 hb21).mono ?_; rintro e wb ⟨rfl, bb⟩; have bb' := ba.trans (bb.mono ba.size); obtain ⟨⟨b00, b01⟩, ⟨b10, b11⟩, ⟨b20, b21⟩, ⟨bf0, bf1⟩, bsz⟩ := three bb'))
    refine bodyPost_ret (v := .tuple #[.agg #[.int .i64 0, .int .i64 0], .int .i64 1]) (by simp [results, Tryd.results23, go_sem, (two_set a20 a21).1, (two_set a20 a21).2]) rfl ⟨rfl, by (repeat' (first | with_reducible exact Below.refl _ _ | with_reducible exact Nat.le_refl _ | with_reducible assumption | with_reducible refine below_drewN ?_ _ | with_reducible refine Below.drew ?_ | with_reducible refine Below.alloc ?_ ?_ _ | with_reducible refine Below.setCell ?_ ?_ _ | with_reducible refine le_alloc ?_ _ | with_reducible refine le_setCell ?_ _ _ | with_reducible refine le_drewN ?_ _ | with_reducible refine Below.trans ?_ (Below.mono (by assumption) ?_) | with_reducible refine Nat.le_trans ?_ (Below.size (by assumption)) | exact Nat.le_refl _ | (simp; omega)))⟩
  · go_enter Tryd.func23, Tryd.ntmps23
    go_wp2_with (first | (go_at_call_of 12 (Value.int .i64 a1); refine (valid_any _ _ _ ha10 ha11 ha20 ha21).mono ?_; rintro e wa ⟨rfl, ba⟩; obtain ⟨⟨a00, a01⟩, ⟨a10, a11⟩, ⟨a20, a21⟩, ⟨af0, af1⟩, asz⟩ := three ba) | (go_at_call_of 12 (Value.int .i64 b1); refine (valid_any _ _ _ hb10 hb11 hb20 hb21).mono ?_; rintro e wb ⟨rfl, bb⟩; have bb' := ba.trans (bb.mono ba.size); obtain ⟨⟨b00, b01⟩, ⟨b10, b11⟩, ⟨b20, b21⟩, ⟨bf0, bf1⟩, bsz⟩ := three bb'))
    refine bodyPost_ret (v := .tuple #[.agg #[.int .i64 0, .int .i64 0], .int .i64 1]) (by simp [results, Tryd.results23, go_sem, (two_set b20 b21).1, (two_set b20 b21).2]) rfl ⟨rfl, by (repeat' (first | with_reducible exact Below.refl _ _ | with_reducible exact Nat.le_refl _ | with_reducible assumption | with_reducible refine below_drewN ?_ _ | with_reducible refine Below.drew ?_ | with_reducible refine Below.alloc ?_ ?_ _ | with_reducible refine Below.setCell ?_ ?_ _ | with_reducible refine le_alloc ?_ _ | with_reducible refine le_setCell ?_ _ _ | with_reducible refine le_drewN ?_ _ | with_reducible refine Below.trans ?_ (Below.mono (by assumption) ?_) | with_reducible refine Nat.le_trans ?_ (Below.size (by assumption)) | exact Nat.le_refl _ | (simp; omega)))⟩

set_option maxHeartbeats 4000000 in
theorem mul_good (a1 a2 b1 b2 : Int) (w : World) (ha10 : -9223372036854775808 ≤ a1) (ha11 : a1 ≤ 9223372036854775807) (ha20 : -9223372036854775808 ≤ a2) (ha21 : a2 ≤ 9223372036854775807) (hb10 : -9223372036854775808 ≤ b1) (hb11 : b1 ≤ 9223372036854775807) (hb20 : -9223372036854775808 ≤ b2) (hb21 : b2 ≤ 9223372036854775807) (v1 : validB a1 a2 = true) (v2 : validB b1 b2 = true) :
    Calls Tryd.prog 23 #[.agg #[.int .i64 a1, .int .i64 a2], .agg #[.int .i64 b1, .int .i64 b2]] w fun e w' => e = .returned (.tuple #[.agg #[.int .i64 (mkN (a1 * b1) (a2 * b2)), .int .i64 (mkD (a1 * b1) (a2 * b2))], .int .i64 (mkE (a1 * b1) (a2 * b2))]) ∧ Below w.heap.size w w' := by
  obtain ⟨p1, p2, p3, p4⟩ := valid_bd v1
  obtain ⟨q1, q2, q3, q4⟩ := valid_bd v2
  obtain ⟨m0, m0'⟩ := mul_bd (x := a1) (y := b1) (by omega) (by omega) (by omega) (by omega)
  obtain ⟨m1, m1'⟩ := mul_bd (x := a2) (y := b2) (by omega) (by omega) (by omega) (by omega)
  have hN0 : -9223372036854775808 ≤ (a1 * b1) := by omega
  have hN1 : (a1 * b1) ≤ 9223372036854775807 := by omega
  have hD0 : -9223372036854775808 ≤ (a2 * b2) := by omega
  have hD1 : (a2 * b2) ≤ 9223372036854775807 := by omega
  go_enter Tryd.func23, Tryd.ntmps23
  go_wp2_with (first | (go_at_call_of 12 (Value.int .i64 a1); refine (valid_any _ _ _ ha10 ha11 ha20 ha21).mono ?_; rintro e wa ⟨rfl, ba⟩; obtain ⟨⟨a00, a01⟩, ⟨a10, a11⟩, ⟨a20, a21⟩, ⟨af0, af1⟩, asz⟩ := three ba) | (go_at_call_of 12 (Value.int .i64 b1); refine (valid_any _ _ _ hb10 hb11 hb20 hb21).mono ?_; rintro e wb ⟨rfl, bb⟩; have bb' := ba.trans (bb.mono ba.size); obtain ⟨⟨b00, b01⟩, ⟨b10, b11⟩, ⟨b20, b21⟩, ⟨bf0, bf1⟩, bsz⟩ := three bb') | (go_at_call 17; refine (make_any _ _ _ hN0 hN1 hD0 hD1).mono ?_; rintro e wc ⟨rfl, bc⟩; have bc' := bb'.trans (bc.mono bb'.size); obtain ⟨⟨c00, c01⟩, ⟨c10, c11⟩, ⟨c20, c21⟩, ⟨cf0, cf1⟩, csz⟩ := three bc'))
  refine bodyPost_ret (v := .tuple #[.agg #[.int .i64 (mkN (a1 * b1) (a2 * b2)), .int .i64 (mkD (a1 * b1) (a2 * b2))], .int .i64 (mkE (a1 * b1) (a2 * b2))]) (by simp [results, Tryd.results23, go_sem, (two_set c20 c21).1, (two_set c20 c21).2]) rfl ⟨rfl, by (repeat' (first | with_reducible exact Below.refl _ _ | with_reducible exact Nat.le_refl _ | with_reducible assumption | with_reducible refine below_drewN ?_ _ | with_reducible refine Below.drew ?_ | with_reducible refine Below.alloc ?_ ?_ _ | with_reducible refine Below.setCell ?_ ?_ _ | with_reducible refine le_alloc ?_ _ | with_reducible refine le_setCell ?_ _ _ | with_reducible refine le_drewN ?_ _ | with_reducible refine Below.trans ?_ (Below.mono (by assumption) ?_) | with_reducible refine Nat.le_trans ?_ (Below.size (by assumption)) | exact Nat.le_refl _ | (simp; omega)))⟩

theorem mul_any (a1 a2 b1 b2 : Int) (w : World) (ha10 : -9223372036854775808 ≤ a1) (ha11 : a1 ≤ 9223372036854775807) (ha20 : -9223372036854775808 ≤ a2) (ha21 : a2 ≤ 9223372036854775807) (hb10 : -9223372036854775808 ≤ b1) (hb11 : b1 ≤ 9223372036854775807) (hb20 : -9223372036854775808 ≤ b2) (hb21 : b2 ≤ 9223372036854775807) :
    Calls Tryd.prog 23 #[.agg #[.int .i64 a1, .int .i64 a2], .agg #[.int .i64 b1, .int .i64 b2]] w fun e w' => e = .returned (.tuple #[.agg #[.int .i64 (arN (validB a1 a2 && validB b1 b2) (a1 * b1) (a2 * b2)), .int .i64 (arD (validB a1 a2 && validB b1 b2) (a1 * b1) (a2 * b2))], .int .i64 (arE (validB a1 a2 && validB b1 b2) (a1 * b1) (a2 * b2))]) ∧ Below w.heap.size w w' := by
  cases v1 : validB a1 a2
  · exact (mul_bad a1 a2 b1 b2 w ha10 ha11 ha20 ha21 hb10 hb11 hb20 hb21 (Or.inl v1))
  · cases v2 : validB b1 b2
    · exact (mul_bad a1 a2 b1 b2 w ha10 ha11 ha20 ha21 hb10 hb11 hb20 hb21 (Or.inr ⟨v1, v2⟩))
    · exact (mul_good a1 a2 b1 b2 w ha10 ha11 ha20 ha21 hb10 hb11 hb20 hb21 v1 v2)

set_option maxHeartbeats 2000000 in
theorem quo_bad (a1 a2 b1 b2 : Int) (w : World) (ha10 : -9223372036854775808 ≤ a1) (ha11 : a1 ≤ 9223372036854775807) (ha20 : -9223372036854775808 ≤ a2) (ha21 : a2 ≤ 9223372036854775807) (hb10 : -9223372036854775808 ≤ b1) (hb11 : b1 ≤ 9223372036854775807) (hb20 : -9223372036854775808 ≤ b2) (hb21 : b2 ≤ 9223372036854775807) (hv : validB a1 a2 = false ∨ validB a1 a2 = true ∧ validB b1 b2 = false) :
    Calls Tryd.prog 25 #[.agg #[.int .i64 a1, .int .i64 a2], .agg #[.int .i64 b1, .int .i64 b2]] w fun e w' => e = .returned (.tuple #[.agg #[.int .i64 0, .int .i64 0], .int .i64 1]) ∧ Below w.heap.size w w' := by
  rcases hv with v1 | ⟨v1, v2⟩
  · go_enter Tryd.func25, Tryd.ntmps25
    go_wp2_with (first | (go_at_call_of 12 (Value.int .i64 a1); refine (valid_any _ _ _ ha10 ha11 ha20 ha21).mono ?_; rintro e wa ⟨rfl, ba⟩; obtain ⟨⟨a00, a01⟩, ⟨a10, a11⟩, ⟨a20, a21⟩, ⟨af0, af1⟩, asz⟩ := three ba) | (go_at_call_of 12 (Value.int .i64 b1); refine (valid_any _ _ _ hb10 hb11 hb20 hb21).mono ?_; rintro e wb ⟨rfl, bb⟩; have bb' := ba.trans (bb.mono ba.size); obtain ⟨⟨b00, b01⟩, ⟨b10, b11⟩, ⟨b20, b21⟩, ⟨bf0, bf1⟩, bsz⟩ := three bb'))
    refine bodyPost_ret (v := .tuple #[.agg #[.int .i64 0, .int .i64 0], .int .i64 1]) (by simp [results, Tryd.results25, go_sem, (two_set a20 a21).1, (two_set a20 a21).2]) rfl ⟨rfl, by (repeat' (first | with_reducible exact Below.refl _ _ | with_reducible exact Nat.le_refl _ | with_reducible assumption | with_reducible refine below_drewN ?_ _ | with_reducible refine Below.drew ?_ | with_reducible refine Below.alloc ?_ ?_ _ | with_reducible refine Below.setCell ?_ ?_ _ | with_reducible refine le_alloc ?_ _ | with_reducible refine le_setCell ?_ _ _ | with_reducible refine le_drewN ?_ _ | with_reducible refine Below.trans ?_ (Below.mono (by assumption) ?_) | with_reducible refine Nat.le_trans ?_ (Below.size (by assumption)) | exact Nat.le_refl _ | (simp; omega)))⟩
  · go_enter Tryd.func25, Tryd.ntmps25
    go_wp2_with (first | (go_at_call_of 12 (Value.int .i64 a1); refine (valid_any _ _ _ ha10 ha11 ha20 ha21).mono ?_; rintro e wa ⟨rfl, ba⟩; obtain ⟨⟨a00, a01⟩, ⟨a10, a11⟩, ⟨a20, a21⟩, ⟨af0, af1⟩, asz⟩ := three ba) | (go_at_call_of 12 (Value.int .i64 b1); refine (valid_any _ _ _ hb10 hb11 hb20 hb21).mono ?_; rintro e wb ⟨rfl, bb⟩; have bb' := ba.trans (bb.mono ba.size); obtain ⟨⟨b00, b01⟩, ⟨b10, b11⟩, ⟨b20, b21⟩, ⟨bf0, bf1⟩, bsz⟩ := three bb'))
    refine bodyPost_ret (v := .tuple #[.agg #[.int .i64 0, .int .i64 0], .int .i64 1]) (by simp [results, Tryd.results25, go_sem, (two_set b20 b21).1, (two_set b20 b21).2]) rfl ⟨rfl, by (repeat' (first | with_reducible exact Below.refl _ _ | with_reducible exact Nat.le_refl _ | with_reducible assumption | with_reducible refine below_drewN ?_ _ | with_reducible refine Below.drew ?_ | with_reducible refine Below.alloc ?_ ?_ _ | with_reducible refine Below.setCell ?_ ?_ _ | with_reducible refine le_alloc ?_ _ | with_reducible refine le_setCell ?_ _ _ | with_reducible refine le_drewN ?_ _ | with_reducible refine Below.trans ?_ (Below.mono (by assumption) ?_) | with_reducible refine Nat.le_trans ?_ (Below.size (by assumption)) | exact Nat.le_refl _ | (simp; omega)))⟩

set_option maxHeartbeats 4000000 in
theorem quo_good (a1 a2 b1 b2 : Int) (w : World) (ha10 : -9223372036854775808 ≤ a1) (ha11 : a1 ≤ 9223372036854775807) (ha20 : -9223372036854775808 ≤ a2) (ha21 : a2 ≤ 9223372036854775807) (hb10 : -9223372036854775808 ≤ b1) (hb11 : b1 ≤ 9223372036854775807) (hb20 : -9223372036854775808 ≤ b2) (hb21 : b2 ≤ 9223372036854775807) (v1 : validB a1 a2 = true) (v2 : validB b1 b2 = true) :
    Calls Tryd.prog 25 #[.agg #[.int .i64 a1, .int .i64 a2], .agg #[.int .i64 b1, .int .i64 b2]] w fun e w' => e = .returned (.tuple #[.agg #[.int .i64 (mkN (a1 * b2) (a2 * b1)), .int .i64 (mkD (a1 * b2) (a2 * b1))], .int .i64 (mkE (a1 * b2) (a2 * b1))]) ∧ Below w.heap.size w w' := by
  obtain ⟨p1, p2, p3, p4⟩ := valid_bd v1
  obtain ⟨q1, q2, q3, q4⟩ := valid_bd v2
  obtain ⟨m0, m0'⟩ := mul_bd (x := a1) (y := b2) (by omega) (by omega) (by omega) (by omega)
  obtain ⟨m1, m1'⟩ := mul_bd (x := a2) (y := b1) (by omega) (by omega) (by omega) (by omega)
  have hN0 : -9223372036854775808 ≤ (a1 * b2) := by omega
  have hN1 : (a1 * b2) ≤ 9223372036854775807 := by omega
  have hD0 : -9223372036854775808 ≤ (a2 * b1) := by omega
  have hD1 : (a2 * b1) ≤ 9223372036854775807 := by omega
  go_enter Tryd.func25, Tryd.ntmps25
  go_wp2_with (first | (go_at_call_of 12 (Value.int .i64 a1); refine (valid_any _ _ _ ha10 ha11 ha20 ha21).mono ?_; rintro e wa ⟨rfl, ba⟩; obtain ⟨⟨a00, a01⟩, ⟨a10, a11⟩, ⟨a20, a21⟩, ⟨af0, af1⟩, asz⟩ := three ba) | (go_at_call_of 12 (Value.int .i64 b1); refine (valid_any _ _ _ hb10 hb11 hb20 hb21).mono ?_; rintro e wb ⟨rfl, bb⟩; have bb' := ba.trans (bb.mono ba.size); obtain ⟨⟨b00, b01⟩, ⟨b10, b11⟩, ⟨b20, b21⟩, ⟨bf0, bf1⟩, bsz⟩ := three bb') | (go_at_call 17; refine (make_any _ _ _ hN0 hN1 hD0 hD1).mono ?_; rintro e wc ⟨rfl, bc⟩; have bc' := bb'.trans (bc.mono bb'.size); obtain ⟨⟨c00, c01⟩, ⟨c10, c11⟩, ⟨c20, c21⟩, ⟨cf0, cf1⟩, csz⟩ := three bc'))
  refine bodyPost_ret (v := .tuple #[.agg #[.int .i64 (mkN (a1 * b2) (a2 * b1)), .int .i64 (mkD (a1 * b2) (a2 * b1))], .int .i64 (mkE (a1 * b2) (a2 * b1))]) (by simp [results, Tryd.results25, go_sem, (two_set c20 c21).1, (two_set c20 c21).2]) rfl ⟨rfl, by (repeat' (first | with_reducible exact Below.refl _ _ | with_reducible exact Nat.le_refl _ | with_reducible assumption | with_reducible refine below_drewN ?_ _ | with_reducible refine Below.drew ?_ | with_reducible refine Below.alloc ?_ ?_ _ | with_reducible refine Below.setCell ?_ ?_ _ | with_reducible refine le_alloc ?_ _ | with_reducible refine le_setCell ?_ _ _ | with_reducible refine le_drewN ?_ _ | with_reducible refine Below.trans ?_ (Below.mono (by assumption) ?_) | with_reducible refine Nat.le_trans ?_ (Below.size (by assumption)) | exact Nat.le_refl _ | (simp; omega)))⟩

theorem quo_any (a1 a2 b1 b2 : Int) (w : World) (ha10 : -9223372036854775808 ≤ a1) (ha11 : a1 ≤ 9223372036854775807) (ha20 : -9223372036854775808 ≤ a2) (ha21 : a2 ≤ 9223372036854775807) (hb10 : -9223372036854775808 ≤ b1) (hb11 : b1 ≤ 9223372036854775807) (hb20 : -9223372036854775808 ≤ b2) (hb21 : b2 ≤ 9223372036854775807) :
    Calls Tryd.prog 25 #[.agg #[.int .i64 a1, .int .i64 a2], .agg #[.int .i64 b1, .int .i64 b2]] w fun e w' => e = .returned (.tuple #[.agg #[.int .i64 (arN (validB a1 a2 && validB b1 b2) (a1 * b2) (a2 * b1)), .int .i64 (arD (validB a1 a2 && validB b1 b2) (a1 * b2) (a2 * b1))], .int .i64 (arE (validB a1 a2 && validB b1 b2) (a1 * b2) (a2 * b1))]) ∧ Below w.heap.size w w' := by
  cases v1 : validB a1 a2
  · exact (quo_bad a1 a2 b1 b2 w ha10 ha11 ha20 ha21 hb10 hb11 hb20 hb21 (Or.inl v1))
  · cases v2 : validB b1 b2
    · exact (quo_bad a1 a2 b1 b2 w ha10 ha11 ha20 ha21 hb10 hb11 hb20 hb21 (Or.inr ⟨v1, v2⟩))
    · exact (quo_good a1 a2 b1 b2 w ha10 ha11 ha20 ha21 hb10 hb11 hb20 hb21 v1 v2)

set_option maxHeartbeats 2000000 in
theorem radd_bad (a1 a2 b1 b2 : Int) (w : World) (ha10 : -9223372036854775808 ≤ a1) (ha11 : a1 ≤ 9223372036854775807) (ha20 : -9223372036854775808 ≤ a2) (ha21 : a2 ≤ 9223372036854775807) (hb10 : -9223372036854775808 ≤ b1) (hb11 : b1 ≤ 9223372036854775807) (hb20 : -9223372036854775808 ≤ b2) (hb21 : b2 ≤ 9223372036854775807) (hv : validB a1 a2 = false ∨ validB a1 a2 = true ∧ validB b1 b2 = false) :
    Calls Tryd.prog 20 #[.agg #[.int .i64 a1, .int .i64 a2], .agg #[.int .i64 b1, .int .i64 b2]] w fun e w' => e = .returned (.tuple #[.agg #[.int .i64 0, .int .i64 0], .int .i64 1]) ∧ Below w.heap.size w w' := by
  rcases hv with v1 | ⟨v1, v2⟩
  · go_enter Tryd.func20, Tryd.ntmps20
    go_wp2_with (first | (go_at_call_of 13 (Value.int .i64 a1); refine (rvalid_any _ _ _ ha10 ha11 ha20 ha21).mono ?_; rintro e wa ⟨rfl, ba⟩; obtain ⟨⟨a00, a01⟩, ⟨a10, a11⟩, ⟨a20, a21⟩, ⟨af0, af1⟩, asz⟩ := three ba) | (go_at_call_of 13 (Value.int .i64 b1); refine (rvalid_any _ _ _ hb10 hb11 hb20 hb21).mono ?_; rintro e wb ⟨rfl, bb⟩; have bb' := ba.trans (bb.mono ba.size); obtain ⟨⟨b00, b01⟩, ⟨b10, b11⟩, ⟨b20, b21⟩, ⟨bf0, bf1⟩, bsz⟩ := three bb'))
    refine bodyPost_ret (v := .tuple #[.agg #[.int .i64 0, .int .i64 0], .int .i64 1]) (by simp [results, Tryd.results20, go_sem, (two_set a20 a21).1, (two_set a20 a21).2]) rfl ⟨rfl, by (repeat' (first | with_reducible exact Below.refl _ _ | with_reducible exact Nat.le_refl _ | with_reducible assumption | with_reducible refine below_drewN ?_ _ | with_reducible refine Below.drew ?_ | with_reducible refine Below.alloc ?_ ?_ _ | with_reducible refine Below.setCell ?_ ?_ _ | with_reducible refine le_alloc ?_ _ | with_reducible refine le_setCell ?_ _ _ | with_reducible refine le_drewN ?_ _ | with_reducible refine Below.trans ?_ (Below.mono (by assumption) ?_) | with_reducible refine Nat.le_trans ?_ (Below.size (by assumption)) | exact Nat.le_refl _ | (simp; omega)))⟩
  · go_enter Tryd.func20, Tryd.ntmps20
    go_wp2_with (first | (go_at_call_of 13 (Value.int .i64 a1); refine (rvalid_any _ _ _ ha10 ha11 ha20 ha21).mono ?_; rintro e wa ⟨rfl, ba⟩; obtain ⟨⟨a00, a01⟩, ⟨a10, a11⟩, ⟨a20, a21⟩, ⟨af0, af1⟩, asz⟩ := three ba) | (go_at_call_of 13 (Value.int .i64 b1); refine (rvalid_any _ _ _ hb10 hb11 hb20 hb21).mono ?_; rintro e wb ⟨rfl, bb⟩; have bb' := ba.trans (bb.mono ba.size); obtain ⟨⟨b00, b01⟩, ⟨b10, b11⟩, ⟨b20, b21⟩, ⟨bf0, bf1⟩, bsz⟩ := three bb'))
    refine bodyPost_ret (v := .tuple #[.agg #[.int .i64 0, .int .i64 0], .int .i64 1]) (by simp [results, Tryd.results20, go_sem, (two_set b20 b21).1, (two_set b20 b21).2]) rfl ⟨rfl, by (repeat' (first | with_reducible exact Below.refl _ _ | with_reducible exact Nat.le_refl _ | with_reducible assumption | with_reducible refine below_drewN ?_ _ | with_reducible refine Below.drew ?_ | with_reducible refine Below.alloc ?_ ?_ _ | with_reducible refine Below.setCell ?_ ?_ _ | with_reducible refine le_alloc ?_ _ | with_reducible refine le_setCell ?_ _ _ | with_reducible refine le_drewN ?_ _ | with_reducible refine Below.trans ?_ (Below.mono (by assumption) ?_) | with_reducible refine Nat.le_trans ?_ (Below.size (by assumption)) | exact Nat.le_refl _ | (simp; omega)))⟩

set_option maxHeartbeats 4000000 in
theorem radd_good (a1 a2 b1 b2 : Int) (w : World) (ha10 : -9223372036854775808 ≤ a1) (ha11 : a1 ≤ 9223372036854775807) (ha20 : -9223372036854775808 ≤ a2) (ha21 : a2 ≤ 9223372036854775807) (hb10 : -9223372036854775808 ≤ b1) (hb11 : b1 ≤ 9223372036854775807) (hb20 : -9223372036854775808 ≤ b2) (hb21 : b2 ≤ 9223372036854775807) (v1 : validB a1 a2 = true) (v2 : validB b1 b2 = true) :
    Calls Tryd.prog 20 #[.agg #[.int .i64 a1, .int .i64 a2], .agg #[.int .i64 b1, .int .i64 b2]] w fun e w' => e = .returned (.tuple #[.agg #[.int .i64 (mkN (a1 * b2 + b1 * a2) (a2 * b2)), .int .i64 (mkD (a1 * b2 + b1 * a2) (a2 * b2))], .int .i64 (mkE (a1 * b2 + b1 * a2) (a2 * b2))]) ∧ Below w.heap.size w w' := by
  obtain ⟨p1, p2, p3, p4⟩ := valid_bd v1
  obtain ⟨q1, q2, q3, q4⟩ := valid_bd v2
  obtain ⟨m0, m0'⟩ := mul_bd (x := a1) (y := b2) (by omega) (by omega) (by omega) (by omega)
  obtain ⟨m1, m1'⟩ := mul_bd (x := b1) (y := a2) (by omega) (by omega) (by omega) (by omega)
  obtain ⟨m2, m2'⟩ := mul_bd (x := a2) (y := b2) (by omega) (by omega) (by omega) (by omega)
  have hN0 : -9223372036854775808 ≤ (a1 * b2 + b1 * a2) := by omega
  have hN1 : (a1 * b2 + b1 * a2) ≤ 9223372036854775807 := by omega
  have hD0 : -9223372036854775808 ≤ (a2 * b2) := by omega
  have hD1 : (a2 * b2) ≤ 9223372036854775807 := by omega
  go_enter Tryd.func20, Tryd.ntmps20
  go_wp2_with (first | (go_at_call_of 13 (Value.int .i64 a1); refine (rvalid_any _ _ _ ha10 ha11 ha20 ha21).mono ?_; rintro e wa ⟨rfl, ba⟩; obtain ⟨⟨a00, a01⟩, ⟨a10, a11⟩, ⟨a20, a21⟩, ⟨af0, af1⟩, asz⟩ := three ba) | (go_at_call_of 13 (Value.int .i64 b1); refine (rvalid_any _ _ _ hb10 hb11 hb20 hb21).mono ?_; rintro e wb ⟨rfl, bb⟩; have bb' := ba.trans (bb.mono ba.size); obtain ⟨⟨b00, b01⟩, ⟨b10, b11⟩, ⟨b20, b21⟩, ⟨bf0, bf1⟩, bsz⟩ := three bb') | (go_at_call 18; refine (rmake_any _ _ _ hN0 hN1 hD0 hD1).mono ?_; rintro e wc ⟨rfl, bc⟩; have bc' := bb'.trans (bc.mono bb'.size); obtain ⟨⟨c00, c01⟩, ⟨c10, c11⟩, ⟨c20, c21⟩, ⟨cf0, cf1⟩, csz⟩ := three bc'))
  refine bodyPost_ret (v := .tuple #[.agg #[.int .i64 (mkN (a1 * b2 + b1 * a2) (a2 * b2)), .int .i64 (mkD (a1 * b2 + b1 * a2) (a2 * b2))], .int .i64 (mkE (a1 * b2 + b1 * a2) (a2 * b2))]) (by simp [results, Tryd.results20, go_sem, (two_set c20 c21).1, (two_set c20 c21).2]) rfl ⟨rfl, by (repeat' (first | with_reducible exact Below.refl _ _ | with_reducible exact Nat.le_refl _ | with_reducible assumption | with_reducible refine below_drewN ?_ _ | with_reducible refine Below.drew ?_ | with_reducible refine Below.alloc ?_ ?_ _ | with_reducible refine Below.setCell ?_ ?_ _ | with_reducible refine le_alloc ?_ _ | with_reducible refine le_setCell ?_ _ _ | with_reducible refine le_drewN ?_ _ | with_reducible refine Below.trans ?_ (Below.mono (by assumption) ?_) | with_reducible refine Nat.le_trans ?_ (Below.size (by assumption)) | exact Nat.le_refl _ | (simp; omega)))⟩

theorem radd_any (a1 a2 b1 b2 : Int) (w : World) (ha10 : -9223372036854775808 ≤ a1) (ha11 : a1 ≤ 9223372036854775807) (ha20 : -9223372036854775808 ≤ a2) (ha21 : a2 ≤ 9223372036854775807) (hb10 : -9223372036854775808 ≤ b1) (hb11 : b1 ≤ 9223372036854775807) (hb20 : -9223372036854775808 ≤ b2) (hb21 : b2 ≤ 9223372036854775807) :
    Calls Tryd.prog 20 #[.agg #[.int .i64 a1, .int .i64 a2], .agg #[.int .i64 b1, .int .i64 b2]] w fun e w' => e = .returned (.tuple #[.agg #[.int .i64 (arN (validB a1 a2 && validB b1 b2) (a1 * b2 + b1 * a2) (a2 * b2)), .int .i64 (arD (validB a1 a2 && validB b1 b2) (a1 * b2 + b1 * a2) (a2 * b2))], .int .i64 (arE (validB a1 a2 && validB b1 b2) (a1 * b2 + b1 * a2) (a2 * b2))]) ∧ Below w.heap.size w w' := by
  cases v1 : validB a1 a2
  · exact (radd_bad a1 a2 b1 b2 w ha10 ha11 ha20 ha21 hb10 hb11 hb20 hb21 (Or.inl v1))
  · cases v2 : validB b1 b2
    · exact (radd_bad a1 a2 b1 b2 w ha10 ha11 ha20 ha21 hb10 hb11 hb20 hb21 (Or.inr ⟨v1, v2⟩))
    · exact (radd_good a1 a2 b1 b2 w ha10 ha11 ha20 ha21 hb10 hb11 hb20 hb21 v1 v2)

set_option maxHeartbeats 2000000 in
theorem rsub_bad (a1 a2 b1 b2 : Int) (w : World) (ha10 : -9223372036854775808 ≤ a1) (ha11 : a1 ≤ 9223372036854775807) (ha20 : -9223372036854775808 ≤ a2) (ha21 : a2 ≤ 9223372036854775807) (hb10 : -9223372036854775808 ≤ b1) (hb11 : b1 ≤ 9223372036854775807) (hb20 : -9223372036854775808 ≤ b2) (hb21 : b2 ≤ 9223372036854775807) (hv : validB a1 a2 = false ∨ validB a1 a2 = true ∧ validB b1 b2 = false) :
    Calls Tryd.prog 22 #[.agg #[.int .i64 a1, .int .i64 a2], .agg #[.int .i64 b1, .int .i64 b2]] w fun e w' => e = .returned (.tuple #[.agg #[.int .i64 0, .int .i64 0], .int .i64 1]) ∧ Below w.heap.size w w' := by
  rcases hv with v1 | ⟨v1, v2⟩
  · go_enter Tryd.func22, Tryd.ntmps22
    go_wp2_with (first | (go_at_call_of 13 (Value.int .i64 a1); refine (rvalid_any _ _ _ ha10 ha11 ha20 ha21).mono ?_; rintro e wa ⟨rfl, ba⟩; obtain ⟨⟨a00, a01⟩, ⟨a10, a11⟩, ⟨a20, a21⟩, ⟨af0, af1⟩, asz⟩ := three ba) | (go_at_call_of 13 (Value.int .i64 b1); refine (rvalid_any _ _ _ hb10 hb11 hb20 hb21).mono ?_; rintro e wb ⟨rfl, bb⟩; have bb' := ba.trans (bb.mono ba.size); obtain ⟨⟨b00, b01⟩, ⟨b10, b11⟩, ⟨b20, b21⟩, ⟨bf0, bf1⟩, bsz⟩ := three bb'))
    refine bodyPost_ret (v := .tuple #[.agg #[.int .i64 0, .int .i64 0], .int .i64 1]) (by simp [results, Tryd.results22, go_sem, (two_set a20 a21).1, (two_set a20 a21).2]) rfl ⟨rfl, by (repeat' (first | with_reducible exact Below.refl _ _ | with_reducible exact Nat.le_refl _ | with_reducible assumption | with_reducible refine below_drewN ?_ _ | with_reducible refine Below.drew ?_ | with_reducible refine Below.alloc ?_ ?_ _ | with_reducible refine Below.setCell ?_ ?_ _ | with_reducible refine le_alloc ?_ _ | with_reducible refine le_setCell ?_ _ _ | with_reducible refine le_drewN ?_ _ | with_reducible refine Below.trans ?_ (Below.mono (by assumption) ?_) | with_reducible refine Nat.le_trans ?_ (Below.size (by assumption)) | exact Nat.le_refl _ | (simp; omega)))⟩
  · go_enter Tryd.func22, Tryd.ntmps22
    go_wp2_with (first | (go_at_call_of 13 (Value.int .i64 a1); refine (rvalid_any _ _ _ ha10 ha11 ha20 ha21).mono ?_; rintro e wa ⟨rfl, ba⟩; obtain ⟨⟨a00, a01⟩, ⟨a10, a11⟩, ⟨a20, a21⟩, ⟨af0, af1⟩, asz⟩ := three ba) | (go_at_call_of 13 (Value.int .i64 b1); refine (rvalid_any _ _ _ hb10 hb11 hb20 hb21).mono ?_; rintro e wb ⟨rfl, bb⟩; have bb' := ba.trans (bb.mono ba.size); obtain ⟨⟨b00, b01⟩, ⟨b10, b11⟩, ⟨b20, b21⟩, ⟨bf0, bf1⟩, bsz⟩ := three bb'))
    refine bodyPost_ret (v := .tuple #[.agg #[.int .i64 0, .int .i64 0], .int .i64 1]) (by simp [results, Tryd.results22, go_sem, (two_set b20 b21).1, (two_set b20 b21).2]) rfl ⟨rfl, by (repeat' (first | with_reducible exact Below.refl _ _ | with_reducible exact Nat.le_refl _ | with_reducible assumption | with_reducible refine below_drewN ?_ _ | with_reducible refine Below.drew ?_ | with_reducible refine Below.alloc ?_ ?_ _ | with_reducible refine Below.setCell ?_ ?_ _ | with_reducible refine le_alloc ?_ _ | with_reducible refine le_setCell ?_ _ _ | with_reducible refine le_drewN ?_ _ | with_reducible refine Below.trans ?_ (Below.mono (by assumption) ?_) | with_reducible refine Nat.le_trans ?_ (Below.size (by assumption)) | exact Nat.le_refl _ | (simp; omega)))⟩

set_option maxHeartbeats 4000000 in
theorem rsub_good (a1 a2 b1 b2 : Int) (w : World) (ha10 : -9223372036854775808 ≤ a1) (ha11 : a1 ≤ 9223372036854775807) (ha20 : -9223372036854775808 ≤ a2) (ha21 : a2 ≤ 9223372036854775807) (hb10 : -9223372036854775808 ≤ b1) (hb11 : b1 ≤ 9223372036854775807) (hb20 : -9223372036854775808 ≤ b2) (hb21 : b2 ≤ 9223372036854775807) (v1 : validB a1 a2 = true) (v2 : validB b1 b2 = true) :
    Calls Tryd.prog 22 #[.agg #[.int .i64 a1, .int .i64 a2], .agg #[.int .i64 b1, .int .i64 b2]] w fun e w' => e = .returned (.tuple #[.agg #[.int .i64 (mkN (a1 * b2 - b1 * a2) (a2 * b2)), .int .i64 (mkD (a1 * b2 - b1 * a2) (a2 * b2))], .int .i64 (mkE (a1 * b2 - b1 * a2) (a2 * b2))]) ∧ Below w.heap.size w w' := by
  obtain ⟨p1, p2, p3, p4⟩ := valid_bd v1
  obtain ⟨q1, q2, q3, q4⟩ := valid_bd v2
  obtain ⟨m0, m0'⟩ := mul_bd (x := a1) (y := b2) (by omega) (by omega) (by omega) (by omega)
  obtain ⟨m1, m1'⟩ := mul_bd (x := b1) (y := a2) (by omega) (by omega) (by omega) (by omega)
  obtain ⟨m2, m2'⟩ := mul_bd (x := a2) (y := b2) (by omega) (by omega) (by omega) (by omega)
  have hN0 : -9223372036854775808 ≤ (a1 * b2 - b1 * a2) := by omega
  have hN1 : (a1 * b2 - b1 * a2) ≤ 9223372036854775807 := by omega
  have hD0 : -9223372036854775808 ≤ (a2 * b2) := by omega
  have hD1 : (a2 * b2) ≤ 9223372036854775807 := by omega
  go_enter Tryd.func22, Tryd.ntmps22
  go_wp2_with (first | (go_at_call_of 13 (Value.int .i64 a1); refine (rvalid_any _ _ _ ha10 ha11 ha20 ha21).mono ?_; rintro e wa ⟨rfl, ba⟩; obtain ⟨⟨a00, a01⟩, ⟨a10, a11⟩, ⟨a20, a21⟩, ⟨af0, af1⟩, asz⟩ := three ba) | (go_at_call_of 13 (Value.int .i64 b1); refine (rvalid_any _ _ _ hb10 hb11 hb20 hb21).mono ?_; rintro e wb ⟨rfl, bb⟩; have bb' := ba.trans (bb.mono ba.size); obtain ⟨⟨b00, b01⟩, ⟨b10, b11⟩, ⟨b20, b21⟩, ⟨bf0, bf1⟩, bsz⟩ := three bb') | (go_at_call 18; refine (rmake_any _ _ _ hN0 hN1 hD0 hD1).mono ?_; rintro e wc ⟨rfl, bc⟩; have bc' := bb'.trans (bc.mono bb'.size); obtain ⟨⟨c00, c01⟩, ⟨c10, c11⟩, ⟨c20, c21⟩, ⟨cf0, cf1⟩, csz⟩ := three bc'))
  refine bodyPost_ret (v := .tuple #[.agg #[.int .i64 (mkN (a1 * b2 - b1 * a2) (a2 * b2)), .int .i64 (mkD (a1 * b2 - b1 * a2) (a2 * b2))], .int .i64 (mkE (a1 * b2 - b1 * a2) (a2 * b2))]) (by simp [results, Tryd.results22, go_sem, (two_set c20 c21).1, (two_set c20 c21).2]) rfl ⟨rfl, by (repeat' (first | with_reducible exact Below.refl _ _ | with_reducible exact Nat.le_refl _ | with_reducible assumption | with_reducible refine below_drewN ?_ _ | with_reducible refine Below.drew ?_ | with_reducible refine Below.alloc ?_ ?_ _ | with_reducible refine Below.setCell ?_ ?_ _ | with_reducible refine le_alloc ?_ _ | with_reducible refine le_setCell ?_ _ _ | with_reducible refine le_drewN ?_ _ | with_reducible refine Below.trans ?_ (Below.mono (by assumption) ?_) | with_reducible refine Nat.le_trans ?_ (Below.size (by assumption)) | exact Nat.le_refl _ | (simp; omega)))⟩

theorem rsub_any (a1 a2 b1 b2 : Int) (w : World) (ha10 : -9223372036854775808 ≤ a1) (ha11 : a1 ≤ 9223372036854775807) (ha20 : -9223372036854775808 ≤ a2) (ha21 : a2 ≤ 9223372036854775807) (hb10 : -9223372036854775808 ≤ b1) (hb11 : b1 ≤ 9223372036854775807) (hb20 : -9223372036854775808 ≤ b2) (hb21 : b2 ≤ 9223372036854775807) :
    Calls Tryd.prog 22 #[.agg #[.int .i64 a1, .int .i64 a2], .agg #[.int .i64 b1, .int .i64 b2]] w fun e w' => e = .returned (.tuple #[.agg #[.int .i64 (arN (validB a1 a2 && validB b1 b2) (a1 * b2 - b1 * a2) (a2 * b2)), .int .i64 (arD (validB a1 a2 && validB b1 b2) (a1 * b2 - b1 * a2) (a2 * b2))], .int .i64 (arE (validB a1 a2 && validB b1 b2) (a1 * b2 - b1 * a2) (a2 * b2))]) ∧ Below w.heap.size w w' := by
  cases v1 : validB a1 a2
  · exact (rsub_bad a1 a2 b1 b2 w ha10 ha11 ha20 ha21 hb10 hb11 hb20 hb21 (Or.inl v1))
  · cases v2 : validB b1 b2
    · exact (rsub_bad a1 a2 b1 b2 w ha10 ha11 ha20 ha21 hb10 hb11 hb20 hb21 (Or.inr ⟨v1, v2⟩))
    · exact (rsub_good a1 a2 b1 b2 w ha10 ha11 ha20 ha21 hb10 hb11 hb20 hb21 v1 v2)

set_option maxHeartbeats 2000000 in
theorem rmul_bad (a1 a2 b1 b2 : Int) (w : World) (ha10 : -9223372036854775808 ≤ a1) (ha11 : a1 ≤ 9223372036854775807) (ha20 : -9223372036854775808 ≤ a2) (ha21 : a2 ≤ 9223372036854775807) (hb10 : -9223372036854775808 ≤ b1) (hb11 : b1 ≤ 9223372036854775807) (hb20 : -9223372036854775808 ≤ b2) (hb21 : b2 ≤ 9223372036854775807) (hv : validB a1 a2 = false ∨ validB a1 a2 = true ∧ validB b1 b2 = false) :
    Calls Tryd.prog 24 #[.agg #[.int .i64 a1, .int .i64 a2], .agg #[.int .i64 b1, .int .i64 b2]] w fun e w' => e = .returned (.tuple #[.agg #[.int .i64 0, .int .i64 0], .int .i64 1]) ∧ Below w.heap.size w w' := by
  rcases hv with v1 | ⟨v1, v2⟩
  · go_enter Tryd.func24, Tryd.ntmps24
    go_wp2_with (first | (go_at_call_of 13 (Value.int .i64 a1); refine (rvalid_any _ _ _ ha10 ha11 ha20 ha21).mono ?_; rintro e wa ⟨rfl, ba⟩; obtain ⟨⟨a00, a01⟩, ⟨a10, a11⟩, ⟨a20, a21⟩, ⟨af0, af1⟩, asz⟩ := three ba) | (go_at_call_of 13 (Value.int .i64 b1); refine (rvalid_any _ _ _ hb10 hb11 hb20 hb21).mono ?_; rintro e wb ⟨rfl, bb⟩; have bb' := ba.trans (bb.mono ba.size); obtain ⟨⟨b00, b01⟩, ⟨b10, b11⟩, ⟨b20, b21⟩, ⟨bf0, bf1⟩, bsz⟩ := three bb'))
    refine bodyPost_ret (v := .tuple #[.agg #[.int .i64 0, .int .i64 0], .int .i64 1]) (by simp [results, Tryd.results24, go_sem, (two_set a20 a21).1, (two_set a20 a21).2]) rfl ⟨rfl, by (repeat' (first | with_reducible exact Below.refl _ _ | with_reducible exact Nat.le_refl _ | with_reducible assumption | with_reducible refine below_drewN ?_ _ | with_reducible refine Below.drew ?_ | with_reducible refine Below.alloc ?_ ?_ _ | with_reducible refine Below.setCell ?_ ?_ _ | with_reducible refine le_alloc ?_ _ | with_reducible refine le_setCell ?_ _ _ | with_reducible refine le_drewN ?_ _ | with_reducible refine Below.trans ?_ (Below.mono (by assumption) ?_) | with_reducible refine Nat.le_trans ?_ (Below.size (by assumption)) | exact Nat.le_refl _ | (simp; omega)))⟩
  · go_enter Tryd.func24, Tryd.ntmps24
    go_wp2_with (first | (go_at_call_of 13 (Value.int .i64 a1); refine (rvalid_any _ _ _ ha10 ha11 ha20 ha21).mono ?_; rintro e wa ⟨rfl, ba⟩; obtain ⟨⟨a00, a01⟩, ⟨a10, a11⟩, ⟨a20, a21⟩, ⟨af0, af1⟩, asz⟩ := three ba) | (go_at_call_of 13 (Value.int .i64 b1); refine (rvalid_any _ _ _ hb10 hb11 hb20 hb21).mono ?_; rintro e wb ⟨rfl, bb⟩; have bb' := ba.trans (bb.mono ba.size); obtain ⟨⟨b00, b01⟩, ⟨b10, b11⟩, ⟨b20, b21⟩, ⟨bf0, bf1⟩, bsz⟩ := three bb'))
    refine bodyPost_ret (v := .tuple #[.agg #[.int .i64 0, .int .i64 0], .int .i64 1]) (by simp [results, Tryd.results24, go_sem, (two_set b20 b21).1, (two_set b20 b21).2]) rfl ⟨rfl, by (repeat' (first | with_reducible exact Below.refl _ _ | with_reducible exact Nat.le_refl _ | with_reducible assumption | with_reducible refine below_drewN ?_ _ | with_reducible refine Below.drew ?_ | with_reducible refine Below.alloc ?_ ?_ _ | with_reducible refine Below.setCell ?_ ?_ _ | with_reducible refine le_alloc ?_ _ | with_reducible refine le_setCell ?_ _ _ | with_reducible refine le_drewN ?_ _ | with_reducible refine Below.trans ?_ (Below.mono (by assumption) ?_) | with_reducible refine Nat.le_trans ?_ (Below.size (by assumption)) | exact Nat.le_refl _ | (simp; omega)))⟩

set_option maxHeartbeats 4000000 in
theorem rmul_good (a1 a2 b1 b2 : Int) (w : World) (ha10 : -9223372036854775808 ≤ a1) (ha11 : a1 ≤ 9223372036854775807) (ha20 : -9223372036854775808 ≤ a2) (ha21 : a2 ≤ 9223372036854775807) (hb10 : -9223372036854775808 ≤ b1) (hb11 : b1 ≤ 9223372036854775807) (hb20 : -9223372036854775808 ≤ b2) (hb21 : b2 ≤ 9223372036854775807) (v1 : validB a1 a2 = true) (v2 : validB b1 b2 = true) :
    Calls Tryd.prog 24 #[.agg #[.int .i64 a1, .int .i64 a2], .agg #[.int .i64 b1, .int .i64 b2]] w fun e w' => e = .returned (.tuple #[.agg #[.int .i64 (mkN (a1 * b1) (a2 * b2)), .int .i64 (mkD (a1 * b1) (a2 * b2))], .int .i64 (mkE (a1 * b1) (a2 * b2))]) ∧ Below w.heap.size w w' := by
  obtain ⟨p1, p2, p3, p4⟩ := valid_bd v1
  obtain ⟨q1, q2, q3, q4⟩ := valid_bd v2
  obtain ⟨m0, m0'⟩ := mul_bd (x := a1) (y := b1) (by omega) (by omega) (by omega) (by omega)
  obtain ⟨m1, m1'⟩ := mul_bd (x := a2) (y := b2) (by omega) (by omega) (by omega) (by omega)
  have hN0 : -9223372036854775808 ≤ (a1 * b1) := by omega
  have hN1 : (a1 * b1) ≤ 9223372036854775807 := by omega
  have hD0 : -9223372036854775808 ≤ (a2 * b2) := by omega
  have hD1 : (a2 * b2) ≤ 9223372036854775807 := by omega
  go_enter Tryd.func24, Tryd.ntmps24
  go_wp2_with (first | (go_at_call_of 13 (Value.int .i64 a1); refine (rvalid_any _ _ _ ha10 ha11 ha20 ha21).mono ?_; rintro e wa ⟨rfl, ba⟩; obtain ⟨⟨a00, a01⟩, ⟨a10, a11⟩, ⟨a20, a21⟩, ⟨af0, af1⟩, asz⟩ := three ba) | (go_at_call_of 13 (Value.int .i64 b1); refine (rvalid_any _ _ _ hb10 hb11 hb20 hb21).mono ?_; rintro e wb ⟨rfl, bb⟩; have bb' := ba.trans (bb.mono ba.size); obtain ⟨⟨b00, b01⟩, ⟨b10, b11⟩, ⟨b20, b21⟩, ⟨bf0, bf1⟩, bsz⟩ := three bb') | (go_at_call 18; refine (rmake_any _ _ _ hN0 hN1 hD0 hD1).mono ?_; rintro e wc ⟨rfl, bc⟩; have bc' := bb'.trans (bc.mono bb'.size); obtain ⟨⟨c00, c01⟩, ⟨c10, c11⟩, ⟨c20, c21⟩, ⟨cf0, cf1⟩, csz⟩ := three bc'))
  refine bodyPost_ret (v := .tuple #[.agg #[.int .i64 (mkN (a1 * b1) (a2 * b2)), .int .i64 (mkD (a1 * b1) (a2 * b2))], .int .i64 (mkE (a1 * b1) (a2 * b2))]) (by simp [results, Tryd.results24, go_sem, (two_set c20 c21).1, (two_set c20 c21).2]) rfl ⟨rfl, by (repeat' (first | with_reducible exact Below.refl _ _ | with_reducible exact Nat.le_refl _ | with_reducible assumption | with_reducible refine below_drewN ?_ _ | with_reducible refine Below.drew ?_ | with_reducible refine Below.alloc ?_ ?_ _ | with_reducible refine Below.setCell ?_ ?_ _ | with_reducible refine le_alloc ?_ _ | with_reducible refine le_setCell ?_ _ _ | with_reducible refine le_drewN ?_ _ | with_reducible refine Below.trans ?_ (Below.mono (by assumption) ?_) | with_reducible refine Nat.le_trans ?_ (Below.size (by assumption)) | exact Nat.le_refl _ | (simp; omega)))⟩

theorem rmul_any (a1 a2 b1 b2 : Int) (w : World) (ha10 : -9223372036854775808 ≤ a1) (ha11 : a1 ≤ 9223372036854775807) (ha20 : -9223372036854775808 ≤ a2) (ha21 : a2 ≤ 9223372036854775807) (hb10 : -9223372036854775808 ≤ b1) (hb11 : b1 ≤ 9223372036854775807) (hb20 : -9223372036854775808 ≤ b2) (hb21 : b2 ≤ 9223372036854775807) :
    Calls Tryd.prog 24 #[.agg #[.int .i64 a1, .int .i64 a2], .agg #[.int .i64 b1, .int .i64 b2]] w fun e w' => e = .returned (.tuple #[.agg #[.int .i64 (arN (validB a1 a2 && validB b1 b2) (a1 * b1) (a2 * b2)), .int .i64 (arD (validB a1 a2 && validB b1 b2) (a1 * b1) (a2 * b2))], .int .i64 (arE (validB a1 a2 && validB b1 b2) (a1 * b1) (a2 * b2))]) ∧ Below w.heap.size w w' := by
  cases v1 : validB a1 a2
  · exact (rmul_bad a1 a2 b1 b2 w ha10 ha11 ha20 ha21 hb10 hb11 hb20 hb21 (Or.inl v1))
  · cases v2 : validB b1 b2
    · exact (rmul_bad a1 a2 b1 b2 w ha10 ha11 ha20 ha21 hb10 hb11 hb20 hb21 (Or.inr ⟨v1, v2⟩))
    · exact (rmul_good a1 a2 b1 b2 w ha10 ha11 ha20 ha21 hb10 hb11 hb20 hb21 v1 v2)

set_option maxHeartbeats 2000000 in
theorem rquo_bad (a1 a2 b1 b2 : Int) (w : World) (ha10 : -9223372036854775808 ≤ a1) (ha11 : a1 ≤ 9223372036854775807) (ha20 : -9223372036854775808 ≤ a2) (ha21 : a2 ≤ 9223372036854775807) (hb10 : -9223372036854775808 ≤ b1) (hb11 : b1 ≤ 9223372036854775807) (hb20 : -9223372036854775808 ≤ b2) (hb21 : b2 ≤ 9223372036854775807) (hv : validB a1 a2 = false ∨ validB a1 a2 = true ∧ validB b1 b2 = false) :
    Calls Tryd.prog 26 #[.agg #[.int .i64 a1, .int .i64 a2], .agg #[.int .i64 b1, .int .i64 b2]] w fun e w' => e = .returned (.tuple #[.agg #[.int .i64 0, .int .i64 0], .int .i64 1]) ∧ Below w.heap.size w w' := by
  rcases hv with v1 | ⟨v1, v2⟩
  · go_enter Tryd.func26, Tryd.ntmps26
    go_wp2_with (first | (go_at_call_of 13 (Value.int .i64 a1); refine (rvalid_any _ _ _ ha10 ha11 ha20 ha21).mono ?_; rintro e wa ⟨rfl, ba⟩; obtain ⟨⟨a00, a01⟩, ⟨a10, a11⟩, ⟨a20, a21⟩, ⟨af0, af1⟩, asz⟩ := three ba) | (go_at_call_of 13 (Value.int .i64 b1); refine (rvalid_any _ _ _ hb10 hb11 hb20 hb21).mono ?_; rintro e wb ⟨rfl, bb⟩; have bb' := ba.trans (bb.mono ba.size); obtain ⟨⟨b00, b01⟩, ⟨b10, b11⟩, ⟨b20, b21⟩, ⟨bf0, bf1⟩, bsz⟩ := three bb'))
    refine bodyPost_ret (v := .tuple #[.agg #[.int .i64 0, .int .i64 0], .int .i64 1]) (by simp [results, Tryd.results26, go_sem, (two_set a20 a21).1, (two_set a20 a21).2]) rfl ⟨rfl, by (repeat' (first | with_reducible exact Below.refl _ _ | with_reducible exact Nat.le_refl _ | with_reducible assumption | with_reducible refine below_drewN ?_ _ | with_reducible refine Below.drew ?_ | with_reducible refine Below.alloc ?_ ?_ _ | with_reducible refine Below.setCell ?_ ?_ _ | with_reducible refine le_alloc ?_ _ | with_reducible refine le_setCell ?_ _ _ | with_reducible refine le_drewN ?_ _ | with_reducible refine Below.trans ?_ (Below.mono (by assumption) ?_) | with_reducible refine Nat.le_trans ?_ (Below.size (by assumption)) | exact Nat.le_refl _ | (simp; omega)))⟩
  · go_enter Tryd.func26, Tryd.ntmps26
    go_wp2_with (first | (go_at_call_of 13 (Value.int .i64 a1); refine (rvalid_any _ _ _ ha10 ha11 ha20 ha21).mono ?_; rintro e wa ⟨rfl, ba⟩; obtain ⟨⟨a00, a01⟩, ⟨a10, a11⟩, ⟨a20, a21⟩, ⟨af0, af1⟩, asz⟩ := three ba) | (go_at_call_of 13 (Value.int .i64 b1); refine (rvalid_any _ _ _ hb10 hb11 hb20 hb21).mono ?_; rintro e wb ⟨rfl, bb⟩; have bb' := ba.trans (bb.mono ba.size); obtain ⟨⟨b00, b01⟩, ⟨b10, b11⟩, ⟨b20, b21⟩, ⟨bf0, bf1⟩, bsz⟩ := three bb'))
    refine bodyPost_ret (v := .tuple #[.agg #[.int .i64 0, .int .i64 0], .int .i64 1]) (by simp [results, Tryd.results26, go_sem, (two_set b20 b21).1, (two_set b20 b21).2]) rfl ⟨rfl, by (repeat' (first | with_reducible exact Below.refl _ _ | with_reducible exact Nat.le_refl _ | with_reducible assumption | with_reducible refine below_drewN ?_ _ | with_reducible refine Below.drew ?_ | with_reducible refine Below.alloc ?_ ?_ _ | with_reducible refine Below.setCell ?_ ?_ _ | with_reducible refine le_alloc ?_ _ | with_reducible refine le_setCell ?_ _ _ | with_reducible refine le_drewN ?_ _ | with_reducible refine Below.trans ?_ (Below.mono (by assumption) ?_) | with_reducible refine Nat.le_trans ?_ (Below.size (by assumption)) | exact Nat.le_refl _ | (simp; omega)))⟩

set_option maxHeartbeats 4000000 in
theorem rquo_good (a1 a2 b1 b2 : Int) (w : World) (ha10 : -9223372036854775808 ≤ a1) (ha11 : a1 ≤ 9223372036854775807) (ha20 : -9223372036854775808 ≤ a2) (ha21 : a2 ≤ 9223372036854775807) (hb10 : -9223372036854775808 ≤ b1) (hb11 : b1 ≤ 9223372036854775807) (hb20 : -9223372036854775808 ≤ b2) (hb21 : b2 ≤ 9223372036854775807) (v1 : validB a1 a2 = true) (v2 : validB b1 b2 = true) :
    Calls Tryd.prog 26 #[.agg #[.int .i64 a1, .int .i64 a2], .agg #[.int .i64 b1, .int .i64 b2]] w fun e w' => e = .returned (.tuple #[.agg #[.int .i64 (mkN (a1 * b2) (a2 * b1)), .int .i64 (mkD (a1 * b2) (a2 * b1))], .int .i64 (mkE (a1 * b2) (a2 * b1))]) ∧ Below w.heap.size w w' := by
  obtain ⟨p1, p2, p3, p4⟩ := valid_bd v1
  obtain ⟨q1, q2, q3, q4⟩ := valid_bd v2
  obtain ⟨m0, m0'⟩ := mul_bd (x := a1) (y := b2) (by omega) (by omega) (by omega) (by omega)
  obtain ⟨m1, m1'⟩ := mul_bd (x := a2) (y := b1) (by omega) (by omega) (by omega) (by omega)
  have hN0 : -9223372036854775808 ≤ (a1 * b2) := by omega
  have hN1 : (a1 * b2) ≤ 9223372036854775807 := by omega
  have hD0 : -9223372036854775808 ≤ (a2 * b1) := by omega
  have hD1 : (a2 * b1) ≤ 9223372036854775807 := by omega
  by_cases z : b1 = 0
  · subst z
    have hz := Lib.hid (mk_zero (a1 * b2))
    go_enter Tryd.func26, Tryd.ntmps26
    go_wp2_with (first | (go_at_call_of 13 (Value.int .i64 a1); refine (rvalid_any _ _ _ ha10 ha11 ha20 ha21).mono ?_; rintro e wa ⟨rfl, ba⟩; obtain ⟨⟨a00, a01⟩, ⟨a10, a11⟩, ⟨a20, a21⟩, ⟨af0, af1⟩, asz⟩ := three ba) | (go_at_call_of 13 (Value.int .i64 0); refine (rvalid_any _ _ _ hb10 hb11 hb20 hb21).mono ?_; rintro e wb ⟨rfl, bb⟩; have bb' := ba.trans (bb.mono ba.size); obtain ⟨⟨b00, b01⟩, ⟨b10, b11⟩, ⟨b20, b21⟩, ⟨bf0, bf1⟩, bsz⟩ := three bb'))
    refine bodyPost_ret (v := .tuple #[.agg #[.int .i64 0, .int .i64 0], .int .i64 1]) (by simp [results, Tryd.results26, go_sem, (two_set b20 b21).1, (two_set b20 b21).2]) rfl ⟨by rw [Int.mul_zero, hz.out.1, hz.out.2.1, hz.out.2.2], by (repeat' (first | with_reducible exact Below.refl _ _ | with_reducible exact Nat.le_refl _ | with_reducible assumption | with_reducible refine below_drewN ?_ _ | with_reducible refine Below.drew ?_ | with_reducible refine Below.alloc ?_ ?_ _ | with_reducible refine Below.setCell ?_ ?_ _ | with_reducible refine le_alloc ?_ _ | with_reducible refine le_setCell ?_ _ _ | with_reducible refine le_drewN ?_ _ | with_reducible refine Below.trans ?_ (Below.mono (by assumption) ?_) | with_reducible refine Nat.le_trans ?_ (Below.size (by assumption)) | exact Nat.le_refl _ | (simp; omega)))⟩
  go_enter Tryd.func26, Tryd.ntmps26
  go_wp2_with (first | (go_at_call_of 13 (Value.int .i64 a1); refine (rvalid_any _ _ _ ha10 ha11 ha20 ha21).mono ?_; rintro e wa ⟨rfl, ba⟩; obtain ⟨⟨a00, a01⟩, ⟨a10, a11⟩, ⟨a20, a21⟩, ⟨af0, af1⟩, asz⟩ := three ba) | (go_at_call_of 13 (Value.int .i64 b1); refine (rvalid_any _ _ _ hb10 hb11 hb20 hb21).mono ?_; rintro e wb ⟨rfl, bb⟩; have bb' := ba.trans (bb.mono ba.size); obtain ⟨⟨b00, b01⟩, ⟨b10, b11⟩, ⟨b20, b21⟩, ⟨bf0, bf1⟩, bsz⟩ := three bb') | (go_at_call 18; refine (rmake_any _ _ _ hN0 hN1 hD0 hD1).mono ?_; rintro e wc ⟨rfl, bc⟩; have bc' := bb'.trans (bc.mono bb'.size); obtain ⟨⟨c00, c01⟩, ⟨c10, c11⟩, ⟨c20, c21⟩, ⟨cf0, cf1⟩, csz⟩ := three bc'))
  refine bodyPost_ret (v := .tuple #[.agg #[.int .i64 (mkN (a1 * b2) (a2 * b1)), .int .i64 (mkD (a1 * b2) (a2 * b1))], .int .i64 (mkE (a1 * b2) (a2 * b1))]) (by simp [results, Tryd.results26, go_sem, (two_set c20 c21).1, (two_set c20 c21).2]) rfl ⟨rfl, by (repeat' (first | with_reducible exact Below.refl _ _ | with_reducible exact Nat.le_refl _ | with_reducible assumption | with_reducible refine below_drewN ?_ _ | with_reducible refine Below.drew ?_ | with_reducible refine Below.alloc ?_ ?_ _ | with_reducible refine Below.setCell ?_ ?_ _ | with_reducible refine le_alloc ?_ _ | with_reducible refine le_setCell ?_ _ _ | with_reducible refine le_drewN ?_ _ | with_reducible refine Below.trans ?_ (Below.mono (by assumption) ?_) | with_reducible refine Nat.le_trans ?_ (Below.size (by assumption)) | exact Nat.le_refl _ | (simp; omega)))⟩

theorem rquo_any (a1 a2 b1 b2 : Int) (w : World) (ha10 : -9223372036854775808 ≤ a1) (ha11 : a1 ≤ 9223372036854775807) (ha20 : -9223372036854775808 ≤ a2) (ha21 : a2 ≤ 9223372036854775807) (hb10 : -9223372036854775808 ≤ b1) (hb11 : b1 ≤ 9223372036854775807) (hb20 : -9223372036854775808 ≤ b2) (hb21 : b2 ≤ 9223372036854775807) :
    Calls Tryd.prog 26 #[.agg #[.int .i64 a1, .int .i64 a2], .agg #[.int .i64 b1, .int .i64 b2]] w fun e w' => e = .returned (.tuple #[.agg #[.int .i64 (arN (validB a1 a2 && validB b1 b2) (a1 * b2) (a2 * b1)), .int .i64 (arD (validB a1 a2 && validB b1 b2) (a1 * b2) (a2 * b1))], .int .i64 (arE (validB a1 a2 && validB b1 b2) (a1 * b2) (a2 * b1))]) ∧ Below w.heap.size w w' := by
  cases v1 : validB a1 a2
  · exact (rquo_bad a1 a2 b1 b2 w ha10 ha11 ha20 ha21 hb10 hb11 hb20 hb21 (Or.inl v1))
  · cases v2 : validB b1 b2
    · exact (rquo_bad a1 a2 b1 b2 w ha10 ha11 ha20 ha21 hb10 hb11 hb20 hb21 (Or.inr ⟨v1, v2⟩))
    · exact (rquo_good a1 a2 b1 b2 w ha10 ha11 ha20 ha21 hb10 hb11 hb20 hb21 v1 v2)

end Go.Proofs.YtlbepbddhnmmjaaDoor
