/-
  The walks of Cmp, of package ratio and of its specification.
-/
import Derived.Test.YtmbeaagpjpphhaaZ04
import Derived.Test.YtmbeaagpjpphhaaShelf
namespace Go.Proofs.Ytmbeaagpjpphhaa
namespace Sr
open Go.RowKit

set_option maxHeartbeats 4000000 in
theorem cmp_any (a1 a2 b1 b2 : Int) (w : World) (ha10 : -9223372036854775808 ≤ a1) (ha11 : a1 ≤ 9223372036854775807) (ha20 : -9223372036854775808 ≤ a2) (ha21 : a2 ≤ 9223372036854775807) (hb10 : -9223372036854775808 ≤ b1) (hb11 : b1 ≤ 9223372036854775807) (hb20 : -9223372036854775808 ≤ b2) (hb21 : b2 ≤ 9223372036854775807) :
    Calls Try.prog 95 #[.agg #[.int .i64 a1, .int .i64 a2], .agg #[.int .i64 b1, .int .i64 b2]] w fun e w' => e = .returned (.int .i64 (okI (validB a1 a2 && validB b1 b2) (cmpI (a1 * b2) (b1 * a2)))) ∧ Below w.heap.size w w' := by
  by_cases he : a1 = b1 ∧ a2 = b2
  · obtain ⟨rfl, rfl⟩ := he
    have hz := Lib.hid (show okI (validB a1 a2 && validB a1 a2) (cmpI (a1 * a2) (a1 * a2)) = 0 from cmp_self _ _)
    go_enter Try.func95, Try.ntmps95
    go_wp2_with fail
    go_returns
    exact ⟨by rw [hz.out]; rfl, by (repeat' (first | with_reducible exact Below.refl _ _ | with_reducible exact Nat.le_refl _ | with_reducible assumption | with_reducible refine below_drewN ?_ _ | with_reducible refine Below.drew ?_ | with_reducible refine Below.alloc ?_ ?_ _ | with_reducible refine Below.setCell ?_ ?_ _ | with_reducible refine le_alloc ?_ _ | with_reducible refine le_setCell ?_ _ _ | with_reducible refine le_drewN ?_ _ | with_reducible refine Below.trans ?_ (Below.mono (by assumption) ?_) | with_reducible refine Nat.le_trans ?_ (Below.size (by assumption)) | exact Nat.le_refl _ | (simp; omega)))⟩
  · by_cases h1 : a1 = b1
    · have e1 : (a1 == b1) = true := by simpa using h1
      have e2 : (a2 == b2) = false := by rw [Bool.eq_false_iff]; simp; omega
      clear h1 he
      cases v1 : validB a1 a2
      · go_enter Try.func95, Try.ntmps95
        go_wp2_with (first | (go_at_call_of 94 (Value.int .i64 a1); refine (valid_any _ _ _ ha10 ha11 ha20 ha21).mono ?_; rintro e wa ⟨rfl, ba⟩; obtain ⟨⟨a00, a01⟩, ⟨a10, a11⟩, asz⟩ := two2 ba) | (go_at_call_of 94 (Value.int .i64 b1); refine (valid_any _ _ _ hb10 hb11 hb20 hb21).mono ?_; rintro e wb ⟨rfl, bb⟩; have bb' := ba.trans (bb.mono ba.size); obtain ⟨⟨b00, b01⟩, ⟨b10, b11⟩, bsz⟩ := two2 bb'))
        all_goals go_returns
        all_goals exact ⟨rfl, by (repeat' (first | with_reducible exact Below.refl _ _ | with_reducible exact Nat.le_refl _ | with_reducible assumption | with_reducible refine below_drewN ?_ _ | with_reducible refine Below.drew ?_ | with_reducible refine Below.alloc ?_ ?_ _ | with_reducible refine Below.setCell ?_ ?_ _ | with_reducible refine le_alloc ?_ _ | with_reducible refine le_setCell ?_ _ _ | with_reducible refine le_drewN ?_ _ | with_reducible refine Below.trans ?_ (Below.mono (by assumption) ?_) | with_reducible refine Nat.le_trans ?_ (Below.size (by assumption)) | exact Nat.le_refl _ | (simp; omega)))⟩
      · cases v2 : validB b1 b2
        · go_enter Try.func95, Try.ntmps95
          go_wp2_with (first | (go_at_call_of 94 (Value.int .i64 a1); refine (valid_any _ _ _ ha10 ha11 ha20 ha21).mono ?_; rintro e wa ⟨rfl, ba⟩; obtain ⟨⟨a00, a01⟩, ⟨a10, a11⟩, asz⟩ := two2 ba) | (go_at_call_of 94 (Value.int .i64 b1); refine (valid_any _ _ _ hb10 hb11 hb20 hb21).mono ?_; rintro e wb ⟨rfl, bb⟩; have bb' := ba.trans (bb.mono ba.size); obtain ⟨⟨b00, b01⟩, ⟨b10, b11⟩, bsz⟩ := two2 bb'))
          all_goals go_returns
          all_goals exact ⟨rfl, by (repeat' (first | with_reducible exact Below.refl _ _ | with_reducible exact Nat.le_refl _ | with_reducible assumption | with_reducible refine below_drewN ?_ _ | with_reducible refine Below.drew ?_ | with_reducible refine Below.alloc ?_ ?_ _ | with_reducible refine Below.setCell ?_ ?_ _ | with_reducible refine le_alloc ?_ _ | with_reducible refine le_setCell ?_ _ _ | with_reducible refine le_drewN ?_ _ | with_reducible refine Below.trans ?_ (Below.mono (by assumption) ?_) | with_reducible refine Nat.le_trans ?_ (Below.size (by assumption)) | exact Nat.le_refl _ | (simp; omega)))⟩
        · obtain ⟨p1, p2, p3, p4⟩ := valid_bd v1
          obtain ⟨q1, q2, q3, q4⟩ := valid_bd v2
          obtain ⟨m0, m0'⟩ := mul_bd (x := a1) (y := b2) (by omega) (by omega) (by omega) (by omega)
          obtain ⟨m1, m1'⟩ := mul_bd (x := b1) (y := a2) (by omega) (by omega) (by omega) (by omega)
          go_enter Try.func95, Try.ntmps95
          go_wp2_with (first | (go_at_call_of 94 (Value.int .i64 a1); refine (valid_any _ _ _ ha10 ha11 ha20 ha21).mono ?_; rintro e wa ⟨rfl, ba⟩; obtain ⟨⟨a00, a01⟩, ⟨a10, a11⟩, asz⟩ := two2 ba) | (go_at_call_of 94 (Value.int .i64 b1); refine (valid_any _ _ _ hb10 hb11 hb20 hb21).mono ?_; rintro e wb ⟨rfl, bb⟩; have bb' := ba.trans (bb.mono ba.size); obtain ⟨⟨b00, b01⟩, ⟨b10, b11⟩, bsz⟩ := two2 bb') | (go_at_call 112; refine (Try.cmp_Compare_int _ _ _).mono ?_; rintro e w' ⟨rfl, rfl⟩))
          all_goals go_returns
          all_goals exact ⟨rfl, by (repeat' (first | with_reducible exact Below.refl _ _ | with_reducible exact Nat.le_refl _ | with_reducible assumption | with_reducible refine below_drewN ?_ _ | with_reducible refine Below.drew ?_ | with_reducible refine Below.alloc ?_ ?_ _ | with_reducible refine Below.setCell ?_ ?_ _ | with_reducible refine le_alloc ?_ _ | with_reducible refine le_setCell ?_ _ _ | with_reducible refine le_drewN ?_ _ | with_reducible refine Below.trans ?_ (Below.mono (by assumption) ?_) | with_reducible refine Nat.le_trans ?_ (Below.size (by assumption)) | exact Nat.le_refl _ | (simp; omega)))⟩
    · have e1 : (a1 == b1) = false := by rw [Bool.eq_false_iff]; simpa using h1
      clear h1 he
      cases v1 : validB a1 a2
      · go_enter Try.func95, Try.ntmps95
        go_wp2_with (first | (go_at_call_of 94 (Value.int .i64 a1); refine (valid_any _ _ _ ha10 ha11 ha20 ha21).mono ?_; rintro e wa ⟨rfl, ba⟩; obtain ⟨⟨a00, a01⟩, ⟨a10, a11⟩, asz⟩ := two2 ba) | (go_at_call_of 94 (Value.int .i64 b1); refine (valid_any _ _ _ hb10 hb11 hb20 hb21).mono ?_; rintro e wb ⟨rfl, bb⟩; have bb' := ba.trans (bb.mono ba.size); obtain ⟨⟨b00, b01⟩, ⟨b10, b11⟩, bsz⟩ := two2 bb'))
        all_goals go_returns
        all_goals exact ⟨rfl, by (repeat' (first | with_reducible exact Below.refl _ _ | with_reducible exact Nat.le_refl _ | with_reducible assumption | with_reducible refine below_drewN ?_ _ | with_reducible refine Below.drew ?_ | with_reducible refine Below.alloc ?_ ?_ _ | with_reducible refine Below.setCell ?_ ?_ _ | with_reducible refine le_alloc ?_ _ | with_reducible refine le_setCell ?_ _ _ | with_reducible refine le_drewN ?_ _ | with_reducible refine Below.trans ?_ (Below.mono (by assumption) ?_) | with_reducible refine Nat.le_trans ?_ (Below.size (by assumption)) | exact Nat.le_refl _ | (simp; omega)))⟩
      · cases v2 : validB b1 b2
        · go_enter Try.func95, Try.ntmps95
          go_wp2_with (first | (go_at_call_of 94 (Value.int .i64 a1); refine (valid_any _ _ _ ha10 ha11 ha20 ha21).mono ?_; rintro e wa ⟨rfl, ba⟩; obtain ⟨⟨a00, a01⟩, ⟨a10, a11⟩, asz⟩ := two2 ba) | (go_at_call_of 94 (Value.int .i64 b1); refine (valid_any _ _ _ hb10 hb11 hb20 hb21).mono ?_; rintro e wb ⟨rfl, bb⟩; have bb' := ba.trans (bb.mono ba.size); obtain ⟨⟨b00, b01⟩, ⟨b10, b11⟩, bsz⟩ := two2 bb'))
          all_goals go_returns
          all_goals exact ⟨rfl, by (repeat' (first | with_reducible exact Below.refl _ _ | with_reducible exact Nat.le_refl _ | with_reducible assumption | with_reducible refine below_drewN ?_ _ | with_reducible refine Below.drew ?_ | with_reducible refine Below.alloc ?_ ?_ _ | with_reducible refine Below.setCell ?_ ?_ _ | with_reducible refine le_alloc ?_ _ | with_reducible refine le_setCell ?_ _ _ | with_reducible refine le_drewN ?_ _ | with_reducible refine Below.trans ?_ (Below.mono (by assumption) ?_) | with_reducible refine Nat.le_trans ?_ (Below.size (by assumption)) | exact Nat.le_refl _ | (simp; omega)))⟩
        · obtain ⟨p1, p2, p3, p4⟩ := valid_bd v1
          obtain ⟨q1, q2, q3, q4⟩ := valid_bd v2
          obtain ⟨m0, m0'⟩ := mul_bd (x := a1) (y := b2) (by omega) (by omega) (by omega) (by omega)
          obtain ⟨m1, m1'⟩ := mul_bd (x := b1) (y := a2) (by omega) (by omega) (by omega) (by omega)
          go_enter Try.func95, Try.ntmps95
          go_wp2_with (first | (go_at_call_of 94 (Value.int .i64 a1); refine (valid_any _ _ _ ha10 ha11 ha20 ha21).mono ?_; rintro e wa ⟨rfl, ba⟩; obtain ⟨⟨a00, a01⟩, ⟨a10, a11⟩, asz⟩ := two2 ba) | (go_at_call_of 94 (Value.int .i64 b1); refine (valid_any _ _ _ hb10 hb11 hb20 hb21).mono ?_; rintro e wb ⟨rfl, bb⟩; have bb' := ba.trans (bb.mono ba.size); obtain ⟨⟨b00, b01⟩, ⟨b10, b11⟩, bsz⟩ := two2 bb') | (go_at_call 112; refine (Try.cmp_Compare_int _ _ _).mono ?_; rintro e w' ⟨rfl, rfl⟩))
          all_goals go_returns
          all_goals exact ⟨rfl, by (repeat' (first | with_reducible exact Below.refl _ _ | with_reducible exact Nat.le_refl _ | with_reducible assumption | with_reducible refine below_drewN ?_ _ | with_reducible refine Below.drew ?_ | with_reducible refine Below.alloc ?_ ?_ _ | with_reducible refine Below.setCell ?_ ?_ _ | with_reducible refine le_alloc ?_ _ | with_reducible refine le_setCell ?_ _ _ | with_reducible refine le_drewN ?_ _ | with_reducible refine Below.trans ?_ (Below.mono (by assumption) ?_) | with_reducible refine Nat.le_trans ?_ (Below.size (by assumption)) | exact Nat.le_refl _ | (simp; omega)))⟩

end Sr
end Go.Proofs.Ytmbeaagpjpphhaa
