/-
  The walks of Valid and Make, of package ratio and of its specification.
  The walks of Make, of package ratio and of its specification.
  The walks of Add, Sub, Mul, Div, of package ratio and of its specification.
  The walks of floor, Floor, Round, Scale, Cmp, of package ratio and of its specification.
-/
import Derived.Test.YteccafndplaklaaZ02
import Derived.Handy
import Derived.Deep.RegionWith
namespace Go.Proofs.Yteccafndplaklaa
namespace Sr
open Go.RowKit

theorem mag_at (n : Int) (a : Nat) (w : World) (ha : a = n.natAbs) (h0 : -9223372036854775808 ≤ n) (h1 : n ≤ 9223372036854775807) :
    Calls Try.prog 73 #[.int .i64 n] w fun e w' => e = .returned (.int .u64 a) ∧ w' = w := by
  subst ha; exact (mag_any n w h0 h1).mono fun _ _ h => ⟨h.1, h.2.symm⟩
theorem size_at (n : Int) (a : Nat) (w : World) (ha : a = n.natAbs) (h0 : -9223372036854775808 ≤ n) (h1 : n ≤ 9223372036854775807) :
    Calls Try.prog 76 #[.int .i64 n] w fun e w' => e = .returned (.int .u64 a) ∧ w' = w := by
  subst ha; exact (size_any n w h0 h1).mono fun _ _ h => ⟨h.1, h.2.symm⟩
theorem div_at (a b g : Nat) (w : World) (hg : g = Nat.gcd a b) (h0 : a < 18446744073709551616) (h1 : b < 18446744073709551616) :
    Calls Try.prog 72 #[.int .u64 a, .int .u64 b] w fun e w' => e = .returned (.int .u64 g) ∧ ∃ n, w' = w.drewN n := by
  subst hg; exact div_any a b w h0 h1
theorem gcd_at (a b g : Nat) (w : World) (hg : g = Nat.gcd a b) (h0 : a < 18446744073709551616) (h1 : b < 18446744073709551616) :
    Calls Try.prog 75 #[.int .u64 a, .int .u64 b] w fun e w' => e = .returned (.int .u64 g) ∧ w' = w := by
  subst hg; exact (gcd_any b a b w (Nat.le_refl _) h0 h1).mono fun _ _ h => ⟨h.1, h.2.symm⟩

theorem valid_of (n d : Int) (g : Nat) (hg : g = Nat.gcd n.natAbs d.natAbs) (h1 : 1 ≤ d) (h2 : d ≤ 1073741824) (h3 : -1073741824 ≤ n) (h4 : n ≤ 1073741824) : validB n d = decide (g = 1) := by
  subst hg; simp [validB, h1, h2, h3, h4]
theorem ret_bool {a b : Bool} (h : a = b) : Ending.returned (.bool a) = .returned (.bool b) := by rw [h]

theorem invalid_of (n d : Int) (h : ¬ (1 ≤ d ∧ d ≤ 1073741824 ∧ -1073741824 ≤ n ∧ n ≤ 1073741824)) : validB n d = false := by
  unfold validB; exact decide_eq_false (by omega)

set_option maxHeartbeats 1000000 in
theorem valid_any (n d : Int) (w : World) (hn0 : -9223372036854775808 ≤ n) (hn1 : n ≤ 9223372036854775807) (hd0 : -9223372036854775808 ≤ d) (hd1 : d ≤ 9223372036854775807) :
    Calls Try.prog 45 #[.agg #[.int .i64 n, .int .i64 d]] w fun e w' => e = .returned (.bool (validB n d)) ∧ Below w.heap.size w w' := by
  by_cases c1 : (1 : Int) ≤ d
  · by_cases c2 : d ≤ 1073741824
    · by_cases c3 : -1073741824 ≤ n
      · by_cases c4 : n ≤ 1073741824
        · obtain ⟨a, ha⟩ : ∃ a : Nat, a = n.natAbs := ⟨_, rfl⟩
          obtain ⟨b, hb⟩ : ∃ b : Nat, b = d.natAbs := ⟨_, rfl⟩
          obtain ⟨g, hg⟩ : ∃ g : Nat, g = Nat.gcd a b := ⟨_, rfl⟩
          have ha1 : a < 18446744073709551616 := by omega
          have hb1 : b < 18446744073709551616 := by omega
          have hv := Lib.hid (valid_of n d g (by rw [hg, ha, hb]) c1 c2 c3 c4)
          have HA := Lib.hid ha; have HB := Lib.hid hb; have HG := Lib.hid hg
          clear ha hb hg
          go_enter Try.func45, Try.ntmps45
          go_wp2_with fail
          go_quiet (first | (go_at_call_of 73 (Value.int .i64 n); exact Calls.quiet_of_same (mag_at _ a _ HA.out hn0 hn1)) | (go_at_call_of 73 (Value.int .i64 d); exact Calls.quiet_of_same (mag_at _ b _ HB.out hd0 hd1)) | (go_at_call 72; exact Calls.quiet_of (div_at _ _ g _ HG.out ha1 hb1)))
          go_wp2_with fail
          go_ret
          exact ⟨ret_bool (by rw [hv.out, Bool.eq_iff_iff]; simp; omega), below_drewN ((Below.refl _ _).alloc (Nat.le_refl _) _) nq⟩
        · have hv := Lib.hid (invalid_of n d (by omega))
          have c4' : decide (n ≤ 1073741824) = false := by simpa using c4
          go_enter Try.func45, Try.ntmps45
          go_wp2_with fail
          go_quiet (fail)
          go_wp2_with fail
          go_ret
          exact ⟨ret_bool hv.out.symm, below_drewN ((Below.refl _ _).alloc (Nat.le_refl _) _) nq⟩
      · have hv := Lib.hid (invalid_of n d (by omega))
        have c3' : decide (-1073741824 ≤ n) = false := by simpa using c3
        go_enter Try.func45, Try.ntmps45
        go_wp2_with fail
        go_quiet (fail)
        go_wp2_with fail
        go_ret
        exact ⟨ret_bool hv.out.symm, below_drewN ((Below.refl _ _).alloc (Nat.le_refl _) _) nq⟩
    · have hv := Lib.hid (invalid_of n d (by omega))
      have c2' : decide (d ≤ 1073741824) = false := by simpa using c2
      go_enter Try.func45, Try.ntmps45
      go_wp2_with fail
      go_quiet (fail)
      go_wp2_with fail
      go_ret
      exact ⟨ret_bool hv.out.symm, below_drewN ((Below.refl _ _).alloc (Nat.le_refl _) _) nq⟩
  · have hv := Lib.hid (invalid_of n d (by omega))
    have c1' : decide ((1 : Int) ≤ d) = false := by simpa using c1
    go_enter Try.func45, Try.ntmps45
    go_wp2_with fail
    go_quiet (fail)
    go_wp2_with fail
    go_ret
    exact ⟨ret_bool hv.out.symm, below_drewN ((Below.refl _ _).alloc (Nat.le_refl _) _) nq⟩

set_option maxHeartbeats 1000000 in
theorem rvalid_any (n d : Int) (w : World) (hn0 : -9223372036854775808 ≤ n) (hn1 : n ≤ 9223372036854775807) (hd0 : -9223372036854775808 ≤ d) (hd1 : d ≤ 9223372036854775807) :
    Calls Try.prog 48 #[.agg #[.int .i64 n, .int .i64 d]] w fun e w' => e = .returned (.bool (validB n d)) ∧ Below w.heap.size w w' := by
  by_cases c1 : (1 : Int) ≤ d
  · by_cases c2 : d ≤ 1073741824
    · by_cases c3 : -1073741824 ≤ n
      · by_cases c4 : n ≤ 1073741824
        · obtain ⟨a, ha⟩ : ∃ a : Nat, a = n.natAbs := ⟨_, rfl⟩
          obtain ⟨b, hb⟩ : ∃ b : Nat, b = d.natAbs := ⟨_, rfl⟩
          obtain ⟨g, hg⟩ : ∃ g : Nat, g = Nat.gcd a b := ⟨_, rfl⟩
          have ha1 : a < 18446744073709551616 := by omega
          have hb1 : b < 18446744073709551616 := by omega
          have hv := Lib.hid (valid_of n d g (by rw [hg, ha, hb]) c1 c2 c3 c4)
          have HA := Lib.hid ha; have HB := Lib.hid hb; have HG := Lib.hid hg
          clear ha hb hg
          go_enter Try.func48, Try.ntmps48
          go_wp2_with fail
          go_quiet (first | (go_at_call_of 76 (Value.int .i64 n); exact Calls.quiet_of_same (size_at _ a _ HA.out hn0 hn1)) | (go_at_call_of 76 (Value.int .i64 d); exact Calls.quiet_of_same (size_at _ b _ HB.out hd0 hd1)) | (go_at_call 75; exact Calls.quiet_of_same (gcd_at _ _ g _ HG.out ha1 hb1)))
          go_wp2_with fail
          go_ret
          exact ⟨ret_bool (by rw [hv.out, Bool.eq_iff_iff]; simp; omega), below_drewN ((Below.refl _ _).alloc (Nat.le_refl _) _) nq⟩
        · have hv := Lib.hid (invalid_of n d (by omega))
          have c4' : 1073741824 < n := by omega
          go_enter Try.func48, Try.ntmps48
          go_wp2_with fail
          go_ret
          exact ⟨ret_bool hv.out.symm, (Below.refl _ _).alloc (Nat.le_refl _) _⟩
      · have hv := Lib.hid (invalid_of n d (by omega))
        have c3' : n < -1073741824 := by omega
        go_enter Try.func48, Try.ntmps48
        go_wp2_with fail
        go_ret
        exact ⟨ret_bool hv.out.symm, (Below.refl _ _).alloc (Nat.le_refl _) _⟩
    · have hv := Lib.hid (invalid_of n d (by omega))
      have c2' : 1073741824 < d := by omega
      go_enter Try.func48, Try.ntmps48
      go_wp2_with fail
      go_ret
      exact ⟨ret_bool hv.out.symm, (Below.refl _ _).alloc (Nat.le_refl _) _⟩
  · have hv := Lib.hid (invalid_of n d (by omega))
    have c1' : d < 1 := by omega
    go_enter Try.func48, Try.ntmps48
    go_wp2_with fail
    go_ret
    exact ⟨ret_bool hv.out.symm, (Below.refl _ _).alloc (Nat.le_refl _) _⟩

end Sr
end Go.Proofs.Yteccafndplaklaa

namespace Go.Proofs.Yteccafndplaklaa
namespace Sr
open Go.RowKit

theorem rets {e1 e2 n1 n2 d1 d2 : Int} (h1 : n1 = n2) (h2 : d1 = d2) (h3 : e1 = e2) : Ending.returned (.tuple #[.agg #[.int .i64 n1, .int .i64 d1], .int .i64 e1]) = .returned (.tuple #[.agg #[.int .i64 n2, .int .i64 d2], .int .i64 e2]) := by rw [h1, h2, h3]

end Sr
end Go.Proofs.Yteccafndplaklaa

namespace Go.Proofs.Yteccafndplaklaa
namespace Sr
open Go.RowKit

theorem bcell {W w1 : World} (hb : Below W.heap.size W w1) : (∀ b o, b < W.heap.size → w1.cell? ⟨b, o, none⟩ = W.cell? ⟨b, o, none⟩) ∧ (∀ b o, b < W.heap.size → w1.frozen? ⟨b, o, none⟩ = W.frozen? ⟨b, o, none⟩) :=
  ⟨fun b o h => hb.cell (p := ⟨b, o, none⟩) h, fun b o h => hb.frozen (p := ⟨b, o, none⟩) h⟩

/-- Behind calls that only make memory: three blocks of two cells, as they were laid. -/
theorem three {w wa : World} {x0 x1 y0 y1 z0 z1 : Value} {T : TypeId}
    (h : Below (((w.alloc (.cells #[x0, x1] T)).alloc (.cells #[y0, y1] T)).alloc (.cells #[z0, z1] T)).heap.size (((w.alloc (.cells #[x0, x1] T)).alloc (.cells #[y0, y1] T)).alloc (.cells #[z0, z1] T)) wa) :
    (wa.cell? ⟨w.heap.size, 0, none⟩ = some x0 ∧ wa.cell? ⟨w.heap.size, 1, none⟩ = some x1) ∧ (wa.cell? ⟨w.heap.size + 1, 0, none⟩ = some y0 ∧ wa.cell? ⟨w.heap.size + 1, 1, none⟩ = some y1) ∧
    (wa.cell? ⟨w.heap.size + 1 + 1, 0, none⟩ = some z0 ∧ wa.cell? ⟨w.heap.size + 1 + 1, 1, none⟩ = some z1) ∧ (wa.frozen? ⟨w.heap.size + 1 + 1, 0, none⟩ = false ∧ wa.frozen? ⟨w.heap.size + 1 + 1, 1, none⟩ = false) ∧ w.heap.size + 1 + 1 < wa.heap.size := by
  have hs := h.size
  simp only [World.size_alloc] at hs
  refine ⟨⟨?_, ?_⟩, ⟨?_, ?_⟩, ⟨?_, ?_⟩, ⟨?_, ?_⟩, by omega⟩
  all_goals first
    | (refine (h.cell (by simp only [World.size_alloc]; omega)).trans ?_; go_simp)
    | (refine (h.frozen (by simp only [World.size_alloc]; omega)).trans ?_; go_simp)

/-- A result of two cells, stored behind calls. -/
theorem two_set {wa : World} {b : Nat} {u0 u1 v0 v1 : Value} (h0 : wa.cell? ⟨b, 0, none⟩ = some u0) (h1 : wa.cell? ⟨b, 1, none⟩ = some u1) :
    ((wa.setCell ⟨b, 0, none⟩ v0).setCell ⟨b, 1, none⟩ v1).cell? ⟨b, 0, none⟩ = some v0 ∧ ((wa.setCell ⟨b, 0, none⟩ v0).setCell ⟨b, 1, none⟩ v1).cell? ⟨b, 1, none⟩ = some v1 := by
  constructor
  · rw [World.cell?_setCell_other _ _ _ _ (by simp)]; exact World.cell?_setCell_same _ _ _ h0
  · exact World.cell?_setCell_same _ _ _ (by rw [World.cell?_setCell_other _ _ _ _ (by simp)]; exact h1)

end Sr
end Go.Proofs.Yteccafndplaklaa

namespace Go.Proofs.Yteccafndplaklaa
namespace Sr
open Go.RowKit

/-- Behind calls that only make memory: one block of two cells, as it was laid. -/
theorem one2 {w wa : World} {x0 x1 : Value} {T : TypeId} (h : Below (w.alloc (.cells #[x0, x1] T)).heap.size (w.alloc (.cells #[x0, x1] T)) wa) :
    wa.cell? ⟨w.heap.size, 0, none⟩ = some x0 ∧ wa.cell? ⟨w.heap.size, 1, none⟩ = some x1 ∧ w.heap.size < wa.heap.size := by
  have hs := h.size
  simp only [World.size_alloc] at hs
  refine ⟨?_, ?_, by omega⟩
  all_goals (refine (h.cell (by simp only [World.size_alloc]; omega)).trans ?_; go_simp)
theorem two2 {w wa : World} {x0 x1 y0 y1 : Value} {T : TypeId} (h : Below ((w.alloc (.cells #[x0, x1] T)).alloc (.cells #[y0, y1] T)).heap.size ((w.alloc (.cells #[x0, x1] T)).alloc (.cells #[y0, y1] T)) wa) :
    (wa.cell? ⟨w.heap.size, 0, none⟩ = some x0 ∧ wa.cell? ⟨w.heap.size, 1, none⟩ = some x1) ∧ (wa.cell? ⟨w.heap.size + 1, 0, none⟩ = some y0 ∧ wa.cell? ⟨w.heap.size + 1, 1, none⟩ = some y1) ∧ w.heap.size + 1 < wa.heap.size := by
  have hs := h.size
  simp only [World.size_alloc] at hs
  refine ⟨⟨?_, ?_⟩, ⟨?_, ?_⟩, by omega⟩
  all_goals (refine (h.cell (by simp only [World.size_alloc]; omega)).trans ?_; go_simp)

set_option maxHeartbeats 1000000 in
theorem floor_any (a b : Int) (w : World) (h0 : -9223372036854775807 ≤ a) (h1 : a ≤ 9223372036854775807) (hb0 : 1 ≤ b) (hb1 : b ≤ 9223372036854775807) :
    Calls Try.prog 74 #[.int .i64 a, .int .i64 b] w fun e w' => e = .returned (.int .i64 (a / b)) ∧ w' = w := by
  by_cases hn : 0 ≤ a
  · have hr : 0 ≤ a % b := Int.emod_nonneg a (by omega)
    go_enter Try.func74, Try.ntmps74
    go_wp2_with fail
    go_returns
    exact ⟨rfl, rfl⟩
  · have hg := fl_ge (a := a) (b := b) (by omega) hb0
    have hl : a / b < 0 := Int.ediv_neg_of_neg_of_pos (by omega) (by omega)
    by_cases hr : a.tmod b < 0
    · have he := Lib.hid (fl_neg (a := a) (b := b) (by omega) hb0 hr)
      have k1 : -9223372036854775808 ≤ a.tdiv b - 1 := by rw [he.out]; omega
      have k2 : a.tdiv b - 1 ≤ 9223372036854775807 := by rw [he.out]; omega
      go_enter Try.func74, Try.ntmps74
      go_wp2_with fail
      go_returns
      exact ⟨ret_int he.out, rfl⟩
    · have he := Lib.hid (fl_exact (a := a) (b := b) (by omega) hb0 (by omega))
      go_enter Try.func74, Try.ntmps74
      go_wp2_with fail
      go_returns
      exact ⟨ret_int he.out, rfl⟩

set_option maxHeartbeats 2000000 in
theorem sc_any (n d k : Int) (w : World) (hn0 : -9223372036854775808 ≤ n) (hn1 : n ≤ 9223372036854775807) (hd0 : -9223372036854775808 ≤ d) (hd1 : d ≤ 9223372036854775807) (hk0 : -9223372036854775808 ≤ k) (hk1 : k ≤ 9223372036854775807) :
    Calls Try.prog 46 #[.agg #[.int .i64 n, .int .i64 d], .int .i64 k] w fun e w' => e = .returned (.tuple #[.int .i64 (scV (validB n d) n d k), .int .i64 (scE (validB n d) k)]) ∧ Below w.heap.size w w' := by
  cases v1 : validB n d
  · go_enter Try.func46, Try.ntmps46
    go_wp2_with (go_at_call 45; refine (valid_any _ _ _ hn0 hn1 hd0 hd1).mono ?_; rintro e wa ⟨rfl, ba⟩; obtain ⟨a0, a1, asz⟩ := one2 ba)
    go_returns
    exact ⟨rfl, by (repeat' (first | with_reducible exact Below.refl _ _ | with_reducible exact Nat.le_refl _ | with_reducible assumption | with_reducible refine below_drewN ?_ _ | with_reducible refine Below.drew ?_ | with_reducible refine Below.alloc ?_ ?_ _ | with_reducible refine Below.setCell ?_ ?_ _ | with_reducible refine le_alloc ?_ _ | with_reducible refine le_setCell ?_ _ _ | with_reducible refine le_drewN ?_ _ | with_reducible refine Below.trans ?_ (Below.mono (by assumption) ?_) | with_reducible refine Nat.le_trans ?_ (Below.size (by assumption)) | exact Nat.le_refl _ | (simp; omega)))⟩
  · by_cases c1 : k < -4294967296
    · have e1 := Lib.hid (show scE true k = 3 from if_pos (Or.inl c1))
      have e2 := Lib.hid (show scV true n d k = 0 from if_pos (Or.inl c1))
      go_enter Try.func46, Try.ntmps46
      go_wp2_with (go_at_call 45; refine (valid_any _ _ _ hn0 hn1 hd0 hd1).mono ?_; rintro e wa ⟨rfl, ba⟩; obtain ⟨a0, a1, asz⟩ := one2 ba)
      go_returns
      exact ⟨by rw [e1.out, e2.out]; rfl, by (repeat' (first | with_reducible exact Below.refl _ _ | with_reducible exact Nat.le_refl _ | with_reducible assumption | with_reducible refine below_drewN ?_ _ | with_reducible refine Below.drew ?_ | with_reducible refine Below.alloc ?_ ?_ _ | with_reducible refine Below.setCell ?_ ?_ _ | with_reducible refine le_alloc ?_ _ | with_reducible refine le_setCell ?_ _ _ | with_reducible refine le_drewN ?_ _ | with_reducible refine Below.trans ?_ (Below.mono (by assumption) ?_) | with_reducible refine Nat.le_trans ?_ (Below.size (by assumption)) | exact Nat.le_refl _ | (simp; omega)))⟩
    · by_cases c2 : 4294967296 < k
      · have e1 := Lib.hid (show scE true k = 3 from if_pos (Or.inr c2))
        have e2 := Lib.hid (show scV true n d k = 0 from if_pos (Or.inr c2))
        go_enter Try.func46, Try.ntmps46
        go_wp2_with (go_at_call 45; refine (valid_any _ _ _ hn0 hn1 hd0 hd1).mono ?_; rintro e wa ⟨rfl, ba⟩; obtain ⟨a0, a1, asz⟩ := one2 ba)
        go_returns
        exact ⟨by rw [e1.out, e2.out]; rfl, by (repeat' (first | with_reducible exact Below.refl _ _ | with_reducible exact Nat.le_refl _ | with_reducible assumption | with_reducible refine below_drewN ?_ _ | with_reducible refine Below.drew ?_ | with_reducible refine Below.alloc ?_ ?_ _ | with_reducible refine Below.setCell ?_ ?_ _ | with_reducible refine le_alloc ?_ _ | with_reducible refine le_setCell ?_ _ _ | with_reducible refine le_drewN ?_ _ | with_reducible refine Below.trans ?_ (Below.mono (by assumption) ?_) | with_reducible refine Nat.le_trans ?_ (Below.size (by assumption)) | exact Nat.le_refl _ | (simp; omega)))⟩
      · have e1 := Lib.hid (show scE true k = 0 from if_neg (by omega))
        have e2 := Lib.hid (show scV true n d k = n * k / d from if_neg (by omega))
        obtain ⟨p1, p2, p3, p4⟩ := valid_bd v1
        obtain ⟨m1, m2⟩ := scale_bd p3 p4 (by omega) (show k ≤ 4294967296 by omega)
        have m4 : d ≤ 9223372036854775807 := by omega
        go_enter Try.func46, Try.ntmps46
        go_wp2_with (first | (go_at_call 45; refine (valid_any _ _ _ hn0 hn1 hd0 hd1).mono ?_; rintro e wa ⟨rfl, ba⟩; obtain ⟨a0, a1, asz⟩ := one2 ba) | (go_at_call 74; refine (floor_any _ _ _ m1 m2 p1 m4).mono ?_; rintro e w' ⟨rfl, rfl⟩))
        go_returns
        exact ⟨by rw [e1.out, e2.out]; rfl, by (repeat' (first | with_reducible exact Below.refl _ _ | with_reducible exact Nat.le_refl _ | with_reducible assumption | with_reducible refine below_drewN ?_ _ | with_reducible refine Below.drew ?_ | with_reducible refine Below.alloc ?_ ?_ _ | with_reducible refine Below.setCell ?_ ?_ _ | with_reducible refine le_alloc ?_ _ | with_reducible refine le_setCell ?_ _ _ | with_reducible refine le_drewN ?_ _ | with_reducible refine Below.trans ?_ (Below.mono (by assumption) ?_) | with_reducible refine Nat.le_trans ?_ (Below.size (by assumption)) | exact Nat.le_refl _ | (simp; omega)))⟩

set_option maxHeartbeats 1000000 in
theorem rfloor_any (a b : Int) (w : World) (h0 : -9223372036854775807 ≤ a) (h1 : a ≤ 9223372036854775807) (hb0 : 1 ≤ b) (hb1 : b ≤ 9223372036854775807) :
    Calls Try.prog 77 #[.int .i64 a, .int .i64 b] w fun e w' => e = .returned (.int .i64 (a / b)) ∧ w' = w := by
  by_cases hn : 0 ≤ a
  · have hr : 0 ≤ a % b := Int.emod_nonneg a (by omega)
    go_enter Try.func77, Try.ntmps77
    go_wp2_with fail
    go_returns
    exact ⟨rfl, rfl⟩
  · have hg := fl_ge (a := a) (b := b) (by omega) hb0
    have hl : a / b < 0 := Int.ediv_neg_of_neg_of_pos (by omega) (by omega)
    by_cases hr : a.tmod b < 0
    · have he := Lib.hid (fl_neg (a := a) (b := b) (by omega) hb0 hr)
      have k1 : -9223372036854775808 ≤ a.tdiv b - 1 := by rw [he.out]; omega
      have k2 : a.tdiv b - 1 ≤ 9223372036854775807 := by rw [he.out]; omega
      go_enter Try.func77, Try.ntmps77
      go_wp2_with fail
      go_returns
      exact ⟨ret_int he.out, rfl⟩
    · have he := Lib.hid (fl_exact (a := a) (b := b) (by omega) hb0 (by omega))
      go_enter Try.func77, Try.ntmps77
      go_wp2_with fail
      go_returns
      exact ⟨ret_int he.out, rfl⟩

set_option maxHeartbeats 2000000 in
theorem rsc_any (n d k : Int) (w : World) (hn0 : -9223372036854775808 ≤ n) (hn1 : n ≤ 9223372036854775807) (hd0 : -9223372036854775808 ≤ d) (hd1 : d ≤ 9223372036854775807) (hk0 : -9223372036854775808 ≤ k) (hk1 : k ≤ 9223372036854775807) :
    Calls Try.prog 49 #[.agg #[.int .i64 n, .int .i64 d], .int .i64 k] w fun e w' => e = .returned (.tuple #[.int .i64 (scV (validB n d) n d k), .int .i64 (scE (validB n d) k)]) ∧ Below w.heap.size w w' := by
  cases v1 : validB n d
  · go_enter Try.func49, Try.ntmps49
    go_wp2_with (go_at_call 48; refine (rvalid_any _ _ _ hn0 hn1 hd0 hd1).mono ?_; rintro e wa ⟨rfl, ba⟩; obtain ⟨a0, a1, asz⟩ := one2 ba)
    go_returns
    exact ⟨rfl, by (repeat' (first | with_reducible exact Below.refl _ _ | with_reducible exact Nat.le_refl _ | with_reducible assumption | with_reducible refine below_drewN ?_ _ | with_reducible refine Below.drew ?_ | with_reducible refine Below.alloc ?_ ?_ _ | with_reducible refine Below.setCell ?_ ?_ _ | with_reducible refine le_alloc ?_ _ | with_reducible refine le_setCell ?_ _ _ | with_reducible refine le_drewN ?_ _ | with_reducible refine Below.trans ?_ (Below.mono (by assumption) ?_) | with_reducible refine Nat.le_trans ?_ (Below.size (by assumption)) | exact Nat.le_refl _ | (simp; omega)))⟩
  · by_cases c1 : k < -4294967296
    · have e1 := Lib.hid (show scE true k = 3 from if_pos (Or.inl c1))
      have e2 := Lib.hid (show scV true n d k = 0 from if_pos (Or.inl c1))
      go_enter Try.func49, Try.ntmps49
      go_wp2_with (go_at_call 48; refine (rvalid_any _ _ _ hn0 hn1 hd0 hd1).mono ?_; rintro e wa ⟨rfl, ba⟩; obtain ⟨a0, a1, asz⟩ := one2 ba)
      go_returns
      exact ⟨by rw [e1.out, e2.out]; rfl, by (repeat' (first | with_reducible exact Below.refl _ _ | with_reducible exact Nat.le_refl _ | with_reducible assumption | with_reducible refine below_drewN ?_ _ | with_reducible refine Below.drew ?_ | with_reducible refine Below.alloc ?_ ?_ _ | with_reducible refine Below.setCell ?_ ?_ _ | with_reducible refine le_alloc ?_ _ | with_reducible refine le_setCell ?_ _ _ | with_reducible refine le_drewN ?_ _ | with_reducible refine Below.trans ?_ (Below.mono (by assumption) ?_) | with_reducible refine Nat.le_trans ?_ (Below.size (by assumption)) | exact Nat.le_refl _ | (simp; omega)))⟩
    · by_cases c2 : 4294967296 < k
      · have e1 := Lib.hid (show scE true k = 3 from if_pos (Or.inr c2))
        have e2 := Lib.hid (show scV true n d k = 0 from if_pos (Or.inr c2))
        go_enter Try.func49, Try.ntmps49
        go_wp2_with (go_at_call 48; refine (rvalid_any _ _ _ hn0 hn1 hd0 hd1).mono ?_; rintro e wa ⟨rfl, ba⟩; obtain ⟨a0, a1, asz⟩ := one2 ba)
        go_returns
        exact ⟨by rw [e1.out, e2.out]; rfl, by (repeat' (first | with_reducible exact Below.refl _ _ | with_reducible exact Nat.le_refl _ | with_reducible assumption | with_reducible refine below_drewN ?_ _ | with_reducible refine Below.drew ?_ | with_reducible refine Below.alloc ?_ ?_ _ | with_reducible refine Below.setCell ?_ ?_ _ | with_reducible refine le_alloc ?_ _ | with_reducible refine le_setCell ?_ _ _ | with_reducible refine le_drewN ?_ _ | with_reducible refine Below.trans ?_ (Below.mono (by assumption) ?_) | with_reducible refine Nat.le_trans ?_ (Below.size (by assumption)) | exact Nat.le_refl _ | (simp; omega)))⟩
      · have e1 := Lib.hid (show scE true k = 0 from if_neg (by omega))
        have e2 := Lib.hid (show scV true n d k = n * k / d from if_neg (by omega))
        obtain ⟨p1, p2, p3, p4⟩ := valid_bd v1
        obtain ⟨m1, m2⟩ := scale_bd p3 p4 (by omega) (show k ≤ 4294967296 by omega)
        have m4 : d ≤ 9223372036854775807 := by omega
        go_enter Try.func49, Try.ntmps49
        go_wp2_with (first | (go_at_call 48; refine (rvalid_any _ _ _ hn0 hn1 hd0 hd1).mono ?_; rintro e wa ⟨rfl, ba⟩; obtain ⟨a0, a1, asz⟩ := one2 ba) | (go_at_call 77; refine (rfloor_any _ _ _ m1 m2 p1 m4).mono ?_; rintro e w' ⟨rfl, rfl⟩))
        go_returns
        exact ⟨by rw [e1.out, e2.out]; rfl, by (repeat' (first | with_reducible exact Below.refl _ _ | with_reducible exact Nat.le_refl _ | with_reducible assumption | with_reducible refine below_drewN ?_ _ | with_reducible refine Below.drew ?_ | with_reducible refine Below.alloc ?_ ?_ _ | with_reducible refine Below.setCell ?_ ?_ _ | with_reducible refine le_alloc ?_ _ | with_reducible refine le_setCell ?_ _ _ | with_reducible refine le_drewN ?_ _ | with_reducible refine Below.trans ?_ (Below.mono (by assumption) ?_) | with_reducible refine Nat.le_trans ?_ (Below.size (by assumption)) | exact Nat.le_refl _ | (simp; omega)))⟩

end Sr
end Go.Proofs.Yteccafndplaklaa
