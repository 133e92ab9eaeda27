/-
  The walks of Valid and Make, of package ratio and of its specification.
  The walks of Make, of package ratio and of its specification.
  The walks of Add, Sub, Mul, Div, of package ratio and of its specification.
  The walks of floor, Floor, Round, Scale, Cmp, of package ratio and of its specification.
-/
import Derived.Test.YtmbeaagpjpphhaaZ03
import Derived.Handy
import Derived.Deep.RegionWith
namespace Go.Proofs.Ytmbeaagpjpphhaa
namespace Sr
open Go.RowKit

theorem mag_at (n : Int) (a : Nat) (w : World) (ha : a = n.natAbs) (h0 : -9223372036854775808 ≤ n) (h1 : n ≤ 9223372036854775807) :
    Calls Try.prog 111 #[.int .i64 n] w fun e w' => e = .returned (.int .u64 a) ∧ w' = w := by
  subst ha; exact (mag_any n w h0 h1).mono fun _ _ h => ⟨h.1, h.2.symm⟩
theorem size_at (n : Int) (a : Nat) (w : World) (ha : a = n.natAbs) (h0 : -9223372036854775808 ≤ n) (h1 : n ≤ 9223372036854775807) :
    Calls Try.prog 97 #[.int .i64 n] w fun e w' => e = .returned (.int .u64 a) ∧ w' = w := by
  subst ha; exact (size_any n w h0 h1).mono fun _ _ h => ⟨h.1, h.2.symm⟩
theorem div_at (a b g : Nat) (w : World) (hg : g = Nat.gcd a b) (h0 : a < 18446744073709551616) (h1 : b < 18446744073709551616) :
    Calls Try.prog 110 #[.int .u64 a, .int .u64 b] w fun e w' => e = .returned (.int .u64 g) ∧ ∃ n, w' = w.drewN n := by
  subst hg; exact div_any a b w h0 h1
theorem gcd_at (a b g : Nat) (w : World) (hg : g = Nat.gcd a b) (h0 : a < 18446744073709551616) (h1 : b < 18446744073709551616) :
    Calls Try.prog 96 #[.int .u64 a, .int .u64 b] w fun e w' => e = .returned (.int .u64 g) ∧ w' = w := by
  subst hg; exact (gcd_any b a b w (Nat.le_refl _) h0 h1).mono fun _ _ h => ⟨h.1, h.2.symm⟩

theorem valid_of (n d : Int) (g : Nat) (hg : g = Nat.gcd n.natAbs d.natAbs) (h1 : 1 ≤ d) (h2 : d ≤ 1073741824) (h3 : -1073741824 ≤ n) (h4 : n ≤ 1073741824) : validB n d = decide (g = 1) := by
  subst hg; simp [validB, h1, h2, h3, h4]
theorem ret_bool {a b : Bool} (h : a = b) : Ending.returned (.bool a) = .returned (.bool b) := by rw [h]

theorem invalid_of (n d : Int) (h : ¬ (1 ≤ d ∧ d ≤ 1073741824 ∧ -1073741824 ≤ n ∧ n ≤ 1073741824)) : validB n d = false := by
  unfold validB; exact decide_eq_false (by omega)

set_option maxHeartbeats 1000000 in
theorem valid_any (n d : Int) (w : World) (hn0 : -9223372036854775808 ≤ n) (hn1 : n ≤ 9223372036854775807) (hd0 : -9223372036854775808 ≤ d) (hd1 : d ≤ 9223372036854775807) :
    Calls Try.prog 94 #[.agg #[.int .i64 n, .int .i64 d]] w fun e w' => e = .returned (.bool (validB n d)) ∧ Below w.heap.size w w' := by
  by_cases c1 : (1 : Int) ≤ d
  · by_cases c2 : d ≤ 1073741824
    · by_cases c3 : -1073741824 ≤ n
      · by_cases c4 : n ≤ 1073741824
        · obtain ⟨a, ha⟩ : ∃ a : Nat, a = n.natAbs := ⟨_, rfl⟩
          obtain ⟨b, hb⟩ : ∃ b : Nat, b = d.natAbs := ⟨_, rfl⟩
          obtain ⟨g, hg⟩ : ∃ g : Nat, g = Nat.gcd a b := ⟨_, rfl⟩
          have ha1 : a < 18446744073709551616 := by omega
          have hb1 : b < 18446744073709551616 := by omega
          have hv := Lib.hid (valid_of n d g (by rw [hg, ha, hb]) c1 c2 c3 c4)
          have HA := Lib.hid ha; have HB := Lib.hid hb; have HG := Lib.hid hg
          clear ha hb hg
          go_enter Try.func94, Try.ntmps94
          go_wp2_with fail
          go_quiet (first | (go_at_call_of 111 (Value.int .i64 n); exact Calls.quiet_of_same (mag_at _ a _ HA.out hn0 hn1)) | (go_at_call_of 111 (Value.int .i64 d); exact Calls.quiet_of_same (mag_at _ b _ HB.out hd0 hd1)) | (go_at_call 110; exact Calls.quiet_of (div_at _ _ g _ HG.out ha1 hb1)))
          go_wp2_with fail
          go_ret
          exact ⟨ret_bool (by rw [hv.out, Bool.eq_iff_iff]; simp; omega), below_drewN ((Below.refl _ _).alloc (Nat.le_refl _) _) nq⟩
        · have hv := Lib.hid (invalid_of n d (by omega))
          have c4' : decide (n ≤ 1073741824) = false := by simpa using c4
          go_enter Try.func94, Try.ntmps94
          go_wp2_with fail
          go_quiet (fail)
          go_wp2_with fail
          go_ret
          exact ⟨ret_bool hv.out.symm, below_drewN ((Below.refl _ _).alloc (Nat.le_refl _) _) nq⟩
      · have hv := Lib.hid (invalid_of n d (by omega))
        have c3' : decide (-1073741824 ≤ n) = false := by simpa using c3
        go_enter Try.func94, Try.ntmps94
        go_wp2_with fail
        go_quiet (fail)
        go_wp2_with fail
        go_ret
        exact ⟨ret_bool hv.out.symm, below_drewN ((Below.refl _ _).alloc (Nat.le_refl _) _) nq⟩
    · have hv := Lib.hid (invalid_of n d (by omega))
      have c2' : decide (d ≤ 1073741824) = false := by simpa using c2
      go_enter Try.func94, Try.ntmps94
      go_wp2_with fail
      go_quiet (fail)
      go_wp2_with fail
      go_ret
      exact ⟨ret_bool hv.out.symm, below_drewN ((Below.refl _ _).alloc (Nat.le_refl _) _) nq⟩
  · have hv := Lib.hid (invalid_of n d (by omega))
    have c1' : decide ((1 : Int) ≤ d) = false := by simpa using c1
    go_enter Try.func94, Try.ntmps94
    go_wp2_with fail
    go_quiet (fail)
    go_wp2_with fail
    go_ret
    exact ⟨ret_bool hv.out.symm, below_drewN ((Below.refl _ _).alloc (Nat.le_refl _) _) nq⟩

set_option maxHeartbeats 1000000 in
theorem rvalid_any (n d : Int) (w : World) (hn0 : -9223372036854775808 ≤ n) (hn1 : n ≤ 9223372036854775807) (hd0 : -9223372036854775808 ≤ d) (hd1 : d ≤ 9223372036854775807) :
    Calls Try.prog 61 #[.agg #[.int .i64 n, .int .i64 d]] w fun e w' => e = .returned (.bool (validB n d)) ∧ Below w.heap.size w w' := by
  by_cases c1 : (1 : Int) ≤ d
  · by_cases c2 : d ≤ 1073741824
    · by_cases c3 : -1073741824 ≤ n
      · by_cases c4 : n ≤ 1073741824
        · obtain ⟨a, ha⟩ : ∃ a : Nat, a = n.natAbs := ⟨_, rfl⟩
          obtain ⟨b, hb⟩ : ∃ b : Nat, b = d.natAbs := ⟨_, rfl⟩
          obtain ⟨g, hg⟩ : ∃ g : Nat, g = Nat.gcd a b := ⟨_, rfl⟩
          have ha1 : a < 18446744073709551616 := by omega
          have hb1 : b < 18446744073709551616 := by omega
          have hv := Lib.hid (valid_of n d g (by rw [hg, ha, hb]) c1 c2 c3 c4)
          have HA := Lib.hid ha; have HB := Lib.hid hb; have HG := Lib.hid hg
          clear ha hb hg
          go_enter Try.func61, Try.ntmps61
          go_wp2_with fail
          go_quiet (first | (go_at_call_of 97 (Value.int .i64 n); exact Calls.quiet_of_same (size_at _ a _ HA.out hn0 hn1)) | (go_at_call_of 97 (Value.int .i64 d); exact Calls.quiet_of_same (size_at _ b _ HB.out hd0 hd1)) | (go_at_call 96; exact Calls.quiet_of_same (gcd_at _ _ g _ HG.out ha1 hb1)))
          go_wp2_with fail
          go_ret
          exact ⟨ret_bool (by rw [hv.out, Bool.eq_iff_iff]; simp; omega), below_drewN ((Below.refl _ _).alloc (Nat.le_refl _) _) nq⟩
        · have hv := Lib.hid (invalid_of n d (by omega))
          have c4' : 1073741824 < n := by omega
          go_enter Try.func61, Try.ntmps61
          go_wp2_with fail
          go_ret
          exact ⟨ret_bool hv.out.symm, (Below.refl _ _).alloc (Nat.le_refl _) _⟩
      · have hv := Lib.hid (invalid_of n d (by omega))
        have c3' : n < -1073741824 := by omega
        go_enter Try.func61, Try.ntmps61
        go_wp2_with fail
        go_ret
        exact ⟨ret_bool hv.out.symm, (Below.refl _ _).alloc (Nat.le_refl _) _⟩
    · have hv := Lib.hid (invalid_of n d (by omega))
      have c2' : 1073741824 < d := by omega
      go_enter Try.func61, Try.ntmps61
      go_wp2_with fail
      go_ret
      exact ⟨ret_bool hv.out.symm, (Below.refl _ _).alloc (Nat.le_refl _) _⟩
  · have hv := Lib.hid (invalid_of n d (by omega))
    have c1' : d < 1 := by omega
    go_enter Try.func61, Try.ntmps61
    go_wp2_with fail
    go_ret
    exact ⟨ret_bool hv.out.symm, (Below.refl _ _).alloc (Nat.le_refl _) _⟩

end Sr
end Go.Proofs.Ytmbeaagpjpphhaa

namespace Go.Proofs.Ytmbeaagpjpphhaa
namespace Sr
open Go.RowKit

theorem rets {e1 e2 n1 n2 d1 d2 : Int} (h1 : n1 = n2) (h2 : d1 = d2) (h3 : e1 = e2) : Ending.returned (.tuple #[.agg #[.int .i64 n1, .int .i64 d1], .int .i64 e1]) = .returned (.tuple #[.agg #[.int .i64 n2, .int .i64 d2], .int .i64 e2]) := by rw [h1, h2, h3]

end Sr
end Go.Proofs.Ytmbeaagpjpphhaa

namespace Go.Proofs.Ytmbeaagpjpphhaa
namespace Sr
open Go.RowKit

theorem bcell {W w1 : World} (hb : Below W.heap.size W w1) : (∀ b o, b < W.heap.size → w1.cell? ⟨b, o, none⟩ = W.cell? ⟨b, o, none⟩) ∧ (∀ b o, b < W.heap.size → w1.frozen? ⟨b, o, none⟩ = W.frozen? ⟨b, o, none⟩) :=
  ⟨fun b o h => hb.cell (p := ⟨b, o, none⟩) h, fun b o h => hb.frozen (p := ⟨b, o, none⟩) h⟩

/-- Behind calls that only make memory: three blocks of two cells, as they were laid. -/
theorem three {w wa : World} {x0 x1 y0 y1 z0 z1 : Value} {T : TypeId}
    (h : Below (((w.alloc (.cells #[x0, x1] T)).alloc (.cells #[y0, y1] T)).alloc (.cells #[z0, z1] T)).heap.size (((w.alloc (.cells #[x0, x1] T)).alloc (.cells #[y0, y1] T)).alloc (.cells #[z0, z1] T)) wa) :
    (wa.cell? ⟨w.heap.size, 0, none⟩ = some x0 ∧ wa.cell? ⟨w.heap.size, 1, none⟩ = some x1) ∧ (wa.cell? ⟨w.heap.size + 1, 0, none⟩ = some y0 ∧ wa.cell? ⟨w.heap.size + 1, 1, none⟩ = some y1) ∧
    (wa.cell? ⟨w.heap.size + 1 + 1, 0, none⟩ = some z0 ∧ wa.cell? ⟨w.heap.size + 1 + 1, 1, none⟩ = some z1) ∧ (wa.frozen? ⟨w.heap.size + 1 + 1, 0, none⟩ = false ∧ wa.frozen? ⟨w.heap.size + 1 + 1, 1, none⟩ = false) ∧ w.heap.size + 1 + 1 < wa.heap.size := by
  have hs := h.size
  simp only [World.size_alloc] at hs
  refine ⟨⟨?_, ?_⟩, ⟨?_, ?_⟩, ⟨?_, ?_⟩, ⟨?_, ?_⟩, by omega⟩
  all_goals first
    | (refine (h.cell (by simp only [World.size_alloc]; omega)).trans ?_; go_simp)
    | (refine (h.frozen (by simp only [World.size_alloc]; omega)).trans ?_; go_simp)

/-- A result of two cells, stored behind calls. -/
theorem two_set {wa : World} {b : Nat} {u0 u1 v0 v1 : Value} (h0 : wa.cell? ⟨b, 0, none⟩ = some u0) (h1 : wa.cell? ⟨b, 1, none⟩ = some u1) :
    ((wa.setCell ⟨b, 0, none⟩ v0).setCell ⟨b, 1, none⟩ v1).cell? ⟨b, 0, none⟩ = some v0 ∧ ((wa.setCell ⟨b, 0, none⟩ v0).setCell ⟨b, 1, none⟩ v1).cell? ⟨b, 1, none⟩ = some v1 := by
  constructor
  · rw [World.cell?_setCell_other _ _ _ _ (by simp)]; exact World.cell?_setCell_same _ _ _ h0
  · exact World.cell?_setCell_same _ _ _ (by rw [World.cell?_setCell_other _ _ _ _ (by simp)]; exact h1)

end Sr
end Go.Proofs.Ytmbeaagpjpphhaa

namespace Go.Proofs.Ytmbeaagpjpphhaa
namespace Sr
open Go.RowKit

/-- Behind calls that only make memory: one block of two cells, as it was laid. -/
theorem one2 {w wa : World} {x0 x1 : Value} {T : TypeId} (h : Below (w.alloc (.cells #[x0, x1] T)).heap.size (w.alloc (.cells #[x0, x1] T)) wa) :
    wa.cell? ⟨w.heap.size, 0, none⟩ = some x0 ∧ wa.cell? ⟨w.heap.size, 1, none⟩ = some x1 ∧ w.heap.size < wa.heap.size := by
  have hs := h.size
  simp only [World.size_alloc] at hs
  refine ⟨?_, ?_, by omega⟩
  all_goals (refine (h.cell (by simp only [World.size_alloc]; omega)).trans ?_; go_simp)
theorem two2 {w wa : World} {x0 x1 y0 y1 : Value} {T : TypeId} (h : Below ((w.alloc (.cells #[x0, x1] T)).alloc (.cells #[y0, y1] T)).heap.size ((w.alloc (.cells #[x0, x1] T)).alloc (.cells #[y0, y1] T)) wa) :
    (wa.cell? ⟨w.heap.size, 0, none⟩ = some x0 ∧ wa.cell? ⟨w.heap.size, 1, none⟩ = some x1) ∧ (wa.cell? ⟨w.heap.size + 1, 0, none⟩ = some y0 ∧ wa.cell? ⟨w.heap.size + 1, 1, none⟩ = some y1) ∧ w.heap.size + 1 < wa.heap.size := by
  have hs := h.size
  simp only [World.size_alloc] at hs
  refine ⟨⟨?_, ?_⟩, ⟨?_, ?_⟩, by omega⟩
  all_goals (refine (h.cell (by simp only [World.size_alloc]; omega)).trans ?_; go_simp)

end Sr
end Go.Proofs.Ytmbeaagpjpphhaa
