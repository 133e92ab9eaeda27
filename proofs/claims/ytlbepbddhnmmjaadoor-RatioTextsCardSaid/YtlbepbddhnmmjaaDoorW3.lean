/-
  The walks of Make, of package ratio and of its specification.
-/
import Derived.Test.YtlbepbddhnmmjaaDoorW2
namespace Go.Proofs.YtlbepbddhnmmjaaDoor
open Go.RowKit

theorem rets {e1 e2 n1 n2 d1 d2 : Int} (h1 : n1 = n2) (h2 : d1 = d2) (h3 : e1 = e2) : Ending.returned (.tuple #[.agg #[.int .i64 n1, .int .i64 d1], .int .i64 e1]) = .returned (.tuple #[.agg #[.int .i64 n2, .int .i64 d2], .int .i64 e2]) := by rw [h1, h2, h3]

set_option maxHeartbeats 1000000 in
theorem make_zero (n : Int) (w : World) :
    Calls Tryd.prog 17 #[.int .i64 n, .int .i64 0] w fun e w' => e = .returned (.tuple #[.agg #[.int .i64 (mkN n 0), .int .i64 (mkD n 0)], .int .i64 (mkE n 0)]) ∧ Below w.heap.size w w' := by
  have hm := Lib.hid (mk_zero n)
  go_enter Tryd.func17, Tryd.ntmps17
  go_wp2_with fail
  go_returns
  exact ⟨rets hm.out.2.1.symm hm.out.2.2.symm hm.out.1.symm, by (repeat' (first | with_reducible exact Below.refl _ _ | with_reducible exact Nat.le_refl _ | with_reducible assumption | with_reducible refine below_drewN ?_ _ | with_reducible refine Below.alloc ?_ ?_ _ | with_reducible refine Below.setCell ?_ ?_ _ | with_reducible refine le_alloc ?_ _ | with_reducible refine le_setCell ?_ _ _ | with_reducible refine le_drewN ?_ _ | exact Nat.le_refl _))⟩

set_option maxHeartbeats 2000000 in
theorem make_over (n d : Int) (w : World) (hn0 : -9223372036854775808 ≤ n) (hn1 : n ≤ 9223372036854775807) (hd0 : -9223372036854775808 ≤ d) (hd1 : d ≤ 9223372036854775807) (hz : ¬ d = 0) (hov : 1073741824 < lowN n d ∨ 1073741824 < lowD n d) :
    Calls Tryd.prog 17 #[.int .i64 n, .int .i64 d] w fun e w' => e = .returned (.tuple #[.agg #[.int .i64 (mkN n d), .int .i64 (mkD n d)], .int .i64 (mkE n d)]) ∧ Below w.heap.size w w' := by
  have HM := Lib.hid (mk_over hz hov)
  obtain ⟨a, ha⟩ : ∃ a : Nat, a = n.natAbs := ⟨_, rfl⟩
  obtain ⟨b, hb⟩ : ∃ b : Nat, b = d.natAbs := ⟨_, rfl⟩
  obtain ⟨g, hg⟩ : ∃ g : Nat, g = Nat.gcd a b := ⟨_, rfl⟩
  have ha1 : a < 18446744073709551616 := by omega
  have hb1 : b < 18446744073709551616 := by omega
  have hb0 : 0 < b := by omega
  have hg0 : 0 < g := by rw [hg]; exact Nat.gcd_pos_of_pos_right _ hb0
  have ea : (a : Int) / (g : Int) = (lowN n d : Nat) := by rw [← Int.natCast_ediv]; congr 1; rw [hg, ha, hb]; rfl
  have eb : (b : Int) / (g : Int) = (lowD n d : Nat) := by rw [← Int.natCast_ediv]; congr 1; rw [hg, ha, hb]; rfl
  have hla := lowN_le n d
  have hlb := lowD_le n d
  have hp0 : (0 : Int) ≤ (a : Int) / (g : Int) := by rw [ea]; omega
  have hp1 : (a : Int) / (g : Int) ≤ 9223372036854775808 := by rw [ea]; omega
  have hq0 : (0 : Int) ≤ (b : Int) / (g : Int) := by rw [eb]; omega
  have hq1 : (b : Int) / (g : Int) ≤ 9223372036854775808 := by rw [eb]; omega
  have HA := Lib.hid ha; have HB := Lib.hid hb; have HG := Lib.hid hg
  have EA := Lib.hid ea; have EB := Lib.hid eb
  clear ha hb hg hla hlb ea eb
  by_cases c1 : (1073741824 : Int) < (a : Int) / (g : Int)
  · go_enter Tryd.func17, Tryd.ntmps17
    go_wp2_with (first | (go_at_call_of 40 (Value.int .i64 n); refine (mag_at _ a _ HA.out hn0 hn1).mono ?_; rintro e w' ⟨rfl, rfl⟩) | (go_at_call_of 40 (Value.int .i64 d); refine (mag_at _ b _ HB.out hd0 hd1).mono ?_; rintro e w' ⟨rfl, rfl⟩) | (go_at_call 39; refine (div_at _ _ g _ HG.out ha1 hb1).mono ?_; rintro e w' ⟨rfl, k, rfl⟩))
    go_quiet (fail)
    go_wp2_with fail
    go_returns
    exact ⟨rets HM.out.2.1.symm HM.out.2.2.symm HM.out.1.symm, by (repeat' (first | with_reducible exact Below.refl _ _ | with_reducible exact Nat.le_refl _ | with_reducible assumption | with_reducible refine below_drewN ?_ _ | with_reducible refine Below.alloc ?_ ?_ _ | with_reducible refine Below.setCell ?_ ?_ _ | with_reducible refine le_alloc ?_ _ | with_reducible refine le_setCell ?_ _ _ | with_reducible refine le_drewN ?_ _ | exact Nat.le_refl _))⟩
  · have c2 : (1073741824 : Int) < (b : Int) / (g : Int) := by
      have h1 := EA.out; have h2 := EB.out; rw [h2]; rw [h1] at c1; omega
    clear hov
    go_enter Tryd.func17, Tryd.ntmps17
    go_wp2_with (first | (go_at_call_of 40 (Value.int .i64 n); refine (mag_at _ a _ HA.out hn0 hn1).mono ?_; rintro e w' ⟨rfl, rfl⟩) | (go_at_call_of 40 (Value.int .i64 d); refine (mag_at _ b _ HB.out hd0 hd1).mono ?_; rintro e w' ⟨rfl, rfl⟩) | (go_at_call 39; refine (div_at _ _ g _ HG.out ha1 hb1).mono ?_; rintro e w' ⟨rfl, k, rfl⟩))
    go_quiet (fail)
    go_wp2_with fail
    go_returns
    exact ⟨rets HM.out.2.1.symm HM.out.2.2.symm HM.out.1.symm, by (repeat' (first | with_reducible exact Below.refl _ _ | with_reducible exact Nat.le_refl _ | with_reducible assumption | with_reducible refine below_drewN ?_ _ | with_reducible refine Below.alloc ?_ ?_ _ | with_reducible refine Below.setCell ?_ ?_ _ | with_reducible refine le_alloc ?_ _ | with_reducible refine le_setCell ?_ _ _ | with_reducible refine le_drewN ?_ _ | exact Nat.le_refl _))⟩

set_option maxHeartbeats 4000000 in
theorem make_fits (n d : Int) (w : World) (hn0 : -9223372036854775808 ≤ n) (hn1 : n ≤ 9223372036854775807) (hd0 : -9223372036854775808 ≤ d) (hd1 : d ≤ 9223372036854775807) (hz : ¬ d = 0) (hl1 : lowN n d ≤ 1073741824) (hl2 : lowD n d ≤ 1073741824) :
    Calls Tryd.prog 17 #[.int .i64 n, .int .i64 d] w fun e w' => e = .returned (.tuple #[.agg #[.int .i64 (mkN n d), .int .i64 (mkD n d)], .int .i64 (mkE n d)]) ∧ Below w.heap.size w w' := by
  have HS := Lib.hid (mk_same hz hl1 hl2)
  have HD := Lib.hid (mk_diff hz hl1 hl2)
  obtain ⟨a, ha⟩ : ∃ a : Nat, a = n.natAbs := ⟨_, rfl⟩
  obtain ⟨b, hb⟩ : ∃ b : Nat, b = d.natAbs := ⟨_, rfl⟩
  obtain ⟨g, hg⟩ : ∃ g : Nat, g = Nat.gcd a b := ⟨_, rfl⟩
  have ha1 : a < 18446744073709551616 := by omega
  have hb1 : b < 18446744073709551616 := by omega
  have hb0 : 0 < b := by omega
  have hg0 : 0 < g := by rw [hg]; exact Nat.gcd_pos_of_pos_right _ hb0
  have ea : (a : Int) / (g : Int) = (lowN n d : Nat) := by rw [← Int.natCast_ediv]; congr 1; rw [hg, ha, hb]; rfl
  have eb : (b : Int) / (g : Int) = (lowD n d : Nat) := by rw [← Int.natCast_ediv]; congr 1; rw [hg, ha, hb]; rfl
  have hla := lowN_le n d
  have hlb := lowD_le n d
  have hp0 : (0 : Int) ≤ (a : Int) / (g : Int) := by rw [ea]; omega
  have hp1 : (a : Int) / (g : Int) ≤ 9223372036854775808 := by rw [ea]; omega
  have hq0 : (0 : Int) ≤ (b : Int) / (g : Int) := by rw [eb]; omega
  have hq1 : (b : Int) / (g : Int) ≤ 9223372036854775808 := by rw [eb]; omega
  have HA := Lib.hid ha; have HB := Lib.hid hb; have HG := Lib.hid hg
  have EA := Lib.hid ea; have EB := Lib.hid eb
  clear ha hb hg hla hlb ea eb
  have c1 : (a : Int) / (g : Int) ≤ 1073741824 := by rw [EA.out]; omega
  have c2 : (b : Int) / (g : Int) ≤ 1073741824 := by rw [EB.out]; omega
  clear hl1 hl2
  by_cases s1 : n < 0
  all_goals by_cases s2 : d < 0
  all_goals try have s1' : decide (n < 0) = false := decide_eq_false s1
  all_goals try have s2' : decide (d < 0) = false := decide_eq_false s2
  all_goals go_enter Tryd.func17, Tryd.ntmps17
  all_goals go_wp2_with (first | (go_at_call_of 40 (Value.int .i64 n); refine (mag_at _ a _ HA.out hn0 hn1).mono ?_; rintro e w' ⟨rfl, rfl⟩) | (go_at_call_of 40 (Value.int .i64 d); refine (mag_at _ b _ HB.out hd0 hd1).mono ?_; rintro e w' ⟨rfl, rfl⟩) | (go_at_call 39; refine (div_at _ _ g _ HG.out ha1 hb1).mono ?_; rintro e w' ⟨rfl, k, rfl⟩))
  all_goals go_quiet (fail)
  all_goals go_wp2_with fail
  all_goals go_returns
  all_goals refine ⟨?_, ?_⟩
  all_goals first
    | ((repeat' (first | with_reducible exact Below.refl _ _ | with_reducible exact Nat.le_refl _ | with_reducible assumption | with_reducible refine below_drewN ?_ _ | with_reducible refine Below.alloc ?_ ?_ _ | with_reducible refine Below.setCell ?_ ?_ _ | with_reducible refine le_alloc ?_ _ | with_reducible refine le_setCell ?_ _ _ | with_reducible refine le_drewN ?_ _ | exact Nat.le_refl _)); done)
    | (have h := HS.out (by rw [Bool.eq_iff_iff]; simp; omega)
       rw [h.1, h.2.1, h.2.2, EA.out, EB.out])
    | (have h := HD.out (by rw [Bool.eq_iff_iff]; simp; omega)
       rw [h.1, h.2.1, h.2.2, EA.out, EB.out])

/-- THE WHOLE. -/
theorem make_any (n d : Int) (w : World) (hn0 : -9223372036854775808 ≤ n) (hn1 : n ≤ 9223372036854775807) (hd0 : -9223372036854775808 ≤ d) (hd1 : d ≤ 9223372036854775807) :
    Calls Tryd.prog 17 #[.int .i64 n, .int .i64 d] w fun e w' => e = .returned (.tuple #[.agg #[.int .i64 (mkN n d), .int .i64 (mkD n d)], .int .i64 (mkE n d)]) ∧ Below w.heap.size w w' := by
  by_cases hz : d = 0
  · subst hz; exact make_zero n w
  · by_cases hov : 1073741824 < lowN n d ∨ 1073741824 < lowD n d
    · exact make_over n d w hn0 hn1 hd0 hd1 hz hov
    · exact make_fits n d w hn0 hn1 hd0 hd1 hz (by omega) (by omega)

set_option maxHeartbeats 1000000 in
theorem rmake_zero (n : Int) (w : World) :
    Calls Tryd.prog 18 #[.int .i64 n, .int .i64 0] w fun e w' => e = .returned (.tuple #[.agg #[.int .i64 (mkN n 0), .int .i64 (mkD n 0)], .int .i64 (mkE n 0)]) ∧ Below w.heap.size w w' := by
  have hm := Lib.hid (mk_zero n)
  go_enter Tryd.func18, Tryd.ntmps18
  go_wp2_with fail
  go_returns
  exact ⟨rets hm.out.2.1.symm hm.out.2.2.symm hm.out.1.symm, by (repeat' (first | with_reducible exact Below.refl _ _ | with_reducible exact Nat.le_refl _ | with_reducible assumption | with_reducible refine below_drewN ?_ _ | with_reducible refine Below.alloc ?_ ?_ _ | with_reducible refine Below.setCell ?_ ?_ _ | with_reducible refine le_alloc ?_ _ | with_reducible refine le_setCell ?_ _ _ | with_reducible refine le_drewN ?_ _ | exact Nat.le_refl _))⟩

set_option maxHeartbeats 2000000 in
theorem rmake_over (n d : Int) (w : World) (hn0 : -9223372036854775808 ≤ n) (hn1 : n ≤ 9223372036854775807) (hd0 : -9223372036854775808 ≤ d) (hd1 : d ≤ 9223372036854775807) (hz : ¬ d = 0) (hov : 1073741824 < lowN n d ∨ 1073741824 < lowD n d) :
    Calls Tryd.prog 18 #[.int .i64 n, .int .i64 d] w fun e w' => e = .returned (.tuple #[.agg #[.int .i64 (mkN n d), .int .i64 (mkD n d)], .int .i64 (mkE n d)]) ∧ Below w.heap.size w w' := by
  have HM := Lib.hid (mk_over hz hov)
  obtain ⟨a, ha⟩ : ∃ a : Nat, a = n.natAbs := ⟨_, rfl⟩
  obtain ⟨b, hb⟩ : ∃ b : Nat, b = d.natAbs := ⟨_, rfl⟩
  obtain ⟨g, hg⟩ : ∃ g : Nat, g = Nat.gcd a b := ⟨_, rfl⟩
  have ha1 : a < 18446744073709551616 := by omega
  have hb1 : b < 18446744073709551616 := by omega
  have hb0 : 0 < b := by omega
  have hg0 : 0 < g := by rw [hg]; exact Nat.gcd_pos_of_pos_right _ hb0
  have ea : (a : Int) / (g : Int) = (lowN n d : Nat) := by rw [← Int.natCast_ediv]; congr 1; rw [hg, ha, hb]; rfl
  have eb : (b : Int) / (g : Int) = (lowD n d : Nat) := by rw [← Int.natCast_ediv]; congr 1; rw [hg, ha, hb]; rfl
  have hla := lowN_le n d
  have hlb := lowD_le n d
  have hp0 : (0 : Int) ≤ (a : Int) / (g : Int) := by rw [ea]; omega
  have hp1 : (a : Int) / (g : Int) ≤ 9223372036854775808 := by rw [ea]; omega
  have hq0 : (0 : Int) ≤ (b : Int) / (g : Int) := by rw [eb]; omega
  have hq1 : (b : Int) / (g : Int) ≤ 9223372036854775808 := by rw [eb]; omega
  have HA := Lib.hid ha; have HB := Lib.hid hb; have HG := Lib.hid hg
  have EA := Lib.hid ea; have EB := Lib.hid eb
  clear ha hb hg hla hlb ea eb
  by_cases c1 : (1073741824 : Int) < (a : Int) / (g : Int)
  · go_enter Tryd.func18, Tryd.ntmps18
    go_wp2_with (first | (go_at_call_of 42 (Value.int .i64 n); refine (size_at _ a _ HA.out hn0 hn1).mono ?_; rintro e w' ⟨rfl, rfl⟩) | (go_at_call_of 42 (Value.int .i64 d); refine (size_at _ b _ HB.out hd0 hd1).mono ?_; rintro e w' ⟨rfl, rfl⟩) | (go_at_call 41; refine (gcd_at _ _ g _ HG.out ha1 hb1).mono ?_; rintro e w' ⟨rfl, rfl⟩))
    go_returns
    exact ⟨rets HM.out.2.1.symm HM.out.2.2.symm HM.out.1.symm, by (repeat' (first | with_reducible exact Below.refl _ _ | with_reducible exact Nat.le_refl _ | with_reducible assumption | with_reducible refine below_drewN ?_ _ | with_reducible refine Below.alloc ?_ ?_ _ | with_reducible refine Below.setCell ?_ ?_ _ | with_reducible refine le_alloc ?_ _ | with_reducible refine le_setCell ?_ _ _ | with_reducible refine le_drewN ?_ _ | exact Nat.le_refl _))⟩
  · have c2 : (1073741824 : Int) < (b : Int) / (g : Int) := by
      have h1 := EA.out; have h2 := EB.out; rw [h2]; rw [h1] at c1; omega
    clear hov
    go_enter Tryd.func18, Tryd.ntmps18
    go_wp2_with (first | (go_at_call_of 42 (Value.int .i64 n); refine (size_at _ a _ HA.out hn0 hn1).mono ?_; rintro e w' ⟨rfl, rfl⟩) | (go_at_call_of 42 (Value.int .i64 d); refine (size_at _ b _ HB.out hd0 hd1).mono ?_; rintro e w' ⟨rfl, rfl⟩) | (go_at_call 41; refine (gcd_at _ _ g _ HG.out ha1 hb1).mono ?_; rintro e w' ⟨rfl, rfl⟩))
    go_returns
    exact ⟨rets HM.out.2.1.symm HM.out.2.2.symm HM.out.1.symm, by (repeat' (first | with_reducible exact Below.refl _ _ | with_reducible exact Nat.le_refl _ | with_reducible assumption | with_reducible refine below_drewN ?_ _ | with_reducible refine Below.alloc ?_ ?_ _ | with_reducible refine Below.setCell ?_ ?_ _ | with_reducible refine le_alloc ?_ _ | with_reducible refine le_setCell ?_ _ _ | with_reducible refine le_drewN ?_ _ | exact Nat.le_refl _))⟩

set_option maxHeartbeats 4000000 in
theorem rmake_fits (n d : Int) (w : World) (hn0 : -9223372036854775808 ≤ n) (hn1 : n ≤ 9223372036854775807) (hd0 : -9223372036854775808 ≤ d) (hd1 : d ≤ 9223372036854775807) (hz : ¬ d = 0) (hl1 : lowN n d ≤ 1073741824) (hl2 : lowD n d ≤ 1073741824) :
    Calls Tryd.prog 18 #[.int .i64 n, .int .i64 d] w fun e w' => e = .returned (.tuple #[.agg #[.int .i64 (mkN n d), .int .i64 (mkD n d)], .int .i64 (mkE n d)]) ∧ Below w.heap.size w w' := by
  have HS := Lib.hid (mk_same hz hl1 hl2)
  have HD := Lib.hid (mk_diff hz hl1 hl2)
  obtain ⟨a, ha⟩ : ∃ a : Nat, a = n.natAbs := ⟨_, rfl⟩
  obtain ⟨b, hb⟩ : ∃ b : Nat, b = d.natAbs := ⟨_, rfl⟩
  obtain ⟨g, hg⟩ : ∃ g : Nat, g = Nat.gcd a b := ⟨_, rfl⟩
  have ha1 : a < 18446744073709551616 := by omega
  have hb1 : b < 18446744073709551616 := by omega
  have hb0 : 0 < b := by omega
  have hg0 : 0 < g := by rw [hg]; exact Nat.gcd_pos_of_pos_right _ hb0
  have ea : (a : Int) / (g : Int) = (lowN n d : Nat) := by rw [← Int.natCast_ediv]; congr 1; rw [hg, ha, hb]; rfl
  have eb : (b : Int) / (g : Int) = (lowD n d : Nat) := by rw [← Int.natCast_ediv]; congr 1; rw [hg, ha, hb]; rfl
  have hla := lowN_le n d
  have hlb := lowD_le n d
  have hp0 : (0 : Int) ≤ (a : Int) / (g : Int) := by rw [ea]; omega
  have hp1 : (a : Int) / (g : Int) ≤ 9223372036854775808 := by rw [ea]; omega
  have hq0 : (0 : Int) ≤ (b : Int) / (g : Int) := by rw [eb]; omega
  have hq1 : (b : Int) / (g : Int) ≤ 9223372036854775808 := by rw [eb]; omega
  have HA := Lib.hid ha; have HB := Lib.hid hb; have HG := Lib.hid hg
  have EA := Lib.hid ea; have EB := Lib.hid eb
  clear ha hb hg hla hlb ea eb
  have c1 : (a : Int) / (g : Int) ≤ 1073741824 := by rw [EA.out]; omega
  have c2 : (b : Int) / (g : Int) ≤ 1073741824 := by rw [EB.out]; omega
  clear hl1 hl2
  by_cases s1 : n < 0
  all_goals by_cases s2 : d < 0
  all_goals try have s1' : decide (n < 0) = false := decide_eq_false s1
  all_goals try have s2' : decide (d < 0) = false := decide_eq_false s2
  all_goals go_enter Tryd.func18, Tryd.ntmps18
  all_goals go_wp2_with (first | (go_at_call_of 42 (Value.int .i64 n); refine (size_at _ a _ HA.out hn0 hn1).mono ?_; rintro e w' ⟨rfl, rfl⟩) | (go_at_call_of 42 (Value.int .i64 d); refine (size_at _ b _ HB.out hd0 hd1).mono ?_; rintro e w' ⟨rfl, rfl⟩) | (go_at_call 41; refine (gcd_at _ _ g _ HG.out ha1 hb1).mono ?_; rintro e w' ⟨rfl, rfl⟩))
  all_goals go_returns
  all_goals refine ⟨?_, ?_⟩
  all_goals first
    | ((repeat' (first | with_reducible exact Below.refl _ _ | with_reducible exact Nat.le_refl _ | with_reducible assumption | with_reducible refine below_drewN ?_ _ | with_reducible refine Below.alloc ?_ ?_ _ | with_reducible refine Below.setCell ?_ ?_ _ | with_reducible refine le_alloc ?_ _ | with_reducible refine le_setCell ?_ _ _ | with_reducible refine le_drewN ?_ _ | exact Nat.le_refl _)); done)
    | (have h := HS.out (by rw [Bool.eq_iff_iff]; simp; omega)
       rw [h.1, h.2.1, h.2.2, EA.out, EB.out])
    | (have h := HD.out (by rw [Bool.eq_iff_iff]; simp; omega)
       rw [h.1, h.2.1, h.2.2, EA.out, EB.out])

/-- THE WHOLE. -/
theorem rmake_any (n d : Int) (w : World) (hn0 : -9223372036854775808 ≤ n) (hn1 : n ≤ 9223372036854775807) (hd0 : -9223372036854775808 ≤ d) (hd1 : d ≤ 9223372036854775807) :
    Calls Tryd.prog 18 #[.int .i64 n, .int .i64 d] w fun e w' => e = .returned (.tuple #[.agg #[.int .i64 (mkN n d), .int .i64 (mkD n d)], .int .i64 (mkE n d)]) ∧ Below w.heap.size w w' := by
  by_cases hz : d = 0
  · subst hz; exact rmake_zero n w
  · by_cases hov : 1073741824 < lowN n d ∨ 1073741824 < lowD n d
    · exact rmake_over n d w hn0 hn1 hd0 hd1 hz hov
    · exact rmake_fits n d w hn0 hn1 hd0 hd1 hz (by omega) (by omega)

end Go.Proofs.YtlbepbddhnmmjaaDoor
