/-
  The walk of the statement OctetShortest.
-/
import Derived.Test.YtnbdbeiakmmkaaaW4
import Derived.Deep.RegionWith
namespace Go.Proofs.Ytnbdbeiakmmkaaa
open Go.RowKit
set_option linter.unusedVariables false

set_option maxRecDepth 20000 in
set_option maxHeartbeats 2000000 in
theorem law_shortest (s : ByteArray) (at_ : Int) (w : World) (hs : s.size ≤ 140737488351232) :
    Calls Try.prog 7 #[.string s, .int .i64 at_] w fun e w' => e = .returned (.bool true) ∧ Below w.heap.size w w' := by
  have C1 := fun w => taku_any s at_ w (by omega)
  have hlen : s.data.toList.length = s.size := by simp
  obtain ⟨hb1, hb2, hb3⟩ := tu_bounds s.data.toList at_
  unfold tuVal at C1
  by_cases he : tuE s.data.toList at_ = 0
  · obtain ⟨a, rfl, h1, h2, h3, h4⟩ := tu_ok he
    rw [he] at C1
    generalize tuV s.data.toList a = V at C1 hb1 h4
    generalize tuN s.data.toList a = N at C1 h1 h2 h3 h4
    rw [hlen] at h2
    have hq : (⟨([] ++ put V).toArray⟩ : ByteArray) = s.extract a N := by
      rw [List.nil_append, h4, ← Lib.extract_data, bytes_of]
    have C2 : ∀ w, Calls Try.prog 12 #[.slice none 0 0, .int .u64 V] w fun e w' => ∃ g n c, e = .returned (.slice (some ⟨g, 0, none⟩) n c) ∧ (convert 22 9 (.slice (some ⟨g, 0, none⟩) n c)).run Try.prog w' = .ok (.string (s.extract a N)) w' ∧ Below w.heap.size w w' := fun w => by
      have h := putu_any none 0 0 [] V w (Rd.nil _ _ _) rfl (by omega) (fun _ => rfl) hb1 (by omega)
      refine h.mono fun e w' h => ?_
      rw [← hq]
      exact h.conv
    have H1 := Lib.hid C1; have H2 := Lib.hid C2
    have hs' : (s.size : Int) ≤ 140737488351232 := by omega
    have i0 : (0 : Int) ≤ (a : Int) := by omega
    have i1 : (a : Int) ≤ (N : Int) := by omega
    have i2 : (N : Int) ≤ (s.size : Int) := by omega
    clear C1 C2 hq h4 hb1 hb2 hb3 hlen he hs
    go_enter Try.func7, Try.ntmps7
    go_wp2_with (first
      | (go_at_call 13; go_must (refine (H1.out _).mono ?_; rintro e w1 ⟨rfl, rfl⟩)))
    go_region_with (first
        | (go_at_call 12; refine (H2.out _).mono ?_; rintro e w2 ⟨g, n, c, rfl, k2, b2⟩)
        | (go_at_call 9; refine (awake_any _).mono ?_; rintro e w5 ⟨rfl, b5⟩))
    all_goals
      go_wp2
      go_returns
      exact ⟨rfl, by (repeat' (first | with_reducible exact Below.refl _ _ | with_reducible exact Nat.le_refl _ | with_reducible assumption | with_reducible refine below_drewN ?_ _ | with_reducible refine Below.drew ?_ | with_reducible refine Below.trans ?_ (Below.mono (by assumption) ?_) | with_reducible refine Below.alloc ?_ ?_ _ | with_reducible refine le_alloc ?_ _ | with_reducible refine le_drewN ?_ _ | with_reducible refine le_drew ?_ | with_reducible refine Nat.le_trans ?_ (Below.size (by assumption))))⟩
  · obtain ⟨h1, h2⟩ := tu_err he
    rw [h1, h2] at C1
    generalize tuE s.data.toList at_ = E at C1 he
    have H1 := Lib.hid C1
    have hE : ((E : Int) != 0) = true := by simpa using he
    clear C1 he hlen hb1 hb2 hb3 h1 h2 hs
    go_enter Try.func7, Try.ntmps7
    go_wp2_with (first
      | (go_at_call 13; go_must (refine (H1.out _).mono ?_; rintro e w1 ⟨rfl, rfl⟩))
      | (go_at_call 9; go_must (refine (awake_any _).mono ?_; rintro e w5 ⟨rfl, hb5⟩)))
    go_returns
    exact ⟨rfl, hb5⟩

end Go.Proofs.Ytnbdbeiakmmkaaa
