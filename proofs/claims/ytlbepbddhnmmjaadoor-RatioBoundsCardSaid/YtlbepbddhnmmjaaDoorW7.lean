/-
  The walks of decimal, number, and of the specification's slash, number.
-/
import Derived.Test.YtlbepbddhnmmjaaDoorW1
import Derived.Test.YtlbepbddhnmmjaaDoorM2
import Derived.Handy
namespace Go.Proofs.YtlbepbddhnmmjaaDoor
open Go.RowKit

theorem ret_bool' {a b : Bool} (h : a = b) : Ending.returned (.bool a) = .returned (.bool b) := by rw [h]

set_option maxHeartbeats 1000000 in
theorem dec_any (s : ByteArray) (w : World) (hs : s.size ≤ 1000000) :
    Calls Tryd.prog 50 #[.string s] w fun e w' => e = .returned (.bool (decB s.data.toList)) ∧ w' = w := by
  by_cases h0 : s.size = 0
  · have he : s.toList = [] := by rw [ByteArray.toList_eq]; exact empty_toList h0
    have hv := Lib.hid (show decB s.data.toList = false by rw [empty_toList h0]; rfl)
    clear h0
    go_enter Tryd.func50, Tryd.ntmps50
    go_wp2
    go_returns
    exact ⟨ret_bool' hv.out.symm, rfl⟩
  have he : s.toList.isEmpty = false := by
    rw [ByteArray.toList_eq, List.isEmpty_eq_false_iff]; intro e
    exact h0 (by have : s.data.toList.length = 0 := by rw [e]; rfl
                 simpa using this)
  have hp : 0 < s.size := by omega
  by_cases hb : 1 < s.size ∧ s[0].toNat = 48
  · obtain ⟨h1, h2⟩ := hb
    have hv := Lib.hid (dec_zero h1 h2)
    have h3 : ((s[0].toNat : Int) == 48) = true := by rw [h2]; rfl
    have h4 : (1 : Int) < s.size := by omega
    clear h0 h2 h1
    go_enter Tryd.func50, Tryd.ntmps50
    go_wp2
    go_returns
    exact ⟨ret_bool' hv.out.symm, rfl⟩
  have HV := Lib.hid (show s.data.toList.all isDig = true → decB s.data.toList = true from fun ha => dec_all (by
    by_cases h1 : 1 < s.size
    · refine Or.inr ⟨h1, ?_⟩
      rw [getElem!_pos s 0 (by omega)]
      exact fun e => hb ⟨h1, e⟩
    · exact Or.inl (by omega)) ha)
  have hc : ((s.size : Int) ≤ 1 ∨ (1 : Int) < s.size ∧ ((s[0].toNat : Int) == 48) = false) := by
    by_cases h1 : 1 < s.size
    · refine Or.inr ⟨by omega, ?_⟩
      rw [Bool.eq_false_iff]; intro e
      have : (s[0].toNat : Int) = 48 := by simpa using e
      exact hb ⟨h1, by omega⟩
    · exact Or.inl (by omega)
  clear h0 hb
  rcases hc with hc | ⟨hc, hd⟩
  all_goals
    go_enter Tryd.func50, Tryd.ntmps50
    go_wp2
    go_loop [2, 3, 18] (fun x _ i => ∃ k : Nat, k ≤ s.size ∧ i = .int .i64 k ∧ x = .bool false ∧ (s.data.toList.take k).all isDig = true) (fun _ _ i => s.size - (intOf i).toNat)
    case atStart => exact ⟨0, Nat.zero_le _, rfl, rfl, rfl⟩
    case round =>
      obtain ⟨k, hk, rfl, rfl, ha⟩ := hrel
      have HA := Lib.hid ha
      clear ha
      by_cases hlt : k < s.size
      · by_cases d1 : 48 ≤ s[k].toNat
        · by_cases d2 : s[k].toNat ≤ 57
          · have hs' := Lib.hid (all_snoc s k hlt HA.out (isDig_of d1 d2))
            go_wp2
            go_round
            case rel => exact ⟨k + 1, by omega, by go_num, rfl, hs'.out⟩
            case measure => simp [intOf]; omega
          · have hv := Lib.hid (dec_stop hlt (isDig_not (by omega)))
            go_wp2
            go_returns
            exact ⟨ret_bool' hv.out.symm, rfl⟩
        · have hv := Lib.hid (dec_stop hlt (isDig_not (by omega)))
          go_wp2
          go_returns
          exact ⟨ret_bool' hv.out.symm, rfl⟩
      · have hv := Lib.hid (HV.out (by have := HA.out; rwa [List.take_of_length_le (by simp; omega)] at this))
        go_wp2
        go_returns
        exact ⟨ret_bool' hv.out.symm, rfl⟩

end Go.Proofs.YtlbepbddhnmmjaaDoor
