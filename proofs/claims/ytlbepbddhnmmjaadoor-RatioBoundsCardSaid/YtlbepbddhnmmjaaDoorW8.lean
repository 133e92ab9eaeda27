/-
  The walks of number, and of the specification's slash and number.
-/
import Derived.Test.YtlbepbddhnmmjaaDoorW7
namespace Go.Proofs.YtlbepbddhnmmjaaDoor
open Go.RowKit

set_option maxHeartbeats 1000000 in
theorem num_any (s : ByteArray) (w : World) (hs : s.size ≤ 1000000) (ha : s.data.toList.all isDig = true) :
    Calls Tryd.prog 51 #[.string s] w fun e w' => e = .returned (.int .i64 (numV s.data.toList : Nat)) ∧ w' = w := by
  have HA := Lib.hid ha
  clear ha
  go_enter Tryd.func51, Tryd.ntmps51
  go_wp2
  go_loop [3, 4, 7] (fun n _ i => ∃ k : Nat, k ≤ s.size ∧ i = .int .i64 k ∧ n = .int .i64 (numV (s.data.toList.take k) : Nat)) (fun _ _ i => s.size - (intOf i).toNat)
  case atStart => exact ⟨0, Nat.zero_le _, rfl, rfl⟩
  case round =>
    obtain ⟨k, hk, rfl, rfl⟩ := hrel
    have hl := numV_le (s.data.toList.take k)
    by_cases hlt : k < s.size
    · have hstep := Lib.hid (num_step s k hlt)
      obtain ⟨d1, d2⟩ := dig_at HA.out k hlt
      go_wp2
      go_round
      case rel => exact ⟨k + 1, by omega, by go_num, val_int (by rw [hstep.out]; split <;> omega)⟩
      case measure => simp [intOf]; omega
    · have hv := Lib.hid (show s.data.toList.take k = s.data.toList from List.take_of_length_le (by simp; omega))
      go_wp2
      go_returns
      exact ⟨ret_int (by rw [hv.out]), rfl⟩

set_option maxHeartbeats 1000000 in
theorem slash_any (s : ByteArray) (w : World) (hs : s.size ≤ 1000000) :
    Calls Tryd.prog 52 #[.string s] w fun e w' => e = .returned (.int .i64 (slashI s.data.toList : Nat)) ∧ w' = w := by
  go_enter Tryd.func52, Tryd.ntmps52
  go_wp2
  go_loop [2, 3] (fun x i => ∃ k : Nat, k ≤ s.size ∧ i = .int .i64 k ∧ x = .int .i64 0 ∧ Hid (∀ j : Nat, j < k → (hj : j < s.size) → s[j].toNat ≠ 47)) (fun _ i => s.size - (intOf i).toNat)
  case atStart => exact ⟨0, Nat.zero_le _, rfl, rfl, Lib.hid (by intro j h; omega)⟩
  case round =>
    obtain ⟨k, hk, rfl, rfl, HB⟩ := hrel
    by_cases hlt : k < s.size
    · by_cases h47 : s[k].toNat = 47
      · have hv := Lib.hid (slash_here hlt HB.out h47)
        have h1 : ((s[k].toNat : Int) == 47) = true := by rw [h47]; rfl
        clear h47
        go_wp2
        go_returns
        exact ⟨ret_int (by rw [hv.out]), rfl⟩
      · have h1 : ((s[k].toNat : Int) == 47) = false := by rw [Bool.eq_false_iff]; simp; omega
        have HB' := Lib.hid (show ∀ j : Nat, j < k + 1 → (hj : j < s.size) → s[j].toNat ≠ 47 from fun j hj hj' => by
          by_cases e : j = k
          · subst e; exact h47
          · exact HB.out j (by omega) hj')
        clear h47
        go_wp2
        go_round
        case rel => exact ⟨k + 1, by omega, by go_num, rfl, HB'⟩
        case measure => simp [intOf]; omega
    · have hv := Lib.hid (slash_none (s := s) (fun j hj => HB.out j (by omega) hj))
      go_wp2
      go_returns
      exact ⟨ret_int (by rw [hv.out]), rfl⟩

set_option maxHeartbeats 2000000 in
theorem rnum_bad0 (s : ByteArray) (w : World) (h0 : s.size = 0) :
    Calls Tryd.prog 53 #[.string s] w fun e w' => e = .returned (.tuple #[.int .i64 0, .bool false]) ∧ w' = w := by
  have he : s.toList = [] := by rw [ByteArray.toList_eq]; exact empty_toList h0
  clear h0
  go_enter Tryd.func53, Tryd.ntmps53
  go_wp2
  go_returns
  exact ⟨rfl, rfl⟩

set_option maxHeartbeats 2000000 in
theorem rnum_zero (s : ByteArray) (w : World) (h1 : 1 < s.size) (h2 : s[0].toNat = 48) :
    Calls Tryd.prog 53 #[.string s] w fun e w' => e = .returned (.tuple #[.int .i64 0, .bool false]) ∧ w' = w := by
  have he : s.toList.isEmpty = false := by
    rw [ByteArray.toList_eq, List.isEmpty_eq_false_iff]; intro e
    have : s.data.toList.length = 0 := by rw [e]; rfl
    have : s.size = 0 := by simpa using this
    omega
  have h3 : ((s[0].toNat : Int) == 48) = true := by rw [h2]; rfl
  have h4 : (1 : Int) < s.size := by omega
  have hp : 0 < s.size := by omega
  clear h2
  go_enter Tryd.func53, Tryd.ntmps53
  go_wp2
  go_returns
  exact ⟨rfl, rfl⟩

/-- What the specification's number answers. -/
def rnV (l : List UInt8) : Int := if decB l = true then (numV l : Nat) else 0

set_option maxHeartbeats 4000000 in
theorem rnum_loop (s : ByteArray) (w : World) (hs : s.size ≤ 1000000) (hp : 0 < s.size) (hb : ¬ (1 < s.size ∧ s[0].toNat = 48)) :
    Calls Tryd.prog 53 #[.string s] w fun e w' => e = .returned (.tuple #[.int .i64 (rnV s.data.toList), .bool (decB s.data.toList)]) ∧ w' = w := by
  have he : s.toList.isEmpty = false := by
    rw [ByteArray.toList_eq, List.isEmpty_eq_false_iff]; intro e
    have : s.data.toList.length = 0 := by rw [e]; rfl
    have : s.size = 0 := by simpa using this
    omega
  have HV := Lib.hid (show s.data.toList.all isDig = true → decB s.data.toList = true from fun ha => dec_all (by
    by_cases h1 : 1 < s.size
    · refine Or.inr ⟨h1, ?_⟩
      rw [getElem!_pos s 0 (by omega)]
      exact fun e => hb ⟨h1, e⟩
    · exact Or.inl (by omega)) ha)
  have hc : ((s[0].toNat : Int) == 48) = false ∨ ((s[0].toNat : Int) == 48) = true ∧ (s.size : Int) ≤ 1 := by
    by_cases h1 : s[0].toNat = 48
    · refine Or.inr ⟨by rw [h1]; rfl, by omega⟩
    · refine Or.inl ?_
      rw [Bool.eq_false_iff]; intro e
      have : (s[0].toNat : Int) = 48 := by simpa using e
      omega
  clear hb
  rcases hc with hc | ⟨hd, hc⟩
  all_goals
    go_enter Tryd.func53, Tryd.ntmps53
    go_wp2
    go_loop [2, 3, 4, 5] (fun x y n i => ∃ k m : Nat, k ≤ s.size ∧ m ≤ 10737418249 ∧ i = .int .i64 k ∧ n = .int .i64 m ∧ x = .int .i64 0 ∧ y = .bool false ∧ min m 1073741825 = numV (s.data.toList.take k) ∧ (s.data.toList.take k).all isDig = true) (fun _ _ _ i => s.size - (intOf i).toNat)
    case atStart => exact ⟨0, 0, Nat.zero_le _, by omega, rfl, rfl, rfl, rfl, rfl, rfl⟩
    case round =>
      obtain ⟨k, m, hk, hm, rfl, rfl, rfl, rfl, hmin, ha⟩ := hrel
      have HA := Lib.hid ha
      have HM := Lib.hid hmin
      clear ha hmin
      by_cases hlt : k < s.size
      · by_cases d1 : 48 ≤ s[k].toNat
        · by_cases d2 : s[k].toNat ≤ 57
          · have hs' := Lib.hid (all_snoc s k hlt HA.out (isDig_of d1 d2))
            have hstep := Lib.hid (num_step s k hlt)
            by_cases hbig : m ≤ 1073741824
            · go_wp2
              go_round
              case rel => exact ⟨k + 1, 10 * m + (s[k].toNat - 48), by omega, by omega, by go_num, val_int (by omega), rfl, rfl, by rw [hstep.out, ← HM.out]; omega, hs'.out⟩
              case measure => simp [intOf]; omega
            · go_wp2
              go_round
              case rel => exact ⟨k + 1, m, by omega, by omega, by go_num, rfl, rfl, rfl, by rw [hstep.out, ← HM.out]; omega, hs'.out⟩
              case measure => simp [intOf]; omega
          · have hv := Lib.hid (dec_stop hlt (isDig_not (by omega)))
            go_wp2
            go_returns
            exact ⟨by rw [rnV, hv.out]; rfl, rfl⟩
        · have hv := Lib.hid (dec_stop hlt (isDig_not (by omega)))
          go_wp2
          go_returns
          exact ⟨by rw [rnV, hv.out]; rfl, rfl⟩
      · have ht := Lib.hid (show s.data.toList.take k = s.data.toList from List.take_of_length_le (by simp; omega))
        have hv := Lib.hid (HV.out (by rw [← ht.out]; exact HA.out))
        have hn := Lib.hid (show min m 1073741825 = numV s.data.toList by rw [HM.out, ht.out])
        by_cases hbig : m ≤ 1073741824
        · go_wp2
          go_returns
          exact ⟨by rw [rnV, hv.out, if_pos rfl, ← hn.out, Nat.min_eq_left (by omega)]; rfl, rfl⟩
        · go_wp2
          go_returns
          exact ⟨by rw [rnV, hv.out, if_pos rfl, ← hn.out, Nat.min_eq_right (by omega)]; rfl, rfl⟩

theorem rnum_any (s : ByteArray) (w : World) (hs : s.size ≤ 1000000) :
    Calls Tryd.prog 53 #[.string s] w fun e w' => e = .returned (.tuple #[.int .i64 (rnV s.data.toList), .bool (decB s.data.toList)]) ∧ w' = w := by
  by_cases h0 : s.size = 0
  · have e : decB s.data.toList = false := by rw [empty_toList h0]; rfl
    rw [rnV, e]; exact rnum_bad0 s w h0
  · by_cases hb : 1 < s.size ∧ s[0].toNat = 48
    · have e : decB s.data.toList = false := dec_zero hb.1 hb.2
      rw [rnV, e]; exact rnum_zero s w hb.1 hb.2
    · exact rnum_loop s w hs (by omega) hb

end Go.Proofs.YtlbepbddhnmmjaaDoor
