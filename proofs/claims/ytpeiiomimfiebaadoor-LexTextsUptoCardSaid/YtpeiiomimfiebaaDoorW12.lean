/-
  The walks of the specification's plain and Number.
-/
import Derived.Test.YtpeiiomimfiebaaDoorW11
import Derived.Test.YtpeiiomimfiebaaDoorW5
namespace Go.Proofs.YtpeiiomimfiebaaDoor
open Go.RowKit
set_option linter.unusedVariables false
set_option linter.unusedSimpArgs false

set_option maxHeartbeats 2000000 in
theorem rplain_10 (s : ByteArray) (w : World) (hs : s.size ≤ 140737488351232) :
    Calls Tryd.prog 54 #[.string s, .int .i64 10] w fun e w' => e = .returned (mgV s.data.toList 10) ∧ w = w' := by
  have hs' : (s.size : Int) ≤ 140737488351232 := by omega
  by_cases h0 : s.size = 0
  · have he : ((s.size : Int) == 0) = true := by rw [h0]; rfl
    have hv := Lib.hid (mgV_none _ _ (mg_empty h0 10))
    clear h0
    go_enter Tryd.func54, Tryd.ntmps54
    go_wp2
    go_returns
    exact ⟨ret_of hv.out.symm, rfl⟩
  have hp : 0 < s.size := by omega
  have he : ((s.size : Int) == 0) = false := by rw [beq_eq_false_iff_ne]; omega
  by_cases hlead : 1 < s.size ∧ s[0].toNat = 48
  · obtain ⟨h1, h2⟩ := hlead
    have hv := Lib.hid (mgV_none _ _ (mg_lead h1 h2 10))
    have h3 : ((s[0].toNat : Int) == 48) = true := by rw [h2]; rfl
    have h4 : (1 : Int) < s.size := by omega
    clear h0 h2 h1
    go_enter Tryd.func54, Tryd.ntmps54
    go_wp2
    go_returns
    exact ⟨ret_of hv.out.symm, rfl⟩
  have hG := mg_go hp (by by_cases h1 : s.size = 1; exact Or.inl h1; exact Or.inr fun e => hlead ⟨by omega, e⟩) 10
  have hc : ((s.size : Int) ≤ 1 ∨ (1 : Int) < s.size ∧ ((s[0].toNat : Int) == 48) = false) := by
    by_cases h1 : 1 < s.size
    · refine Or.inr ⟨by omega, ?_⟩
      rw [Bool.eq_false_iff]; intro e
      have : (s[0].toNat : Int) = 48 := by simpa using e
      exact hlead ⟨h1, by omega⟩
    · exact Or.inl (by omega)
  have HS := Lib.hid (mgV_some s.data.toList 10); have HN := Lib.hid (mgV_none s.data.toList 10)
  generalize mgV s.data.toList 10 = V at *
  generalize mg s.data.toList 10 = G at *
  have HG := Lib.hid hG
  clear hG h0 hlead
  rcases hc with hc | ⟨hc, hd⟩
  all_goals
    go_enter Tryd.func54, Tryd.ntmps54
    go_wp2
    go_loop [6, 7] (fun x i => ∃ (pos : Nat) (n : Int), pos ≤ s.size ∧ 0 ≤ n ∧ n ≤ 9007199254740993 ∧ x = .int .i64 n ∧ i = .int .i64 pos ∧ Hid (G = mgF 10 (s.data.toList.drop pos) n)) (fun _ i => s.size - (intOf i).toNat)
    case atStart => exact ⟨0, 0, by omega, by omega, by omega, rfl, rfl, HG⟩
    case round =>
      clear hc
      obtain ⟨pos, n, hp, hn0, hn1, rfl, rfl, HW⟩ := hrel
      by_cases hlt : pos < s.size
      · have k0 : s[pos].toNat < 256 := s[pos].toNat_lt
        have C1 := fun (w : World) (C : Int) (h : C = (s[pos].toNat : Int)) => rhexa_any s[pos].toNat C w h k0
        have HA := Lib.hid (fun h => HN.out (mg_bad hlt h HW.out))
        have HB := Lib.hid (fun h => mg_step hlt h HW.out)
        obtain ⟨v1, v2⟩ := hx_lt s[pos].toNat
        generalize hx s[pos].toNat = v at *
        have H1 := Lib.hid C1
        clear C1
        by_cases b1 : v < 0
        · have HA2 := Lib.hid (HA.out (Or.inl b1))
          go_wp2_with (first
            | (go_at_call 63; go_must (refine (H1.out _ _ rfl).mono ?_; rintro e w1 ⟨rfl, rfl⟩)))
          go_returns
          exact ⟨ret_of HA2.out.symm, rfl⟩
        by_cases b2 : 10 ≤ v
        · have HA2 := Lib.hid (HA.out (Or.inr b2))
          go_wp2_with (first
            | (go_at_call 63; go_must (refine (H1.out _ _ rfl).mono ?_; rintro e w1 ⟨rfl, rfl⟩)))
          go_returns
          exact ⟨ret_of HA2.out.symm, rfl⟩
        · have HB2 := Lib.hid (HB.out (by omega))
          by_cases b3 : 9007199254740992 < n * 10 + v
          · go_wp2_with (first
              | (go_at_call 63; go_must (refine (H1.out _ _ rfl).mono ?_; rintro e w1 ⟨rfl, rfl⟩)))
            go_round
            case rel => exact ⟨pos + 1, min (n * 10 + v) 9007199254740993, by omega, by omega, by omega, val_int (by omega), by go_num, HB2⟩
            case measure => simp [intOf]; omega
          · go_wp2_with (first
              | (go_at_call 63; go_must (refine (H1.out _ _ rfl).mono ?_; rintro e w1 ⟨rfl, rfl⟩)))
            go_round
            case rel => exact ⟨pos + 1, min (n * 10 + v) 9007199254740993, by omega, by omega, by omega, val_int (by omega), by go_num, HB2⟩
            case measure => simp [intOf]; omega
      · have HE := Lib.hid (HS.out _ (mg_end hlt HW.out))
        go_wp2
        go_returns
        exact ⟨ret_of HE.out.symm, rfl⟩

set_option maxHeartbeats 2000000 in
theorem rplain_16 (s : ByteArray) (w : World) (hs : s.size ≤ 140737488351232) :
    Calls Tryd.prog 54 #[.string s, .int .i64 16] w fun e w' => e = .returned (mgV s.data.toList 16) ∧ w = w' := by
  have hs' : (s.size : Int) ≤ 140737488351232 := by omega
  by_cases h0 : s.size = 0
  · have he : ((s.size : Int) == 0) = true := by rw [h0]; rfl
    have hv := Lib.hid (mgV_none _ _ (mg_empty h0 16))
    clear h0
    go_enter Tryd.func54, Tryd.ntmps54
    go_wp2
    go_returns
    exact ⟨ret_of hv.out.symm, rfl⟩
  have hp : 0 < s.size := by omega
  have he : ((s.size : Int) == 0) = false := by rw [beq_eq_false_iff_ne]; omega
  by_cases hlead : 1 < s.size ∧ s[0].toNat = 48
  · obtain ⟨h1, h2⟩ := hlead
    have hv := Lib.hid (mgV_none _ _ (mg_lead h1 h2 16))
    have h3 : ((s[0].toNat : Int) == 48) = true := by rw [h2]; rfl
    have h4 : (1 : Int) < s.size := by omega
    clear h0 h2 h1
    go_enter Tryd.func54, Tryd.ntmps54
    go_wp2
    go_returns
    exact ⟨ret_of hv.out.symm, rfl⟩
  have hG := mg_go hp (by by_cases h1 : s.size = 1; exact Or.inl h1; exact Or.inr fun e => hlead ⟨by omega, e⟩) 16
  have hc : ((s.size : Int) ≤ 1 ∨ (1 : Int) < s.size ∧ ((s[0].toNat : Int) == 48) = false) := by
    by_cases h1 : 1 < s.size
    · refine Or.inr ⟨by omega, ?_⟩
      rw [Bool.eq_false_iff]; intro e
      have : (s[0].toNat : Int) = 48 := by simpa using e
      exact hlead ⟨h1, by omega⟩
    · exact Or.inl (by omega)
  have HS := Lib.hid (mgV_some s.data.toList 16); have HN := Lib.hid (mgV_none s.data.toList 16)
  generalize mgV s.data.toList 16 = V at *
  generalize mg s.data.toList 16 = G at *
  have HG := Lib.hid hG
  clear hG h0 hlead
  rcases hc with hc | ⟨hc, hd⟩
  all_goals
    go_enter Tryd.func54, Tryd.ntmps54
    go_wp2
    go_loop [6, 7] (fun x i => ∃ (pos : Nat) (n : Int), pos ≤ s.size ∧ 0 ≤ n ∧ n ≤ 9007199254740993 ∧ x = .int .i64 n ∧ i = .int .i64 pos ∧ Hid (G = mgF 16 (s.data.toList.drop pos) n)) (fun _ i => s.size - (intOf i).toNat)
    case atStart => exact ⟨0, 0, by omega, by omega, by omega, rfl, rfl, HG⟩
    case round =>
      clear hc
      obtain ⟨pos, n, hp, hn0, hn1, rfl, rfl, HW⟩ := hrel
      by_cases hlt : pos < s.size
      · have k0 : s[pos].toNat < 256 := s[pos].toNat_lt
        have C1 := fun (w : World) (C : Int) (h : C = (s[pos].toNat : Int)) => rhexa_any s[pos].toNat C w h k0
        have HA := Lib.hid (fun h => HN.out (mg_bad hlt h HW.out))
        have HB := Lib.hid (fun h => mg_step hlt h HW.out)
        obtain ⟨v1, v2⟩ := hx_lt s[pos].toNat
        generalize hx s[pos].toNat = v at *
        have H1 := Lib.hid C1
        clear C1
        by_cases b1 : v < 0
        · have HA2 := Lib.hid (HA.out (Or.inl b1))
          go_wp2_with (first
            | (go_at_call 63; go_must (refine (H1.out _ _ rfl).mono ?_; rintro e w1 ⟨rfl, rfl⟩)))
          go_returns
          exact ⟨ret_of HA2.out.symm, rfl⟩
        by_cases b2 : 16 ≤ v
        · have HA2 := Lib.hid (HA.out (Or.inr b2))
          go_wp2_with (first
            | (go_at_call 63; go_must (refine (H1.out _ _ rfl).mono ?_; rintro e w1 ⟨rfl, rfl⟩)))
          go_returns
          exact ⟨ret_of HA2.out.symm, rfl⟩
        · have HB2 := Lib.hid (HB.out (by omega))
          by_cases b3 : 9007199254740992 < n * 16 + v
          · go_wp2_with (first
              | (go_at_call 63; go_must (refine (H1.out _ _ rfl).mono ?_; rintro e w1 ⟨rfl, rfl⟩)))
            go_round
            case rel => exact ⟨pos + 1, min (n * 16 + v) 9007199254740993, by omega, by omega, by omega, val_int (by omega), by go_num, HB2⟩
            case measure => simp [intOf]; omega
          · go_wp2_with (first
              | (go_at_call 63; go_must (refine (H1.out _ _ rfl).mono ?_; rintro e w1 ⟨rfl, rfl⟩)))
            go_round
            case rel => exact ⟨pos + 1, min (n * 16 + v) 9007199254740993, by omega, by omega, by omega, val_int (by omega), by go_num, HB2⟩
            case measure => simp [intOf]; omega
      · have HE := Lib.hid (HS.out _ (mg_end hlt HW.out))
        go_wp2
        go_returns
        exact ⟨ret_of HE.out.symm, rfl⟩

theorem rplain_any (s : ByteArray) (b : Int) (w : World) (hs : s.size ≤ 140737488351232) (hb : b = 10 ∨ b = 16) :
    Calls Tryd.prog 54 #[.string s, .int .i64 b] w fun e w' => e = .returned (mgV s.data.toList b) ∧ w = w' := by
  rcases hb with rfl | rfl
  · exact rplain_10 s w hs
  · exact rplain_16 s w hs

end Go.Proofs.YtpeiiomimfiebaaDoor
