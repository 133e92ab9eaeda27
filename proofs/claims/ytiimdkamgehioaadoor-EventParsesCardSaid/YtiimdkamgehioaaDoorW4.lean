/-
  The walk of magnitude.
-/
import Derived.Test.YtiimdkamgehioaaDoorW2
import Derived.Handy
namespace Go.Proofs.YtiimdkamgehioaaDoor
open Go.RowKit
set_option linter.unusedVariables false
set_option linter.unusedSimpArgs false

def mgV (l : List UInt8) (b : Int) : Value := match mg l b with | some n => .tuple #[.int .i64 n, .bool true] | none => .tuple #[.int .i64 0, .bool false]
theorem mgV_some (l : List UInt8) (b n : Int) (h : mg l b = some n) : mgV l b = .tuple #[.int .i64 n, .bool true] := by unfold mgV; rw [h]
theorem mgV_none (l : List UInt8) (b : Int) (h : mg l b = none) : mgV l b = .tuple #[.int .i64 0, .bool false] := by unfold mgV; rw [h]
theorem ret_of {a b : Value} (h : a = b) : Ending.returned a = .returned b := by rw [h]
theorem mg_empty {s : ByteArray} (h : s.size = 0) (b : Int) : mg s.data.toList b = none := by rw [empty_toList h]; rfl
theorem cons_of {s : ByteArray} (h : 0 < s.size) : s.data.toList = s[0] :: s.data.toList.drop 1 := by
  have := drop_at s 0 h
  rwa [List.drop_zero, Nat.zero_add] at this
theorem mg_lead {s : ByteArray} (h : 1 < s.size) (h0 : s[0].toNat = 48) (b : Int) : mg s.data.toList b = none := by
  rw [cons_of (by omega)]
  simp only [mg]
  rw [if_pos ⟨by simp; omega, h0⟩]
theorem mg_go {s : ByteArray} (h : 0 < s.size) (h0 : s.size = 1 ∨ s[0].toNat ≠ 48) (b : Int) : mg s.data.toList b = mgF b (s.data.toList.drop 0) 0 := by
  rw [List.drop_zero, cons_of h]
  simp only [mg]
  rw [if_neg]
  intro a
  simp at a
  rcases h0 with h0 | h0
  · omega
  · exact h0 a.2
theorem mg_bad {s : ByteArray} {pos : Nat} {b n : Int} {G : Option Int} (h : pos < s.size) (hc : hx s[pos].toNat < 0 ∨ b ≤ hx s[pos].toNat) (hw : G = mgF b (s.data.toList.drop pos) n) : G = none := by
  rw [drop_at s pos h] at hw
  simp only [mgF] at hw; rw [if_pos hc] at hw; exact hw
theorem mg_step {s : ByteArray} {pos : Nat} {b n : Int} {G : Option Int} (h : pos < s.size) (hc : ¬ (hx s[pos].toNat < 0 ∨ b ≤ hx s[pos].toNat)) (hw : G = mgF b (s.data.toList.drop pos) n) : G = mgF b (s.data.toList.drop (pos + 1)) (min (n * b + hx s[pos].toNat) 9007199254740993) := by
  rw [drop_at s pos h] at hw
  simp only [mgF] at hw; rw [if_neg hc] at hw; exact hw
theorem mg_end {s : ByteArray} {pos : Nat} {b n : Int} {G : Option Int} (h : ¬ pos < s.size) (hw : G = mgF b (s.data.toList.drop pos) n) : G = some n := by
  rw [drop_end s pos h] at hw
  simpa only [mgF] using hw
theorem toList_empty {s : ByteArray} (h : s.size = 0) : s.toList = [] := by rw [ByteArray.toList_eq]; exact empty_toList h
theorem toList_some {s : ByteArray} (h : 0 < s.size) : s.toList.isEmpty = false := by
  rw [ByteArray.toList_eq, List.isEmpty_eq_false_iff]; intro e
  have : s.data.toList.length = 0 := by rw [e]; rfl
  rw [← size_len] at this
  omega

set_option maxHeartbeats 2000000 in
theorem magnitude_10 (s : ByteArray) (w : World) (hs : s.size ≤ 140737488351232) :
    Calls Tryd.prog 98 #[.string s, .int .i64 10] w fun e w' => e = .returned (mgV s.data.toList 10) ∧ Below w.heap.size w w' := by
  have hs' : (s.size : Int) ≤ 140737488351232 := by omega
  by_cases h0 : s.size = 0
  · have he := toList_empty h0
    have hv := Lib.hid (mgV_none _ _ (mg_empty h0 10))
    clear h0
    go_enter Tryd.func98, Tryd.ntmps98
    go_wp2
    go_returns
    exact ⟨ret_of hv.out.symm, Below.refl _ _⟩
  have hp : 0 < s.size := by omega
  have he := toList_some hp
  by_cases hlead : 1 < s.size ∧ s[0].toNat = 48
  · obtain ⟨h1, h2⟩ := hlead
    have hv := Lib.hid (mgV_none _ _ (mg_lead h1 h2 10))
    have h3 : ((s[0].toNat : Int) == 48) = true := by rw [h2]; rfl
    have h4 : (1 : Int) < s.size := by omega
    clear h0 h2 h1
    go_enter Tryd.func98, Tryd.ntmps98
    go_wp2
    go_returns
    exact ⟨ret_of hv.out.symm, Below.refl _ _⟩
  have hG := mg_go hp (by by_cases h1 : s.size = 1; exact Or.inl h1; exact Or.inr fun e => hlead ⟨by omega, e⟩) 10
  have hc : ((s.size : Int) ≤ 1 ∨ (1 : Int) < s.size ∧ ((s[0].toNat : Int) == 48) = false) := by
    by_cases h1 : 1 < s.size
    · refine Or.inr ⟨by omega, ?_⟩
      rw [Bool.eq_false_iff]; intro e
      have : (s[0].toNat : Int) = 48 := by simpa using e
      exact hlead ⟨h1, by omega⟩
    · exact Or.inl (by omega)
  have HS := Lib.hid (mgV_some s.data.toList 10); have HN := Lib.hid (mgV_none s.data.toList 10)
  generalize mgV s.data.toList 10 = V at *
  generalize mg s.data.toList 10 = G at *
  have HG := Lib.hid hG
  clear hG h0 hlead
  rcases hc with hc | ⟨hc, hd⟩
  all_goals
    go_enter Tryd.func98, Tryd.ntmps98
    go_wp2
    go_loopw [6] (fun x wr => ∃ (pos : Nat) (n : Int), pos ≤ s.size ∧ 0 ≤ n ∧ n ≤ 9007199254740993 ∧ x = .int .i64 n ∧ wr = w.iter s pos ∧ Hid (G = mgF 10 (s.data.toList.drop pos) n)) (fun _ wr => s.size - wr.iterPos w.heap.size)
    case atStart => exact ⟨0, 0, by omega, by omega, by omega, rfl, rfl, HG⟩
    case round =>
      clear hc
      obtain ⟨pos, n, hp, hn0, hn1, rfl, rfl, HW⟩ := hrel
      by_cases hlt : pos < s.size
      · have hnx : ∀ ty, (Instr.next (.pointer (some ⟨w.heap.size, 0, none⟩)) true ty).run Tryd.prog (w.iter s pos) = _ := fun ty => run_next_any w s pos ty hlt
        by_cases ha : s[pos].toNat < 128
        · rw [decode_ascii s pos hlt ha] at hnx
          have C1 := fun (w : World) (C : Int) (h : C = (s[pos].toNat : Int)) => digitValue_any s[pos].toNat C w h (by omega)
          have HA := Lib.hid (fun h => HN.out (mg_bad hlt h HW.out))
          have HB := Lib.hid (fun h => mg_step hlt h HW.out)
          obtain ⟨v1, v2⟩ := hx_lt s[pos].toNat
          generalize hx s[pos].toNat = v at *
          generalize s[pos].toNat = c at *
          have H1 := Lib.hid C1
          clear C1
          by_cases b1 : v < 0
          · have HA2 := Lib.hid (HA.out (Or.inl b1))
            go_wp2_with (first
              | (go_at_call 116; go_must (refine (H1.out _ _ (by omega)).mono ?_; rintro e w1 ⟨rfl, rfl⟩)))
            go_returns
            exact ⟨ret_of HA2.out.symm, (Below.refl _ w).alloc (Nat.le_refl _) _⟩
          by_cases b2 : 10 ≤ v
          · have HA2 := Lib.hid (HA.out (Or.inr b2))
            go_wp2_with (first
              | (go_at_call 116; go_must (refine (H1.out _ _ (by omega)).mono ?_; rintro e w1 ⟨rfl, rfl⟩)))
            go_returns
            exact ⟨ret_of HA2.out.symm, (Below.refl _ w).alloc (Nat.le_refl _) _⟩
          · have HB2 := Lib.hid (HB.out (by omega))
            go_wp2_with (first
              | (go_at_call 116; go_must (refine (H1.out _ _ (by omega)).mono ?_; rintro e w1 ⟨rfl, rfl⟩)))
            all_goals
              go_roundw
              case rel => exact ⟨pos + 1, min (n * 10 + v) 9007199254740993, by omega, by omega, by omega, by first | rfl | exact val_int (by omega), rfl, HB2⟩
              case measure => simp only [World.iterPos_iter]; omega
        · obtain ⟨d1, d2, d3, d5⟩ := rune_high s pos hlt (by omega)
          have d4 := decode_le s pos
          have HA2 := Lib.hid (HN.out (mg_bad hlt (Or.inl (by rw [hx_big (by omega)]; omega)) HW.out))
          generalize (Utf8.decode s pos).1 = c at *
          generalize (Utf8.decode s pos).2 = m at *
          have C1 := fun (w : World) (C : Int) (h : C = (c : Int)) => digitValue_any c C w h d4
          rw [hx_big d1] at C1
          have H1 := Lib.hid C1
          clear C1 d5
          go_wp2_with (first
            | (go_at_call 116; go_must (refine (H1.out _ _ (by omega)).mono ?_; rintro e w1 ⟨rfl, rfl⟩)))
          go_returns
          exact ⟨ret_of HA2.out.symm, (Below.refl _ w).alloc (Nat.le_refl _) _⟩
      · have hnx : ∀ ty, (Instr.next (.pointer (some ⟨w.heap.size, 0, none⟩)) true ty).run Tryd.prog (w.iter s pos) = _ := fun ty => run_next_end w s pos ty hlt
        have HE := Lib.hid (HS.out _ (mg_end hlt HW.out))
        go_wp2
        go_returns
        exact ⟨ret_of HE.out.symm, (Below.refl _ w).alloc (Nat.le_refl _) _⟩

set_option maxHeartbeats 2000000 in
theorem magnitude_16 (s : ByteArray) (w : World) (hs : s.size ≤ 140737488351232) :
    Calls Tryd.prog 98 #[.string s, .int .i64 16] w fun e w' => e = .returned (mgV s.data.toList 16) ∧ Below w.heap.size w w' := by
  have hs' : (s.size : Int) ≤ 140737488351232 := by omega
  by_cases h0 : s.size = 0
  · have he := toList_empty h0
    have hv := Lib.hid (mgV_none _ _ (mg_empty h0 16))
    clear h0
    go_enter Tryd.func98, Tryd.ntmps98
    go_wp2
    go_returns
    exact ⟨ret_of hv.out.symm, Below.refl _ _⟩
  have hp : 0 < s.size := by omega
  have he := toList_some hp
  by_cases hlead : 1 < s.size ∧ s[0].toNat = 48
  · obtain ⟨h1, h2⟩ := hlead
    have hv := Lib.hid (mgV_none _ _ (mg_lead h1 h2 16))
    have h3 : ((s[0].toNat : Int) == 48) = true := by rw [h2]; rfl
    have h4 : (1 : Int) < s.size := by omega
    clear h0 h2 h1
    go_enter Tryd.func98, Tryd.ntmps98
    go_wp2
    go_returns
    exact ⟨ret_of hv.out.symm, Below.refl _ _⟩
  have hG := mg_go hp (by by_cases h1 : s.size = 1; exact Or.inl h1; exact Or.inr fun e => hlead ⟨by omega, e⟩) 16
  have hc : ((s.size : Int) ≤ 1 ∨ (1 : Int) < s.size ∧ ((s[0].toNat : Int) == 48) = false) := by
    by_cases h1 : 1 < s.size
    · refine Or.inr ⟨by omega, ?_⟩
      rw [Bool.eq_false_iff]; intro e
      have : (s[0].toNat : Int) = 48 := by simpa using e
      exact hlead ⟨h1, by omega⟩
    · exact Or.inl (by omega)
  have HS := Lib.hid (mgV_some s.data.toList 16); have HN := Lib.hid (mgV_none s.data.toList 16)
  generalize mgV s.data.toList 16 = V at *
  generalize mg s.data.toList 16 = G at *
  have HG := Lib.hid hG
  clear hG h0 hlead
  rcases hc with hc | ⟨hc, hd⟩
  all_goals
    go_enter Tryd.func98, Tryd.ntmps98
    go_wp2
    go_loopw [6] (fun x wr => ∃ (pos : Nat) (n : Int), pos ≤ s.size ∧ 0 ≤ n ∧ n ≤ 9007199254740993 ∧ x = .int .i64 n ∧ wr = w.iter s pos ∧ Hid (G = mgF 16 (s.data.toList.drop pos) n)) (fun _ wr => s.size - wr.iterPos w.heap.size)
    case atStart => exact ⟨0, 0, by omega, by omega, by omega, rfl, rfl, HG⟩
    case round =>
      clear hc
      obtain ⟨pos, n, hp, hn0, hn1, rfl, rfl, HW⟩ := hrel
      by_cases hlt : pos < s.size
      · have hnx : ∀ ty, (Instr.next (.pointer (some ⟨w.heap.size, 0, none⟩)) true ty).run Tryd.prog (w.iter s pos) = _ := fun ty => run_next_any w s pos ty hlt
        by_cases ha : s[pos].toNat < 128
        · rw [decode_ascii s pos hlt ha] at hnx
          have C1 := fun (w : World) (C : Int) (h : C = (s[pos].toNat : Int)) => digitValue_any s[pos].toNat C w h (by omega)
          have HA := Lib.hid (fun h => HN.out (mg_bad hlt h HW.out))
          have HB := Lib.hid (fun h => mg_step hlt h HW.out)
          obtain ⟨v1, v2⟩ := hx_lt s[pos].toNat
          generalize hx s[pos].toNat = v at *
          generalize s[pos].toNat = c at *
          have H1 := Lib.hid C1
          clear C1
          by_cases b1 : v < 0
          · have HA2 := Lib.hid (HA.out (Or.inl b1))
            go_wp2_with (first
              | (go_at_call 116; go_must (refine (H1.out _ _ (by omega)).mono ?_; rintro e w1 ⟨rfl, rfl⟩)))
            go_returns
            exact ⟨ret_of HA2.out.symm, (Below.refl _ w).alloc (Nat.le_refl _) _⟩
          by_cases b2 : 16 ≤ v
          · have HA2 := Lib.hid (HA.out (Or.inr b2))
            go_wp2_with (first
              | (go_at_call 116; go_must (refine (H1.out _ _ (by omega)).mono ?_; rintro e w1 ⟨rfl, rfl⟩)))
            go_returns
            exact ⟨ret_of HA2.out.symm, (Below.refl _ w).alloc (Nat.le_refl _) _⟩
          · have HB2 := Lib.hid (HB.out (by omega))
            go_wp2_with (first
              | (go_at_call 116; go_must (refine (H1.out _ _ (by omega)).mono ?_; rintro e w1 ⟨rfl, rfl⟩)))
            all_goals
              go_roundw
              case rel => exact ⟨pos + 1, min (n * 16 + v) 9007199254740993, by omega, by omega, by omega, by first | rfl | exact val_int (by omega), rfl, HB2⟩
              case measure => simp only [World.iterPos_iter]; omega
        · obtain ⟨d1, d2, d3, d5⟩ := rune_high s pos hlt (by omega)
          have d4 := decode_le s pos
          have HA2 := Lib.hid (HN.out (mg_bad hlt (Or.inl (by rw [hx_big (by omega)]; omega)) HW.out))
          generalize (Utf8.decode s pos).1 = c at *
          generalize (Utf8.decode s pos).2 = m at *
          have C1 := fun (w : World) (C : Int) (h : C = (c : Int)) => digitValue_any c C w h d4
          rw [hx_big d1] at C1
          have H1 := Lib.hid C1
          clear C1 d5
          go_wp2_with (first
            | (go_at_call 116; go_must (refine (H1.out _ _ (by omega)).mono ?_; rintro e w1 ⟨rfl, rfl⟩)))
          go_returns
          exact ⟨ret_of HA2.out.symm, (Below.refl _ w).alloc (Nat.le_refl _) _⟩
      · have hnx : ∀ ty, (Instr.next (.pointer (some ⟨w.heap.size, 0, none⟩)) true ty).run Tryd.prog (w.iter s pos) = _ := fun ty => run_next_end w s pos ty hlt
        have HE := Lib.hid (HS.out _ (mg_end hlt HW.out))
        go_wp2
        go_returns
        exact ⟨ret_of HE.out.symm, (Below.refl _ w).alloc (Nat.le_refl _) _⟩

theorem magnitude_any (s : ByteArray) (b : Int) (w : World) (hs : s.size ≤ 140737488351232) (hb : b = 10 ∨ b = 16) :
    Calls Tryd.prog 98 #[.string s, .int .i64 b] w fun e w' => e = .returned (mgV s.data.toList b) ∧ Below w.heap.size w w' := by
  rcases hb with rfl | rfl
  · exact magnitude_10 s w hs
  · exact magnitude_16 s w hs

end Go.Proofs.YtiimdkamgehioaaDoor
