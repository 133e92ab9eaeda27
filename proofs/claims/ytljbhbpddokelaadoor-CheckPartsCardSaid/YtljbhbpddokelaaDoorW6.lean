/-
  The walks of onlyBits and register.
-/
import Derived.Test.YtljbhbpddokelaaDoorM3
import Derived.Test.YtljbhbpddokelaaDoorW4
import Derived.Test.YtljbhbpddokelaaDoorW5
namespace Go.Proofs.YtljbhbpddokelaaDoor
open Go.RowKit
set_option linter.unusedVariables false
set_option linter.unusedSimpArgs false

def ob (l : List UInt8) : Bool := l.all isBit
theorem ob_bad {s : ByteArray} (j : Nat) (hj : j < s.size) (h : s[j].toNat ≠ 48) (h' : s[j].toNat ≠ 49) : ob s.data.toList = false := by
  rcases hb : ob s.data.toList with _ | _
  · rfl
  · unfold ob at hb
    rw [List.all_eq_true] at hb
    have := (isBit_iff _).1 (hb _ (List.getElem_mem (by simpa using hj)))
    rw [getElem_toList s j hj] at this
    omega
theorem ob_all {s : ByteArray} (h' : ∀ j (hj : j < s.size), s[j].toNat = 48 ∨ s[j].toNat = 49) : ob s.data.toList = true := by
  unfold ob
  rw [List.all_eq_true]
  intro b hb
  obtain ⟨j, hj, rfl⟩ := List.getElem_of_mem hb
  exact (isBit_iff _).2 (h' j (by simpa using hj))
theorem ob_mem {l : List UInt8} (h : ob l = true) : ∀ b ∈ l, b.toNat = 48 ∨ b.toNat = 49 := by
  unfold ob at h
  rw [List.all_eq_true] at h
  exact fun b hb => (isBit_iff b).1 (h b hb)
theorem ob_at {s : ByteArray} (h : ob s.data.toList = true) (j : Nat) (hj : j < s.size) : s[j].toNat = 48 ∨ s[j].toNat = 49 :=
  ob_mem h _ (by rw [← getElem_toList s j hj]; exact List.getElem_mem _)

set_option maxHeartbeats 1000000 in
theorem onlyBits_any (s : ByteArray) (w : World) (hs : s.size ≤ 140737488351232) :
    Calls Tryd.prog 34 #[.string s] w fun e w' => e = .returned (.bool (ob s.data.toList)) ∧ w = w' := by
  have hs' : (s.size : Int) ≤ 140737488351232 := by omega
  have HBad := Lib.hid (@ob_bad s)
  have HAll := Lib.hid (@ob_all s)
  go_enter Tryd.func34, Tryd.ntmps34
  go_wp2
  go_loop [6] (fun x => ∃ k : Nat, k ≤ s.size ∧ x = .int .i64 k ∧ Hid (∀ j (hj : j < s.size), j < k → s[j].toNat = 48 ∨ s[j].toNat = 49)) (fun x => s.size - (intOf x).toNat)
  case atStart => exact ⟨0, by omega, rfl, fun j hj h => by omega⟩
  case round =>
    obtain ⟨k, hk, rfl, HC⟩ := hrel
    by_cases he : k = s.size
    · have HT := Lib.hid (HAll.out fun j hj => HC.out j hj (by omega))
      go_wp2
      go_returns
      exact ⟨ret_bool HT.out.symm, rfl⟩
    · have hlt : k < s.size := by omega
      go_wp2
      all_goals first
        | (go_returns
           exact ⟨ret_bool (HBad.out k hlt (by (first | omega | (simp only [beq_iff_eq, beq_eq_false_iff_ne, bne_iff_ne, ne_eq, bne_eq_false_iff_eq] at *; omega))) (by (first | omega | (simp only [beq_iff_eq, beq_eq_false_iff_ne, bne_iff_ne, ne_eq, bne_eq_false_iff_eq] at *; omega)))).symm, rfl⟩)
        | (have hb : s[k].toNat = 48 ∨ s[k].toNat = 49 := by (first | omega | (simp only [beq_iff_eq, beq_eq_false_iff_ne, bne_iff_ne, ne_eq, bne_eq_false_iff_eq] at *; omega))
           go_round
           case rel => exact ⟨k + 1, by omega, by go_num, fun j hj hjk => by
             rcases Nat.lt_or_ge j k with h | h
             · exact HC.out j hj h
             · obtain rfl : j = k := by omega
               exact hb⟩
           case measure => simp [intOf]; omega)

/-! The register's operations, as the walk has them. -/
theorem reg_and {N V : Nat} (hV : V ≤ 31) (hN : N < 2 ^ (V + 1)) : bits .and .i64 (wrap64 ((N : Int) * 2)) (wrap64 (wrap64 (2 ^ (V + 1)) - 1)) = ((2 * N % 2 ^ (V + 1) : Nat) : Int) := by
  obtain ⟨h1, h2, h3⟩ := shl_1 (V := V + 1) (by omega)
  have h4 : 2 ^ (V + 1) ≤ 2 ^ 32 := Nat.pow_le_pow_right (by omega) (by omega)
  have e1 : wrap64 ((N : Int) * 2) = ((2 * N : Nat) : Int) := by unfold wrap64; omega
  have e2 : wrap64 (((2 ^ (V + 1) : Nat) : Int) - 1) = ((2 ^ (V + 1) : Nat) : Int) - 1 := by unfold wrap64; omega
  rw [h1, e1, e2]
  exact and_mask _ _ (by omega) (by omega)
theorem mod_lt32 {N V : Nat} (hV : V ≤ 31) : 2 * N % 2 ^ (V + 1) < 4294967296 := by
  have h4 : 2 ^ (V + 1) ≤ 2 ^ 32 := Nat.pow_le_pow_right (by omega) (by omega)
  exact Nat.lt_of_lt_of_le (Nat.mod_lt _ (Nat.two_pow_pos _)) h4
theorem lt32 {N V : Nat} (hV : V ≤ 31) (h : N < 2 ^ (V + 1)) : N < 4294967296 :=
  Nat.lt_of_lt_of_le h (Nat.pow_le_pow_right (n := 2) (by omega) (by omega : V + 1 ≤ 32))
theorem top_eq {N V d : Nat} (hd : d = 48 ∨ d = 49) : ((N : Int) / 2 ^ V = (d : Int) - 48) ↔ N / 2 ^ (V + 1 - 1) = d - 48 := by
  have e : (N : Int) / 2 ^ V = ((N / 2 ^ V : Nat) : Int) := by simp
  rw [e, Nat.add_sub_cancel]
  omega
theorem stp_yes {V P N b : Nat} (h : N / 2 ^ (V + 1 - 1) = b) : stp (V + 1) P N b = 2 * N % 2 ^ (V + 1) := by unfold stp; rw [if_pos h]
theorem stp_no {V P N b : Nat} (h : ¬ N / 2 ^ (V + 1 - 1) = b) : stp (V + 1) P N b = (2 * N % 2 ^ (V + 1)) ^^^ P := by unfold stp; rw [if_neg h]

theorem rgn_take (W P I : Nat) (s : ByteArray) (k : Nat) (h : k < s.size) : rgn W P I (bs (s.data.toList.take (k + 1))) = stp W P (rgn W P I (bs (s.data.toList.take k))) (s[k].toNat - 48) := by
  rw [take_next _ k (by simpa using h), bs_append, rgn_append]
  rfl

set_option maxRecDepth 20000 in
set_option maxHeartbeats 1000000 in
theorem register_any (V P I : Nat) (X : Int) (R : Bool) (s : ByteArray) (w : World) (hs : s.size ≤ 140737488351232) (hok : ob s.data.toList = true) (hV : V ≤ 31) (hP : P < 2 ^ (V + 1)) (hI : I < 2 ^ (V + 1)) :
    Calls Tryd.prog 39 #[crV ((V : Int) + 1) P I X R, .string s] w fun e w' => e = .returned (.int .i64 (rgn (V + 1) P I (bs s.data.toList) : Nat)) ∧ Below w.heap.size w w' := by
  unfold crV
  have hs' : (s.size : Int) ≤ 140737488351232 := by omega
  have HA := Lib.hid (all_take s)
  have HOk := Lib.hid (fun j hj => ob_at hok j hj)
  have HT := Lib.hid (rgn_take (V + 1) P I s)
  clear hok
  go_enter Tryd.func39, Tryd.ntmps39
  go_wp2
  go_loop [12, 5] (fun x y => ∃ k N : Nat, k ≤ s.size ∧ N < 2 ^ (V + 1) ∧ x = .int .i64 k ∧ y = .int .i64 N ∧ Hid (N = rgn (V + 1) P I (bs (s.data.toList.take k)))) (fun x _ => s.size - (intOf x).toNat)
  case atStart => exact ⟨0, I, by omega, hI, rfl, rfl, by rw [List.take_zero]; rfl⟩
  case round =>
    obtain ⟨k, N, hk, hN, rfl, rfl, HN⟩ := hrel
    by_cases he : k = s.size
    · subst he
      go_wp2
      go_returns
      exact ⟨ret_int (by have := HN.out; rw [HA.out] at this; omega), ba w _⟩
    · have hlt : k < s.size := by omega
      have hc0 := HOk.out k hlt
      have HS := Lib.hid (HT.out k hlt)
      have HAnd := reg_and hV hN
      have hm := mod_lt32 (N := N) hV
      have hp := lt32 hV hP
      have hm1 := Nat.mod_lt (2 * N) (Nat.two_pow_pos (V + 1))
      have hs0 := @stp_yes V P N (s[k].toNat - 48)
      have hs1 := @stp_no V P N (s[k].toNat - 48)
      obtain ⟨M, hM⟩ : ∃ M, 2 * N % 2 ^ (V + 1) = M := ⟨_, rfl⟩
      rw [hM] at HAnd hm hm1 hs0 hs1
      have HS0 := Lib.hid hs0
      have HS1 := Lib.hid hs1
      have Hm1 := Lib.hid hm1
      have HP := Lib.hid hP
      have HI := Lib.hid hI
      clear hM hs0 hs1 hm1
      by_cases hd : (N : Int) / 2 ^ V = (s[k].toNat : Int) - 48
      · rw [← HN.out, HS0.out ((top_eq hc0).1 hd)] at HS
        go_wp2
        go_round
        case rel => exact ⟨k + 1, M, by omega, Hm1.out, by go_num, rfl, HS.out.symm⟩
        case measure => simp [intOf]; omega
      · rw [← HN.out, HS1.out (fun h => hd ((top_eq hc0).2 h))] at HS
        have hx := xor_i64 M P (by omega) (by omega)
        go_wp2
        go_round
        case rel => exact ⟨k + 1, M ^^^ P, by omega, Nat.xor_lt_two_pow Hm1.out HP.out, by go_num, val_int (by first | rfl | exact hx | rw [HAnd, hx]), HS.out.symm⟩
        case measure => simp [intOf]; omega

end Go.Proofs.YtljbhbpddokelaaDoor
