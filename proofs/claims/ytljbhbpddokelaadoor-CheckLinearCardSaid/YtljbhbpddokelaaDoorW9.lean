/-
  The walks of the specification's next, final, Bits and Bytes.
-/
import Derived.Test.YtljbhbpddokelaaDoorW7
namespace Go.Proofs.YtljbhbpddokelaaDoor
open Go.RowKit
set_option linter.unusedVariables false
set_option linter.unusedSimpArgs false

set_option maxRecDepth 20000 in
set_option maxHeartbeats 1000000 in
theorem next_any (V P N b : Nat) (I X : Int) (R : Bool) (w : World) (hV : V ≤ 31) (hP : P < 2 ^ (V + 1)) (hN : N < 2 ^ (V + 1)) :
    Calls Tryd.prog 36 #[crV ((V : Int) + 1) P I X R, .int .i64 N, .int .i64 b] w fun e w' => e = .returned (.int .i64 (stp (V + 1) P N b : Nat)) ∧ Below w.heap.size w w' := by
  unfold crV
  have hp := lt32 hV hP
  have hn := lt32 hV hN
  obtain ⟨hw, hw0, hw1⟩ := shl_1 (V := V + 1) (by omega)
  have hm := mod_lt32 (N := N) hV
  have hs0 := @stp_yes V P N b
  have hs1 := @stp_no V P N b
  have ht : ((N : Int) / 2 ^ V = (b : Int)) ↔ N / 2 ^ (V + 1 - 1) = b := by
    have e : (N : Int) / 2 ^ V = ((N / 2 ^ V : Nat) : Int) := by simp
    rw [e, Nat.add_sub_cancel]; omega
  obtain ⟨Z, hZ⟩ : ∃ Z, 2 ^ (V + 1) = Z := ⟨_, rfl⟩
  have hmod : ((N : Int) * 2) % (Z : Int) = ((2 * N % Z : Nat) : Int) := by rw [Nat.mul_comm]; simp
  rw [hZ] at hw hw0 hw1 hm hs0 hs1
  obtain ⟨M, hM⟩ : ∃ M, 2 * N % Z = M := ⟨_, rfl⟩
  rw [hM] at hm hs0 hs1 hmod
  clear hM
  have hP' := Lib.hid hP; have hN' := Lib.hid hN
  clear hP hN hZ
  by_cases hd : (N : Int) / 2 ^ V = (b : Int)
  · rw [hs0 (ht.1 hd)]
    have HH := Lib.hid hs1
    clear hs0 hs1 ht
    go_enter Tryd.func36, Tryd.ntmps36
    go_wp2
    go_returns
    exact ⟨ret_int hmod, ba w _⟩
  · rw [hs1 (fun h => hd (ht.2 h))]
    have hx := xor_i64 M P (by omega) (by omega)
    have HH := Lib.hid hs0
    clear hs0 hs1 ht
    go_enter Tryd.func36, Tryd.ntmps36
    go_wp2
    go_returns
    exact ⟨ret_int (by first | rfl | (rw [hmod]; exact hx)), ba w _⟩

theorem rv_succ (n k : Nat) : rv n (k + 1) = 2 * rv n k + n / 2 ^ k % 2 := rfl
theorem rv_lt32 (n k : Nat) (h : k ≤ 31) : rv n k < 2147483648 := Nat.lt_of_lt_of_le (rv_lt n k) (Nat.pow_le_pow_right (n := 2) (by omega) (by omega : k ≤ 31))

set_option maxRecDepth 20000 in
set_option maxHeartbeats 1000000 in
theorem final_any (V N X : Nat) (P I : Int) (R : Bool) (w : World) (hV : V ≤ 31) (hN : N < 2 ^ (V + 1)) (hX : X < 2 ^ (V + 1)) :
    Calls Tryd.prog 37 #[crV ((V : Int) + 1) P I X R, .int .i64 N] w fun e w' => e = .returned (.int .i64 (rvI N (V + 1) R ^^^ X : Nat)) ∧ Below w.heap.size w w' := by
  unfold crV rvI
  have hn := lt32 hV hN
  have hx0 := lt32 hV hX
  cases R
  · rw [if_neg (by simp)]
    have hx := xor_i64 N X (by omega) (by omega)
    clear hN hX
    go_enter Tryd.func37, Tryd.ntmps37
    go_wp2
    go_returns
    exact ⟨ret_int (by first | exact hx | rfl), ba w _⟩
  · rw [if_pos rfl]
    have hx := fun M (h : M < 4294967296) => xor_i64 M X (by omega) (by omega)
    have HR := Lib.hid (rv_succ N)
    have HL := Lib.hid (rv_lt32 N)
    have HN := Lib.hid (lt32 hV (rv_lt N (V + 1)))
    have HX := Lib.hid hx
    clear hN hX hx
    go_enter Tryd.func37, Tryd.ntmps37
    go_wp2
    go_loop [6, 5] (fun x y => ∃ k M : Nat, k ≤ V + 1 ∧ x = .int .i64 k ∧ y = .int .i64 M ∧ Hid (M = rv N k)) (fun x _ => V + 1 - (intOf x).toNat)
    case atStart => exact ⟨0, 0, by omega, rfl, rfl, rfl⟩
    case round =>
      obtain ⟨k, M, hk, rfl, rfl, HM⟩ := hrel
      by_cases he : k = V + 1
      · subst he
        have h1 := HN.out
        have h2 := HX.out M (by rw [HM.out]; exact h1)
        have h3 := HM.out
        have H3 := Lib.hid h3
        clear h1 h3
        go_wp2
        go_returns
        exact ⟨ret_int (by first | (rw [← H3.out]; done) | (rw [← H3.out]; exact h2)), ba w _⟩
      · have hlt : k ≤ V := by omega
        have hM : M < 2147483648 := by rw [HM.out]; exact HL.out k (by omega)
        have hq : ((N : Int) / 2 ^ k) % 2 = ((N / 2 ^ k % 2 : Nat) : Int) := by simp
        have hq0 : (N : Int) / 2 ^ k = ((N / 2 ^ k : Nat) : Int) := by simp
        obtain ⟨Q, hQ⟩ : ∃ Q, N / 2 ^ k = Q := ⟨_, rfl⟩
        have hS := HR.out k
        have hQ0 : Q ≤ N := by rw [← hQ]; exact Nat.div_le_self _ _
        rw [hQ] at hq hq0 hS
        rw [← HM.out] at hS
        have HS := Lib.hid hS
        clear hS hQ
        go_wp2
        go_round
        case rel => exact ⟨k + 1, 2 * M + Q % 2, by omega, by go_num, val_int (by omega), HS.out.symm⟩
        case measure => simp [intOf]; omega

end Go.Proofs.YtljbhbpddokelaaDoor
