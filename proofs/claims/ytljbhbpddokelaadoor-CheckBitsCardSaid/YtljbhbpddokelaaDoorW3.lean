/-
  The walks of number, and of FromInt, the program's and the specification's.
-/
import Derived.Test.YtljbhbpddokelaaDoorW2
import Derived.Test.YtljbhbpddokelaaDoorM2
import Derived.BigQuiet
namespace Go.Proofs.YtljbhbpddokelaaDoor
open Go.RowKit
set_option linter.unusedVariables false
set_option linter.unusedSimpArgs false

/-- One step of number, as the walk has it. -/
theorem num_or (s : ByteArray) (msb : Bool) (k : Nat) (h : k < s.size) (hs : s.size ≤ 62) (hok : okB s.data.toList = true) (x : Int) (hx : x = ((s[k].toNat - 48 : Nat) : Int) * 2 ^ pl s.size msb k) :
    bits .or .i64 (numK s.data.toList msb k : Nat) x = (numK s.data.toList msb (k + 1) : Nat) := by
  have hl := size_len s
  have hk : k < s.data.toList.length := by omega
  have hb : ∀ b ∈ s.data.toList, b.toNat = 48 ∨ b.toNat = 49 := fun b hb => okB_mem hok hb
  have h1 := numK_lt s.data.toList msb k (by omega) hb
  have h2 := numK_lt s.data.toList msb (k + 1) (by omega) hb
  have h3 := numK_step s.data.toList msb k hk
  have h4 := numK_or s.data.toList msb k hk hb
  have h5 : 2 ^ s.data.toList.length ≤ 2 ^ 62 := Nat.pow_le_pow_right (by omega) (by omega)
  rw [show s.data.toList[k] = s[k] from rfl, ← hl] at h3 h4
  have hx' : x = (((s[k].toNat - 48) * 2 ^ pl s.size msb k : Nat) : Int) := by rw [hx]; simp
  subst hx'
  rw [or_i64 _ _ (by omega) (by omega), h4]

theorem shl_w {d P : Nat} (hd : d = 48 ∨ d = 49) (hP : P < 62) : wrap64 (((d : Int) - 48) * 2 ^ P) = ((d - 48 : Nat) : Int) * 2 ^ P := by
  have h1 : (2 : Int) ^ P = ((2 ^ P : Nat) : Int) := by simp
  have h2 : 2 ^ P ≤ 2 ^ 61 := Nat.pow_le_pow_right (by omega) (by omega)
  have h4 : (0 : Int) ≤ 2 ^ P := Int.le_of_lt (Int.pow_pos (by decide))
  have h5 : (2 : Int) ^ P ≤ 2 ^ 61 := by rw [h1]; exact_mod_cast h2
  have h3 : ∀ x : Int, 0 ≤ x → x ≤ 2 ^ 61 → wrap64 x = x := fun x h0 h1 => by unfold wrap64; omega
  rcases hd with rfl | rfl
  · rw [show ((48 : Nat) : Int) - 48 = 0 by omega, Int.zero_mul, h3 0 (by omega) (by omega)]; simp
  · rw [show ((49 : Nat) : Int) - 48 = 1 by omega, Int.one_mul, h3 _ h4 h5]; simp

set_option maxRecDepth 20000 in
set_option maxHeartbeats 1000000 in
theorem number_any (s : ByteArray) (msb : Bool) (w : World) (hs : s.size ≤ 62) (hok : okB s.data.toList = true) :
    Calls Tryd.prog 45 #[.string s, .bool msb] w fun e w' => e = .returned (.int .i64 (numV s.data.toList msb : Nat)) ∧ Below w.heap.size w w' := by
  have hs' : (s.size : Int) ≤ 62 := by omega
  have HAll := Lib.hid (numK_all s.data.toList msb)
  have HLen := Lib.hid (size_len s)
  have HOk := Lib.hid hok
  go_enter Tryd.func45, Tryd.ntmps45
  go_wp2
  go_loopw [9, 5] (fun x y wr => ∃ k N : Nat, k ≤ s.size ∧ x = .int .i64 k ∧ y = .int .i64 N ∧ Hid (N = numK s.data.toList msb k) ∧ Below w.heap.size w wr) (fun x _ _ => s.size - (intOf x).toNat)
  case atStart => exact ⟨0, 0, by omega, rfl, rfl, (numK_zero _ _).symm, Below.refl _ _⟩
  case round =>
    obtain ⟨k, N, hk, rfl, rfl, HN, hb⟩ := hrel
    by_cases he : k = s.size
    · subst he
      go_wp2
      go_returns
      exact ⟨ret_int (by rw [HN.out, ← HAll.out, ← HLen.out]), hb⟩
    · have hlt : k < s.size := by omega
      have hd : s[k].toNat = 48 ∨ s[k].toNat = 49 := okB_mem HOk.out (by rw [← getElem_toList s k hlt]; exact List.getElem_mem _)
      obtain ⟨P, hP⟩ : ∃ P, pl s.size msb k = P := ⟨_, rfl⟩
      have HC : ∀ w, Calls Tryd.prog 41 #[.int .i64 k, .int .i64 s.size, .bool msb] w fun e w' => e = .returned (.int .i64 P) ∧ w = w' := fun w => by
        rw [← hP]; exact place_any k s.size msb w hlt (by omega)
      have hp := pl_lt msb hlt
      rw [hP] at hp
      have HO := Lib.hid (fun x => num_or s msb k hlt hs HOk.out x)
      rw [hP] at HO
      go_wp2
      go_quiet ((go_at_call 41; go_must (exact Calls.quiet_of_same ((HC _).mono fun _ _ h => ⟨h.1, h.2.symm⟩))))
      go_wp2
      go_roundw
      case rel => 
        refine ⟨k + 1, numK s.data.toList msb (k + 1), by omega, by go_num, val_int ?_, rfl, below_drewN hb _⟩
        rw [← HO.out _ rfl, HN.out, shl_w hd (by omega)]
      case measure => simp [intOf]; omega

/-- What FromInt answers. -/
def fiT (n W : Int) (msb : Bool) : List UInt8 := if 0 ≤ W ∧ W ≤ 62 then fi n W.toNat msb else []
theorem fiT_out {n W : Int} {msb : Bool} (h : W < 0 ∨ 62 < W) : fiT n W msb = [] := by unfold fiT; rw [if_neg (by omega)]
theorem fiT_in (n : Int) {W : Nat} (msb : Bool) (h : W ≤ 62) : fiT n W msb = fi n W msb := by unfold fiT; rw [if_pos (by omega)]; rfl

set_option maxHeartbeats 1000000 in
theorem fromInt_any (n W : Int) (msb : Bool) (w : World) (hn0 : -9223372036854775808 ≤ n) (hn1 : n ≤ 9223372036854775807) :
    Calls Tryd.prog 43 #[.int .i64 n, .int .i64 W, .bool msb] w fun e w' => e = .returned (.string ⟨(fiT n W msb).toArray⟩) ∧ Below w.heap.size w w' := by
  by_cases h : W < 0 ∨ 62 < W
  · rw [fiT_out h]
    rcases h with h | h
    · go_enter Tryd.func43, Tryd.ntmps43
      go_wp2
      go_returns
      exact ⟨rfl, Below.refl _ _⟩
    · go_enter Tryd.func43, Tryd.ntmps43
      go_wp2
      go_returns
      exact ⟨rfl, Below.refl _ _⟩
  · obtain ⟨V, rfl⟩ : ∃ V : Nat, W = V := ⟨W.toNat, by omega⟩
    have hV : V ≤ 62 := by omega
    rw [fiT_in n msb hV]
    have HC := Lib.hid (fun w => appendBits_any (.slice none 0 0) [] n V msb w w.heap.size (Row.nil _ _) (Nat.le_refl _) hV (by simp) hn0 hn1)
    generalize fi n V msb = T at HC ⊢
    clear hn0 hn1 h
    go_enter Tryd.func43, Tryd.ntmps43
    go_wp2_with (go_at_call 38; go_must (refine (HC.out _).mono ?_; rintro e w1 ⟨v1, rfl, ho, hb⟩; obtain ⟨A1, N1, c1, rfl, -⟩ := ho.form; have kc := ho.conv; rw [List.nil_append] at kc))
    go_returns
    exact ⟨rfl, hb⟩

end Go.Proofs.YtljbhbpddokelaaDoor
