/-
  What is written is not shorter than what a long token holds; parts of a joined text.
-/
import Derived.Test.YtpeiiomimfiebaaDoorM5
namespace Go.Proofs.YtpeiiomimfiebaaDoor
open Go Go.RowKit
set_option linter.unusedVariables false
set_option linter.unusedSimpArgs false

theorem mgF_dbl (b : Int) (hb : 2 ≤ b) : ∀ (l : List UInt8) (n m : Int), 1 ≤ n → mgF b l n = some m → n * 2 ^ l.length ≤ m ∨ 9007199254740993 ≤ m := by
  intro l
  induction l with
  | nil => intro n m hn h; simp only [mgF, Option.some.injEq] at h; subst h; left; simp
  | cons c r ih =>
    intro n m hn h
    simp only [mgF] at h
    split at h
    · cases h
    · rename_i hc
      have h0 : 0 ≤ hx c.toNat := by omega
      have hnb : n * 2 ≤ n * b := Int.mul_le_mul_of_nonneg_left hb (by omega)
      generalize n * b = nb at *
      have hp : (0 : Int) < 2 ^ r.length := Int.pow_pos (by decide)
      rcases ih _ m (by omega) h with h1 | h1
      · by_cases hcap : nb + hx c.toNat ≤ 9007199254740993
        · left
          rw [show min (nb + hx c.toNat) 9007199254740993 = nb + hx c.toNat by omega] at h1
          have h2 : n * 2 * 2 ^ r.length ≤ (nb + hx c.toNat) * 2 ^ r.length := Int.mul_le_mul_of_nonneg_right (by omega) (by omega)
          rw [List.length_cons, Int.pow_succ]
          rw [Int.mul_comm (2 ^ r.length) 2, ← Int.mul_assoc]
          omega
        · right
          rw [show min (nb + hx c.toNat) 9007199254740993 = 9007199254740993 by omega] at h1
          have h2 : (9007199254740993 : Int) * 1 ≤ 9007199254740993 * 2 ^ r.length := Int.mul_le_mul_of_nonneg_left (by omega) (by decide)
          omega
      · exact .inr h1
theorem mg_short (b : Int) (hb : 2 ≤ b) (l : List UInt8) (m : Int) (h : mg l b = some m) (hm : m ≤ 9007199254740992) : l.length ≤ 54 := by
  cases l with
  | nil => simp
  | cons c r =>
    simp only [mg] at h
    split at h
    · cases h
    · rename_i hc
      simp only [mgF] at h
      split at h
      · cases h
      · rename_i hd
        by_cases hr : 53 < r.length
        · exfalso
          have h48 : c.toNat ≠ 48 := fun e => hc ⟨by omega, e⟩
          have h0 : 1 ≤ hx c.toNat := by
            have : 0 ≤ hx c.toNat := by omega
            have : hx c.toNat ≠ 0 := by unfold hx; (repeat' split) <;> omega
            omega
          have hl := (hx_lt c.toNat).2
          rcases mgF_dbl b hb r _ m (by omega) h with h1 | h1
          · have h2 : (2 : Int) ^ 54 ≤ 2 ^ r.length := by
              have := Nat.pow_le_pow_right (n := 2) (by decide) (show 54 ≤ r.length by omega)
              exact_mod_cast this
            rw [show min (0 * b + hx c.toNat) 9007199254740993 = hx c.toNat by rw [Int.zero_mul]; omega] at h1
            have h3 : (1 : Int) * 2 ^ r.length ≤ hx c.toNat * 2 ^ r.length := Int.mul_le_mul_of_nonneg_right h0 (by omega)
            have h4 : (2 : Int) ^ 54 = 18014398509481984 := by decide
            omega
          · omega
        · simp only [List.length_cons]; omega
theorem trimp_len (l p : List UInt8) : l.length ≤ (Lib.trimPrefix l p).length + p.length := by
  unfold Lib.trimPrefix
  split
  · rw [List.length_drop]; omega
  · omega
theorem num_short (l : List UInt8) (h : numE l = 0) : l.length ≤ 57 := by
  unfold numE at h
  split at h
  · cases h
  · rename_i m hm
    split at h
    · cases h
    split at h
    · cases h
    rename_i h2
    have h3 := mg_short _ (by split <;> decide) _ m hm (by omega)
    have h4 := trimp_len (body l) [48, 120]
    have h5 := trimp_len l [45]
    unfold digs at h3
    unfold body at h3 h4
    simp only [List.length_cons, List.length_nil] at h4 h5
    omega
theorem wr_long (t : Tok) (h : vd t = true) (hl : 1048576 < t.t.length) : 1048576 < (wr t).length := by
  unfold vd at h
  unfold wr
  split at h
  · have := num_short t.t (by simp at h; exact h.1)
    omega
  · rename_i h2
    rw [if_neg h2]
    split
    · rw [qt_len]; have := (qtB_len t.t).1; omega
    · exact hl
theorem jn_take (l : List Tok) (i : Nat) (hi : i < l.length) : jn (l.take (i + 1)) = jn (l.take i) ++ ((if 0 < i then [32] else []) ++ wr l[i]) := by
  rw [List.take_succ_eq_append_getElem hi]
  cases i with
  | zero => simp [jn, jb]
  | succ i => rw [jn_snoc _ _ (by cases l with | nil => simp at hi | cons a b => simp)]; simp
theorem jn_le (l : List Tok) (i : Nat) : (jn (l.take i)).length ≤ (jn l).length := by
  have : jb l = jb (l.take i) ++ jb (l.drop i) := by unfold jb; rw [← List.flatMap_append, List.take_append_drop]
  unfold jn
  rw [this, List.length_drop, List.length_drop, List.length_append]
  omega

theorem wr_short (t : Tok) (h : vd t = true) (hl : t.t.length ≤ 1048576) : (wr t).length ≤ 4194306 := by
  unfold vd at h
  unfold wr
  split at h
  · rename_i h2
    rw [if_pos h2]
    have h3 : numV t.t = t.v := by simp at h; exact h.2
    have h4 := numV_range t.t
    have h5 := num_short _ (itoa_num t.v (by omega) (by omega)).2
    omega
  · rename_i h2
    rw [if_neg h2]
    split
    · rw [qt_len]; have := (qtB_len t.t).2; omega
    · omega

theorem wr_both (t : Tok) (h : vd t = true) : (1048576 < t.t.length → 1048576 < (wr t).length) ∧ (t.t.length ≤ 1048576 → (wr t).length ≤ 4194306) := ⟨wr_long t h, wr_short t h⟩

end Go.Proofs.YtpeiiomimfiebaaDoor
