/-
  Plain mathematics of the byte encoding: what is appended for a number, what is read, and that they undo one another.
-/
import Derived.Lib.Hide
import Derived.Laws.Bits64b
namespace Go.Proofs.YtillcmddbjhepaaGreatDoor
namespace Sb

/-- The bytes of a number: its groups of seven bits, the lowest first. -/
def put (n : Nat) : List UInt8 := if n < 128 then [UInt8.ofNat n] else UInt8.ofNat (n % 128 + 128) :: put (n / 128)
decreasing_by omega

theorem put_lt {n : Nat} (h : n < 128) : put n = [UInt8.ofNat n] := by rw [put, if_pos h]
theorem put_ge {n : Nat} (h : ¬ n < 128) : put n = UInt8.ofNat (n % 128 + 128) :: put (n / 128) := by rw [put, if_neg h]

theorem put_pos (n : Nat) : 0 < (put n).length := by
  by_cases h : n < 128
  · rw [put_lt h]; simp
  · rw [put_ge h]; simp

theorem put_le : ∀ (k n : Nat), n < 128 ^ (k + 1) → (put n).length ≤ k + 1 := by
  intro k
  induction k with
  | zero => intro n h; rw [put_lt (by omega)]; simp
  | succ k ih =>
    intro n h
    by_cases hn : n < 128
    · rw [put_lt hn]; simp
    · have := ih (n / 128) (by rw [Nat.div_lt_iff_lt_mul (by omega), ← Nat.pow_succ]; exact h)
      rw [put_ge hn]; simp; omega

theorem put_ten {n : Nat} (h : n < 18446744073709551616) : (put n).length ≤ 10 := put_le 9 n (by omega)

/-- What is read of the bytes l, when k bytes have been read: the number, how many bytes, and the error (0: none). -/
def tk (k : Nat) : List UInt8 → Nat × Nat × Nat
  | [] => (0, 0, 5)
  | c :: r =>
    if k = 9 ∧ 1 < c.toNat ∨ 0 < k ∧ c.toNat = 0 then (0, 0, 4)
    else if c.toNat < 128 then (c.toNat, 1, 0)
    else if (tk (k + 1) r).2.2 = 0 then (c.toNat % 128 + 128 * (tk (k + 1) r).1, (tk (k + 1) r).2.1 + 1, 0) else (0, 0, (tk (k + 1) r).2.2)

/-- The k bytes ahead had the value n. -/
def comb (n k : Nat) (R : Nat × Nat × Nat) : Nat × Nat × Nat := if R.2.2 = 0 then (n + 128 ^ k * R.1, k + R.2.1, 0) else (0, 0, R.2.2)

theorem tk_nil (k : Nat) : tk k [] = (0, 0, 5) := rfl
theorem tk_bad {k : Nat} {c : UInt8} (r : List UInt8) (h : k = 9 ∧ 1 < c.toNat ∨ 0 < k ∧ c.toNat = 0) : tk k (c :: r) = (0, 0, 4) := by rw [tk, if_pos h]
theorem tk_end {k : Nat} {c : UInt8} (r : List UInt8) (h : ¬ (k = 9 ∧ 1 < c.toNat ∨ 0 < k ∧ c.toNat = 0)) (hc : c.toNat < 128) : tk k (c :: r) = (c.toNat, 1, 0) := by rw [tk, if_neg h, if_pos hc]
theorem tk_on {k : Nat} {c : UInt8} (r : List UInt8) (h : ¬ (k = 9 ∧ 1 < c.toNat ∨ 0 < k ∧ c.toNat = 0)) (hc : ¬ c.toNat < 128) :
    tk k (c :: r) = if (tk (k + 1) r).2.2 = 0 then (c.toNat % 128 + 128 * (tk (k + 1) r).1, (tk (k + 1) r).2.1 + 1, 0) else (0, 0, (tk (k + 1) r).2.2) := by rw [tk, if_neg h, if_neg hc]

theorem tk_err : ∀ (l : List UInt8) (k : Nat), (tk k l).2.2 ≠ 0 → tk k l = (0, 0, (tk k l).2.2) := by
  intro l
  cases l with
  | nil => intro k _; rfl
  | cons c r =>
    intro k h
    by_cases hb : k = 9 ∧ 1 < c.toNat ∨ 0 < k ∧ c.toNat = 0
    · rw [tk_bad r hb]
    · by_cases hc : c.toNat < 128
      · rw [tk_end r hb hc] at h; exact absurd rfl h
      · rw [tk_on r hb hc] at h ⊢
        by_cases he : (tk (k + 1) r).2.2 = 0
        · rw [if_pos he] at h; exact absurd rfl h
        · rw [if_neg he]

theorem comb_zero (l : List UInt8) : comb 0 0 (tk 0 l) = tk 0 l := by
  unfold comb
  by_cases he : (tk 0 l).2.2 = 0
  · rw [if_pos he, Nat.zero_add, Nat.zero_add, Nat.pow_zero, Nat.one_mul]
    exact Prod.ext rfl (Prod.ext rfl he.symm)
  · rw [if_neg he, ← tk_err l 0 he]

theorem comb_on {n k : Nat} {c : UInt8} (r : List UInt8) (h : ¬ (k = 9 ∧ 1 < c.toNat ∨ 0 < k ∧ c.toNat = 0)) (hc : ¬ c.toNat < 128) :
    comb n k (tk k (c :: r)) = comb (n + 128 ^ k * (c.toNat % 128)) (k + 1) (tk (k + 1) r) := by
  rw [tk_on r h hc]
  unfold comb
  by_cases he : (tk (k + 1) r).2.2 = 0
  · rw [if_pos he, if_pos rfl, if_pos he]
    have e : 128 ^ k * (c.toNat % 128 + 128 * (tk (k + 1) r).1) = 128 ^ k * (c.toNat % 128) + 128 ^ (k + 1) * (tk (k + 1) r).1 := by
      rw [Nat.mul_add, Nat.pow_succ, Nat.mul_assoc]
    simp only [e, Prod.mk.injEq, and_true]
    omega
  · rw [if_neg he, if_neg he, if_neg he]
theorem comb_end {n k : Nat} {c : UInt8} (r : List UInt8) (h : ¬ (k = 9 ∧ 1 < c.toNat ∨ 0 < k ∧ c.toNat = 0)) (hc : c.toNat < 128) :
    comb n k (tk k (c :: r)) = (n + 128 ^ k * (c.toNat % 128), k + 1, 0) := by
  rw [tk_end r h hc, Nat.mod_eq_of_lt hc]; rfl
theorem comb_bad {n k : Nat} {c : UInt8} (r : List UInt8) (h : k = 9 ∧ 1 < c.toNat ∨ 0 < k ∧ c.toNat = 0) : comb n k (tk k (c :: r)) = (0, 0, 4) := by
  rw [tk_bad r h]; rfl
theorem comb_nil (n k : Nat) : comb n k (tk k []) = (0, 0, 5) := rfl

/-- How great what is read is. -/
theorem tk_bound : ∀ (l : List UInt8) (k : Nat), k ≤ 9 → (tk k l).1 < 2 * 128 ^ (9 - k) ∧ (tk k l).2.1 ≤ 10 - k ∧ (tk k l).2.1 ≤ l.length ∧ (tk k l).2.2 ≤ 5 := by
  intro l
  induction l with
  | nil => intro k _; rw [tk_nil]; exact ⟨Nat.mul_pos (by omega) (Nat.pow_pos (by omega)), by simp, by simp, by simp⟩
  | cons c r ih =>
    intro k hk
    have hp : 0 < 128 ^ (9 - k) := Nat.pow_pos (by omega)
    by_cases hb : k = 9 ∧ 1 < c.toNat ∨ 0 < k ∧ c.toNat = 0
    · rw [tk_bad r hb]; exact ⟨by simp; omega, by simp, by simp, by simp⟩
    · by_cases hc : c.toNat < 128
      · rw [tk_end r hb hc]
        refine ⟨?_, by simp; omega, by simp, by simp⟩
        by_cases h9 : k = 9
        · subst h9; simp; omega
        · have : 128 ^ 1 ≤ 128 ^ (9 - k) := Nat.pow_le_pow_right (by omega) (by omega)
          simp; omega
      · have h9 : k ≠ 9 := by omega
        have hi := ih (k + 1) (by omega)
        have hpw : 128 ^ (9 - k) = 128 ^ (9 - (k + 1)) * 128 := by rw [← Nat.pow_succ]; congr 1; omega
        rw [tk_on r hb hc]
        by_cases he : (tk (k + 1) r).2.2 = 0
        · rw [if_pos he]
          refine ⟨?_, by simp; omega, by simp; omega, by simp⟩
          simp only [hpw]
          have := Nat.mod_lt c.toNat (show 128 > 0 by omega)
          omega
        · rw [if_neg he]; exact ⟨by simp; omega, by simp, by simp, by simp; omega⟩

theorem tk_some : ∀ (l : List UInt8) (k : Nat), (tk k l).2.2 = 0 → 0 < (tk k l).2.1 ∧ (0 < k → 0 < (tk k l).1) := by
  intro l
  induction l with
  | nil => intro k h; simp [tk_nil] at h
  | cons c r ih =>
    intro k h
    by_cases hb : k = 9 ∧ 1 < c.toNat ∨ 0 < k ∧ c.toNat = 0
    · rw [tk_bad r hb] at h; simp at h
    · by_cases hc : c.toNat < 128
      · rw [tk_end r hb hc]; exact ⟨by simp, fun h0 => by simp; omega⟩
      · rw [tk_on r hb hc] at h ⊢
        by_cases he : (tk (k + 1) r).2.2 = 0
        · rw [if_pos he]
          have := (ih (k + 1) he).2 (by omega)
          exact ⟨by simp, fun _ => by simp; omega⟩
        · rw [if_neg he] at h; exact absurd h he

theorem byte_more (n : Nat) : (UInt8.ofNat (n % 128 + 128)).toNat = n % 128 + 128 := by
  have : n % 128 + 128 < 256 := by omega
  simp
  omega
theorem byte_last {n : Nat} (h : n < 128) : (UInt8.ofNat n).toNat = n := by
  simp
  omega

/-- WHAT IS APPENDED IS READ, whatever follows. -/
theorem tk_put : ∀ (k n : Nat) (l : List UInt8), k ≤ 9 → n < 2 * 128 ^ (9 - k) → (0 < k → 0 < n) → tk k (put n ++ l) = (n, (put n).length, 0) := by
  intro k n
  induction n using Nat.strongRecOn generalizing k with
  | ind n ih =>
    intro l hk hn h0
    by_cases h : n < 128
    · rw [put_lt h]
      have hb : ¬ (k = 9 ∧ 1 < (UInt8.ofNat n).toNat ∨ 0 < k ∧ (UInt8.ofNat n).toNat = 0) := by
        rw [byte_last h]
        rintro (⟨rfl, h1⟩ | ⟨h1, h2⟩)
        · simp at hn; omega
        · have := h0 h1; omega
      show tk k (UInt8.ofNat n :: ([] ++ l)) = _
      rw [tk_end _ hb (by rw [byte_last h]; exact h), byte_last h]
      rfl
    · have h9 : k ≠ 9 := by
        rintro rfl
        simp at hn; omega
      have hpw : 128 ^ (9 - k) = 128 ^ (9 - (k + 1)) * 128 := by rw [← Nat.pow_succ]; congr 1; omega
      have hi := ih (n / 128) (by omega) (k + 1) l (by omega) (by rw [hpw] at hn; omega) (fun _ => by omega)
      have hm := byte_more n
      rw [put_ge h]
      have hb : ¬ (k = 9 ∧ 1 < (UInt8.ofNat (n % 128 + 128)).toNat ∨ 0 < k ∧ (UInt8.ofNat (n % 128 + 128)).toNat = 0) := by rw [hm]; omega
      show tk k (UInt8.ofNat (n % 128 + 128) :: (put (n / 128) ++ l)) = _
      rw [tk_on _ hb (by rw [hm]; omega), hi, hm]
      simp only [if_true, List.length_cons, Prod.mk.injEq, and_true]
      omega

theorem ofNat_toNat' (c : UInt8) : UInt8.ofNat c.toNat = c := by simp
/-- WHAT IS READ HAS THE BYTES THAT ARE APPENDED FOR IT. -/
theorem put_tk : ∀ (l : List UInt8) (k : Nat), (tk k l).2.2 = 0 → put (tk k l).1 = l.take (tk k l).2.1 := by
  intro l
  induction l with
  | nil => intro k h; simp [tk_nil] at h
  | cons c r ih =>
    intro k h
    by_cases hb : k = 9 ∧ 1 < c.toNat ∨ 0 < k ∧ c.toNat = 0
    · rw [tk_bad r hb] at h; simp at h
    · by_cases hc : c.toNat < 128
      · rw [tk_end r hb hc]
        show put c.toNat = (c :: r).take 1
        rw [put_lt hc, ofNat_toNat']; rfl
      · rw [tk_on r hb hc] at h ⊢
        by_cases he : (tk (k + 1) r).2.2 = 0
        · rw [if_pos he]
          have hv := (tk_some r (k + 1) he).2 (by omega)
          have hlt := c.toNat_lt
          have e1 : (c.toNat % 128 + 128 * (tk (k + 1) r).1) % 128 + 128 = c.toNat := by omega
          have e2 : (c.toNat % 128 + 128 * (tk (k + 1) r).1) / 128 = (tk (k + 1) r).1 := by omega
          show put (c.toNat % 128 + 128 * (tk (k + 1) r).1) = (c :: r).take ((tk (k + 1) r).2.1 + 1)
          rw [put_ge (by omega), e1, e2, ih (k + 1) he, ofNat_toNat', List.take_succ_cons]
        · rw [if_neg he] at h; exact absurd h he

/-! The integers. -/
def zg (n : Int) : Nat := if 0 ≤ n then (2 * n).toNat else (-2 * n - 1).toNat
def zz (u : Nat) : Int := if u % 2 = 0 then ((u / 2 : Nat) : Int) else -((u / 2 : Nat) : Int) - 1
theorem zg_lt {n : Int} (h0 : -9223372036854775808 ≤ n) (h1 : n ≤ 9223372036854775807) : zg n < 18446744073709551616 := by unfold zg; split <;> omega
theorem zz_zg (n : Int) : zz (zg n) = n := by
  unfold zz zg
  split <;> split <;> omega

/-! What TakeUint answers: the number, the index, the error. -/
def tu (l : List UInt8) (at_ : Int) : Nat × Nat × Nat :=
  if at_ < 0 ∨ (l.length : Int) < at_ then (0, 0, 1) else if (tk 0 (l.drop at_.toNat)).2.2 = 0 then ((tk 0 (l.drop at_.toNat)).1, at_.toNat + (tk 0 (l.drop at_.toNat)).2.1, 0) else (0, 0, (tk 0 (l.drop at_.toNat)).2.2)
def tuV (l : List UInt8) (at_ : Int) : Nat := (tu l at_).1
def tuN (l : List UInt8) (at_ : Int) : Nat := (tu l at_).2.1
def tuE (l : List UInt8) (at_ : Int) : Nat := (tu l at_).2.2

theorem tu_out {l : List UInt8} {at_ : Int} (h : at_ < 0 ∨ (l.length : Int) < at_) : tu l at_ = (0, 0, 1) := by unfold tu; rw [if_pos h]
theorem tu_in {l : List UInt8} {at_ : Nat} (h : at_ ≤ l.length) :
    tu l (at_ : Int) = if (tk 0 (l.drop at_)).2.2 = 0 then ((tk 0 (l.drop at_)).1, at_ + (tk 0 (l.drop at_)).2.1, 0) else (0, 0, (tk 0 (l.drop at_)).2.2) := by
  unfold tu; rw [if_neg (by omega)]; rfl
theorem tu_bounds (l : List UInt8) (at_ : Int) : tuV l at_ < 18446744073709551616 ∧ tuN l at_ ≤ l.length ∧ tuE l at_ ≤ 5 := by
  unfold tuV tuN tuE
  by_cases h : at_ < 0 ∨ (l.length : Int) < at_
  · rw [tu_out h]; simp
  · obtain ⟨a, rfl⟩ : ∃ a : Nat, at_ = a := ⟨at_.toNat, by omega⟩
    have ha : a ≤ l.length := by omega
    rw [tu_in ha]
    have hb := tk_bound (l.drop a) 0 (by omega)
    rw [List.length_drop] at hb
    by_cases he : (tk 0 (l.drop a)).2.2 = 0
    · rw [if_pos he]; exact ⟨by have := hb.1; simp at this ⊢; omega, by simp; omega, by simp⟩
    · rw [if_neg he]; exact ⟨by simp, by simp, hb.2.2.2⟩
theorem tu_err {l : List UInt8} {at_ : Int} (h : tuE l at_ ≠ 0) : tuV l at_ = 0 ∧ tuN l at_ = 0 := by
  unfold tuV tuN
  unfold tuE at h
  by_cases h' : at_ < 0 ∨ (l.length : Int) < at_
  · rw [tu_out h']; simp
  · obtain ⟨a, rfl⟩ : ∃ a : Nat, at_ = a := ⟨at_.toNat, by omega⟩
    rw [tu_in (by omega)] at h ⊢
    by_cases he : (tk 0 (l.drop a)).2.2 = 0
    · rw [if_pos he] at h; exact absurd rfl h
    · rw [if_neg he]; simp
/-- What is read lies in the bytes, and has the bytes that are appended for it. -/
theorem tu_ok {l : List UInt8} {at_ : Int} (h : tuE l at_ = 0) : ∃ a : Nat, at_ = a ∧ a < tuN l at_ ∧ tuN l at_ ≤ l.length ∧ tuN l at_ ≤ a + 10 ∧ put (tuV l at_) = (l.drop a).take (tuN l at_ - a) := by
  unfold tuV tuN
  unfold tuE at h
  by_cases h' : at_ < 0 ∨ (l.length : Int) < at_
  · rw [tu_out h'] at h; simp at h
  · obtain ⟨a, rfl⟩ : ∃ a : Nat, at_ = a := ⟨at_.toNat, by omega⟩
    refine ⟨a, rfl, ?_⟩
    have ha : a ≤ l.length := by omega
    rw [tu_in ha] at h ⊢
    by_cases he : (tk 0 (l.drop a)).2.2 = 0
    · rw [if_pos he]
      have hb := tk_bound (l.drop a) 0 (by omega)
      rw [List.length_drop] at hb
      have hs := tk_some (l.drop a) 0 he
      refine ⟨by simp; omega, by simp; omega, by simp; omega, ?_⟩
      show put (tk 0 (l.drop a)).1 = _
      rw [put_tk _ _ he]
      show _ = List.take (a + (tk 0 (l.drop a)).2.1 - a) _
      rw [Nat.add_sub_cancel_left]
    · rw [if_neg he] at h; exact absurd h he
/-- What was appended is read. -/
theorem tu_put (l r : List UInt8) (n : Nat) (hn : n < 18446744073709551616) : tu (l ++ put n ++ r) (l.length : Nat) = (n, l.length + (put n).length, 0) := by
  rw [tu_in (by simp)]
  have e : (l ++ put n ++ r).drop l.length = put n ++ r := by rw [List.append_assoc, List.drop_left]
  rw [e, tk_put 0 n r (by omega) (by simp; omega) (by omega)]
  simp

/-! What TakeCount answers. -/
def tcE (l : List UInt8) (at_ most : Int) : Nat := if tuE l at_ ≠ 0 then tuE l at_ else if most < 0 ∨ most < tuV l at_ then 6 else if l.length - tuN l at_ < tuV l at_ then 5 else 0
def tcV (l : List UInt8) (at_ most : Int) : Nat := if tcE l at_ most = 0 then tuV l at_ else 0
def tcN (l : List UInt8) (at_ most : Int) : Nat := if tcE l at_ most = 0 then tuN l at_ else 0
theorem tc_bounds (l : List UInt8) (at_ most : Int) : tcN l at_ most + tcV l at_ most ≤ l.length ∧ tcE l at_ most ≤ 6 := by
  have := tu_bounds l at_
  unfold tcN tcV tcE
  by_cases h1 : tuE l at_ = 0
  · by_cases h2 : most < 0 ∨ most < tuV l at_
    · simp [h1, h2]
    · by_cases h3 : l.length - tuN l at_ < tuV l at_
      · simp [h1, h2, h3]
      · simp [h1, h2, h3]; omega
  · simp [h1]; omega
/-- The text that is read. -/
def ttS (l : List UInt8) (at_ most : Int) : List UInt8 := (l.drop (tcN l at_ most)).take (tcV l at_ most)

/-! The groups, put together. -/
theorem pow_128 (k : Nat) : 128 ^ k = 2 ^ (7 * k) := by rw [show (128 : Nat) = 2 ^ 7 from rfl, ← Nat.pow_mul]
theorem group_lt {k c : Nat} (hk : k ≤ 9) (h9 : k = 9 → c ≤ 1) : 128 ^ k * (c % 128) < 18446744073709551616 := by
  have hm := Nat.mod_lt c (show 128 > 0 by omega)
  by_cases h : k = 9
  · subst h
    have := h9 rfl
    have : c % 128 ≤ 1 := by omega
    have := Nat.mul_le_mul_left (128 ^ 9) this
    omega
  · have h1 : 128 ^ k ≤ 128 ^ 8 := Nat.pow_le_pow_right (by omega) (by omega)
    have := Nat.mul_le_mul h1 (show c % 128 ≤ 127 by omega)
    omega
theorem or_group {n k c : Nat} (hk : k ≤ 9) (hn : n < 128 ^ k) (h9 : k = 9 → c ≤ 1) (y : Int) (hy : y = ((128 ^ k * (c % 128) : Nat) : Int)) : bits .or .u64 (n : Int) y = ((n + 128 ^ k * (c % 128) : Nat) : Int) := by
  have hg := group_lt hk h9
  have h1 : 128 ^ k ≤ 128 ^ 9 := Nat.pow_le_pow_right (by omega) hk
  subst hy
  rw [bits_or_u64_nat n _ (by omega) hg]
  rw [pow_128] at hn ⊢
  rw [Nat.or_comm, ← Nat.two_pow_add_eq_or_of_lt hn, Nat.add_comm]
theorem wrap_group {k c : Nat} (hk : k ≤ 9) (h9 : k = 9 → c ≤ 1) : IntKind.u64.wrap ((c : Int) % 128 * 2 ^ (7 * k)) = ((128 ^ k * (c % 128) : Nat) : Int) := by
  have hg := group_lt hk h9
  have e : (c : Int) % 128 * 2 ^ (7 * k) = ((128 ^ k * (c % 128) : Nat) : Int) := by
    rw [pow_128, Int.natCast_mul, Int.natCast_pow, Int.natCast_emod, Int.mul_comm]
    rfl
  rw [e, IntKind.wrap_u64]
  omega
theorem next_lt {n k c : Nat} (hn : n < 128 ^ k) : n + 128 ^ k * (c % 128) < 128 ^ (k + 1) := by
  have hm := Nat.mod_lt c (show 128 > 0 by omega)
  have := Nat.mul_le_mul_left (128 ^ k) (show c % 128 ≤ 127 by omega)
  rw [Nat.pow_succ]
  omega

theorem sum_group {n k c : Nat} {W : Int} (hW : ((128 ^ k : Nat) : Int) = W) (hk : k ≤ 9) (hn : n < 128 ^ k) (h9 : k = 9 → c ≤ 1) : IntKind.u64.wrap ((n : Int) + IntKind.u64.wrap ((c : Int) % 128 * W)) = ((n + 128 ^ k * (c % 128) : Nat) : Int) := by
  have hg := group_lt hk h9
  have hs : n + 128 ^ k * (c % 128) < 18446744073709551616 := by
    by_cases h : k = 9
    · subst h
      have := h9 rfl
      have : c % 128 ≤ 1 := by omega
      have := Nat.mul_le_mul_left (128 ^ 9) this
      omega
    · have h1 := next_lt (c := c) hn
      have h2 : 128 ^ (k + 1) ≤ 128 ^ 9 := Nat.pow_le_pow_right (by omega) (by omega)
      omega
  have e : (c : Int) % 128 * W = ((128 ^ k * (c % 128) : Nat) : Int) := by
    rw [← hW, Int.natCast_mul, Int.natCast_emod, Int.mul_comm]
    rfl
  rw [e, IntKind.wrap_u64, IntKind.wrap_u64]
  omega
theorem next_weight {k : Nat} {W : Int} (hW : ((128 ^ k : Nat) : Int) = W) (hk : k ≤ 8) : IntKind.u64.wrap (W * 128) = ((128 ^ (k + 1) : Nat) : Int) := by
  have h2 : 128 ^ (k + 1) ≤ 128 ^ 9 := Nat.pow_le_pow_right (by omega) (by omega)
  rw [← hW, IntKind.wrap_u64]
  rw [Nat.pow_succ] at h2 ⊢
  omega

end Sb
end Go.Proofs.YtillcmddbjhepaaGreatDoor
