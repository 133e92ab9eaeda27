/-
  Decimal numbers up to 2^53, with a sign: the mathematics of layer 7, without the program.
-/
import Derived.Test.YtiimdkamgehioaaDoorE1
import Derived.Lib.ItoaNum
import Derived.Lib.ItoaMem
namespace Go.Proofs.YtiimdkamgehioaaDoor
open Go

/-- Is a byte a digit? -/
def i7 (c : UInt8) : Bool := decide (48 ≤ c.toNat ∧ c.toNat ≤ 57)
/-- Is a string a decimal number without a leading zero? -/
def dc7 (l : List UInt8) : Bool := !l.isEmpty && !(decide (1 < l.length) && l.head? == some 48) && l.all i7
/-- A decimal number's value; all above 2^53 are 2^53 + 1. -/
def nv7 (l : List UInt8) : Nat := l.foldl (fun n c => min (10 * n + (c.toNat - 48)) 9007199254740993) 0

theorem nv7_nil : nv7 [] = 0 := rfl
theorem nv7_snoc (l : List UInt8) (c : UInt8) : nv7 (l ++ [c]) = min (10 * nv7 l + (c.toNat - 48)) 9007199254740993 := by unfold nv7; rw [List.foldl_append]; rfl
theorem nv7_le (l : List UInt8) : nv7 l ≤ 9007199254740993 := by
  rcases List.eq_nil_or_concat l with rfl | ⟨m, c, rfl⟩
  · simp [nv7]
  · rw [List.concat_eq_append, nv7_snoc]; omega
theorem dc7_digs {l : List UInt8} (h : dc7 l = true) : l.all i7 = true := by
  unfold dc7 at h; simp only [Bool.and_eq_true] at h; exact h.2
theorem i7_of {c : UInt8} (h1 : 48 ≤ c.toNat) (h2 : c.toNat ≤ 57) : i7 c = true := decide_eq_true ⟨h1, h2⟩
theorem nv7_zero0 {l : List UInt8} (hd : dc7 l = true) : nv7 l = 0 ↔ l = [48] := by
  constructor
  · intro h
    cases l with
    | nil => cases hd
    | cons c t =>
      have hdig := dc7_digs hd
      have hc : i7 c = true := by simp only [List.all_cons, Bool.and_eq_true] at hdig; exact hdig.1
      have hc' := of_decide_eq_true hc
      have hmono : ∀ (t : List UInt8) (n : Nat), 0 < n → 0 < t.foldl (fun n c => min (10 * n + (c.toNat - 48)) 9007199254740993) n := by
        intro t
        induction t with
        | nil => intro n h; exact h
        | cons x t ih =>
          intro n h
          have hx : 0 < min (10 * n + (x.toNat - 48)) 9007199254740993 := by omega
          exact ih _ hx
      have h48 : c.toNat = 48 := by
        by_cases e : c.toNat = 48
        · exact e
        · exfalso
          have h2 : nv7 (c :: t) = t.foldl (fun n c => min (10 * n + (c.toNat - 48)) 9007199254740993) (min (10 * 0 + (c.toNat - 48)) 9007199254740993) := rfl
          have := hmono t (min (10 * 0 + (c.toNat - 48)) 9007199254740993) (by omega)
          omega
      have ec : c = 48 := UInt8.toNat_inj.1 h48
      subst ec
      cases t with
      | nil => rfl
      | cons x t =>
        exfalso
        unfold dc7 at hd
        simp at hd
  · rintro rfl; rfl

/-! Decimal digits. -/
theorem i7_nat (k : Nat) (h : k < 10) : (UInt8.ofNat (48 + k)).toNat = 48 + k := by
  rw [UInt8.toNat_ofNat']; omega
theorem d7_dig (k : Nat) : (Lib.decDigits k).all i7 = true := by
  induction k using Nat.strongRecOn with
  | ind k ih =>
    rw [Lib.decDigits]
    by_cases h : k < 10
    · rw [dif_pos h]
      simp only [List.all_cons, List.all_nil, Bool.and_true]
      exact i7_of (by rw [i7_nat k h]; omega) (by rw [i7_nat k h]; omega)
    · rw [dif_neg h, List.all_append, ih (k / 10) (by omega)]
      simp only [List.all_cons, List.all_nil, Bool.and_true, Bool.true_and]
      exact i7_of (by rw [i7_nat _ (by omega)]; omega) (by rw [i7_nat _ (by omega)]; omega)
theorem d7_num (k : Nat) : nv7 (Lib.decDigits k) = min k 9007199254740993 := by
  induction k using Nat.strongRecOn with
  | ind k ih =>
    rw [Lib.decDigits]
    by_cases h : k < 10
    · rw [dif_pos h]
      show min (10 * 0 + ((UInt8.ofNat (48 + k)).toNat - 48)) 9007199254740993 = _
      rw [i7_nat k h]; omega
    · rw [dif_neg h, nv7_snoc, ih (k / 10) (by omega), i7_nat _ (by omega)]; omega
theorem d7_ne (k : Nat) : Lib.decDigits k ≠ [] := by
  rw [Lib.decDigits]; split <;> simp
theorem d7_head (k : Nat) (h : 0 < k) : (Lib.decDigits k).head? ≠ some 48 := by
  induction k using Nat.strongRecOn with
  | ind k ih =>
    rw [Lib.decDigits]
    by_cases hk : k < 10
    · rw [dif_pos hk]
      intro e
      simp only [List.head?_cons, Option.some.injEq] at e
      have := congrArg UInt8.toNat e
      rw [i7_nat k hk] at this
      have h48 : (48 : UInt8).toNat = 48 := rfl
      omega
    · rw [dif_neg hk, List.head?_append]
      have h1 := ih (k / 10) (by omega) (by omega)
      cases hh : (Lib.decDigits (k / 10)).head? with
      | none => exact absurd (List.head?_eq_none_iff.1 hh) (d7_ne _)
      | some c => rw [hh] at h1; exact h1
theorem d7_dec (k : Nat) : dc7 (Lib.decDigits k) = true := by
  unfold dc7
  rw [d7_dig]
  have h1 : (Lib.decDigits k).isEmpty = false := by rw [List.isEmpty_eq_false_iff]; exact d7_ne k
  have h2 : (decide (1 < (Lib.decDigits k).length) && (Lib.decDigits k).head? == some 48) = false := by
    by_cases hk : k < 10
    · have : (Lib.decDigits k).length = 1 := by rw [Lib.decDigits, dif_pos hk]; rfl
      rw [this]; rfl
    · have : ((Lib.decDigits k).head? == some 48) = false := by rw [beq_eq_false_iff_ne]; exact d7_head k (by omega)
      rw [this, Bool.and_false]
  rw [h1, h2]; rfl
/-- A decimal number is its value's digits. -/
theorem d7_back (l : List UInt8) : dc7 l = true → nv7 l ≤ 9007199254740992 → Lib.decDigits (nv7 l) = l := by
  induction hlen : l.length using Nat.strongRecOn generalizing l with
  | ind n ih =>
    intro hd hn
    rcases List.eq_nil_or_concat l with rfl | ⟨m, c, rfl⟩
    · cases hd
    rw [List.concat_eq_append] at hd hn hlen ⊢
    have hall := dc7_digs hd
    rw [List.all_append] at hall
    simp only [Bool.and_eq_true, List.all_cons, List.all_nil, Bool.and_true] at hall
    obtain ⟨hm, hc⟩ := hall
    have hc' := of_decide_eq_true hc
    rw [nv7_snoc] at hn
    have hv : nv7 (m ++ [c]) = 10 * nv7 m + (c.toNat - 48) := by rw [nv7_snoc]; omega
    rw [hv]
    have ec : UInt8.ofNat (48 + (c.toNat - 48)) = c := by
      apply UInt8.toNat_inj.1
      rw [i7_nat _ (by omega)]; omega
    by_cases hmn : m = []
    · subst hmn
      have : nv7 [] = 0 := rfl
      rw [this, Lib.decDigits, dif_pos (by omega)]
      simp only [Nat.mul_zero, Nat.zero_add, List.nil_append]
      rw [ec]
    · have hl : 1 < (m ++ [c]).length := by
        have := List.length_pos_iff.2 hmn
        simp; omega
      have hh : m.head? ≠ some 48 := by
        unfold dc7 at hd
        rw [decide_eq_true hl] at hd
        have e : (m ++ [c]).head? = m.head? := by
          rw [List.head?_append]
          cases hx : m.head? with
          | none => exact absurd (List.head?_eq_none_iff.1 hx) hmn
          | some _ => rfl
        rw [e] at hd
        intro e2
        rw [e2] at hd
        simp at hd
      have hdm : dc7 m = true := by
        unfold dc7
        have h1 : m.isEmpty = false := by rw [List.isEmpty_eq_false_iff]; exact hmn
        have h2 : (m.head? == some 48) = false := by rw [beq_eq_false_iff_ne]; exact hh
        rw [h1, h2, hm, Bool.and_false]; rfl
      have hpos : nv7 m ≠ 0 := fun e => hh (by rw [(nv7_zero0 hdm).1 e]; rfl)
      have hi := ih m.length (by rw [← hlen]; simp) m rfl hdm (by omega)
      rw [Lib.decDigits, dif_neg (by omega), show (10 * nv7 m + (c.toNat - 48)) / 10 = nv7 m by omega, show (10 * nv7 m + (c.toNat - 48)) % 10 = c.toNat - 48 by omega, hi, ec]


/-- A decimal number with a sign: its value (all beyond 2^53 are 2^53 + 1, with the sign). -/
def n7 (l : List UInt8) : Option Int :=
  if l.head? = some 45 then (if dc7 (l.drop 1) = true ∧ l.drop 1 ≠ [48] then some (-(nv7 (l.drop 1) : Int)) else none)
  else if dc7 l = true then some (nv7 l : Int) else none
theorem n7_itoa (v : Int) (h1 : -9007199254740992 ≤ v) (h2 : v ≤ 9007199254740992) : n7 (Lib.itoa v) = some v := by
  unfold n7
  rcases Int.lt_or_le v 0 with h | h
  · obtain ⟨k, rfl⟩ : ∃ k : Nat, v = -(k : Int) := ⟨(-v).toNat, by omega⟩
    rw [Lib.itoa_neg k (by omega)]
    rw [if_pos (by rfl), show (45 :: Lib.decDigits k).drop 1 = Lib.decDigits k from rfl]
    have hn : Lib.decDigits k ≠ [48] := fun e => d7_head k (by omega) (by rw [e]; rfl)
    rw [if_pos ⟨d7_dec k, hn⟩, d7_num, Nat.min_eq_left (by omega)]
  · obtain ⟨k, rfl⟩ : ∃ k : Nat, v = (k : Int) := ⟨v.toNat, by omega⟩
    rw [Lib.itoa_nonneg]
    have hh : (Lib.decDigits k).head? ≠ some 45 := by
      intro e
      have hd := d7_dig k
      cases hl : Lib.decDigits k with
      | nil => rw [hl] at e; cases e
      | cons c r =>
        rw [hl] at e hd
        simp only [List.head?_cons, Option.some.injEq] at e
        subst e
        simp only [List.all_cons, Bool.and_eq_true] at hd
        exact absurd hd.1 (by decide)
    rw [if_neg hh, if_pos (d7_dec k), d7_num, Nat.min_eq_left (by omega)]
theorem n7_back (l : List UInt8) (v : Int) (h : n7 l = some v) (h1 : -9007199254740992 ≤ v) (h2 : v ≤ 9007199254740992) : Lib.itoa v = l := by
  unfold n7 at h
  split at h
  · rename_i hm
    split at h
    · rename_i hc
      obtain ⟨hd, hz⟩ := hc
      simp only [Option.some.injEq] at h
      subst h
      have h0 : nv7 (l.drop 1) ≠ 0 := fun e => hz ((nv7_zero0 hd).1 e)
      rw [Lib.itoa_neg _ (by omega), d7_back _ hd (by omega)]
      cases l with
      | nil => cases hm
      | cons c r => simp only [List.head?_cons, Option.some.injEq] at hm; subst hm; rfl
    · cases h
  · split at h
    · rename_i hd
      simp only [Option.some.injEq] at h
      subst h
      rw [Lib.itoa_nonneg, d7_back _ hd (by omega)]
    · cases h
/-- A decimal number holds no blank. -/
theorem itoa_blank (v : Int) : ∀ c ∈ Lib.itoa v, c ≠ 32 := by
  have key : ∀ k, ∀ c ∈ Lib.decDigits k, c ≠ 32 := fun k c hc e => by
    subst e
    exact absurd (List.all_eq_true.1 (d7_dig k) _ hc) (by decide)
  rcases Int.lt_or_le v 0 with h | h
  · obtain ⟨k, rfl⟩ : ∃ k : Nat, v = -(k : Int) := ⟨(-v).toNat, by omega⟩
    rw [Lib.itoa_neg k (by omega)]
    intro c hc
    rcases List.mem_cons.1 hc with rfl | hc
    · decide
    · exact key k c hc
  · obtain ⟨k, rfl⟩ : ∃ k : Nat, v = (k : Int) := ⟨v.toNat, by omega⟩
    rw [Lib.itoa_nonneg]
    exact key k

end Go.Proofs.YtiimdkamgehioaaDoor
