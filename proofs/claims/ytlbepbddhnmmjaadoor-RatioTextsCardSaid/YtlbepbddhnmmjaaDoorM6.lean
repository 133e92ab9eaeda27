/-
  Plain facts for stage 1: the string form of a ratio, and what is parsed, undo one another.
-/
import Derived.Test.YtlbepbddhnmmjaaDoorM3
import Derived.Lib.ItoaNum
namespace Go.Proofs.YtlbepbddhnmmjaaDoor

theorem numV_zero0 {l : List UInt8} (hd : decB l = true) : numV l = 0 ↔ l = [48] := by
  constructor
  · intro h
    cases l with
    | nil => cases hd
    | cons c t =>
      have hdig := dec_digs hd
      have hc : isDig c = true := by simp only [List.all_cons, Bool.and_eq_true] at hdig; exact hdig.1
      have hc' := of_decide_eq_true hc
      have hmono : ∀ (t : List UInt8) (n : Nat), 0 < n → 0 < t.foldl (fun n c => min (10 * n + (c.toNat - 48)) 1073741825) n := by
        intro t
        induction t with
        | nil => intro n h; exact h
        | cons x t ih =>
          intro n h
          have hx : 0 < min (10 * n + (x.toNat - 48)) 1073741825 := by omega
          exact ih _ hx
      have h48 : c.toNat = 48 := by
        by_cases e : c.toNat = 48
        · exact e
        · exfalso
          have h2 : numV (c :: t) = t.foldl (fun n c => min (10 * n + (c.toNat - 48)) 1073741825) (min (10 * 0 + (c.toNat - 48)) 1073741825) := rfl
          have := hmono t (min (10 * 0 + (c.toNat - 48)) 1073741825) (by omega)
          omega
      have ec : c = 48 := UInt8.toNat_inj.1 h48
      subst ec
      cases t with
      | nil => rfl
      | cons x t =>
        exfalso
        unfold decB at hd
        simp at hd
  · rintro rfl; rfl

/-! Decimal digits. -/
theorem digit_toNat (k : Nat) (h : k < 10) : (UInt8.ofNat (48 + k)).toNat = 48 + k := by
  rw [UInt8.toNat_ofNat']; omega
theorem dd_dig (k : Nat) : (Lib.decDigits k).all isDig = true := by
  induction k using Nat.strongRecOn with
  | ind k ih =>
    rw [Lib.decDigits]
    by_cases h : k < 10
    · rw [dif_pos h]
      simp only [List.all_cons, List.all_nil, Bool.and_true]
      exact isDig_of (by rw [digit_toNat k h]; omega) (by rw [digit_toNat k h]; omega)
    · rw [dif_neg h, List.all_append, ih (k / 10) (by omega)]
      simp only [List.all_cons, List.all_nil, Bool.and_true, Bool.true_and]
      exact isDig_of (by rw [digit_toNat _ (by omega)]; omega) (by rw [digit_toNat _ (by omega)]; omega)
theorem dd_num (k : Nat) : numV (Lib.decDigits k) = min k 1073741825 := by
  induction k using Nat.strongRecOn with
  | ind k ih =>
    rw [Lib.decDigits]
    by_cases h : k < 10
    · rw [dif_pos h]
      show min (10 * 0 + ((UInt8.ofNat (48 + k)).toNat - 48)) 1073741825 = _
      rw [digit_toNat k h]; omega
    · rw [dif_neg h, numV_snoc, ih (k / 10) (by omega), digit_toNat _ (by omega)]; omega
theorem dd_ne (k : Nat) : Lib.decDigits k ≠ [] := by
  rw [Lib.decDigits]; split <;> simp
theorem dd_head (k : Nat) (h : 0 < k) : (Lib.decDigits k).head? ≠ some 48 := by
  induction k using Nat.strongRecOn with
  | ind k ih =>
    rw [Lib.decDigits]
    by_cases hk : k < 10
    · rw [dif_pos hk]
      intro e
      simp only [List.head?_cons, Option.some.injEq] at e
      have := congrArg UInt8.toNat e
      rw [digit_toNat k hk] at this
      have h48 : (48 : UInt8).toNat = 48 := rfl
      omega
    · rw [dif_neg hk, List.head?_append]
      have h1 := ih (k / 10) (by omega) (by omega)
      cases hh : (Lib.decDigits (k / 10)).head? with
      | none => exact absurd (List.head?_eq_none_iff.1 hh) (dd_ne _)
      | some c => rw [hh] at h1; exact h1
theorem dd_dec (k : Nat) : decB (Lib.decDigits k) = true := by
  unfold decB
  rw [dd_dig]
  have h1 : (Lib.decDigits k).isEmpty = false := by rw [List.isEmpty_eq_false_iff]; exact dd_ne k
  have h2 : (decide (1 < (Lib.decDigits k).length) && (Lib.decDigits k).head? == some 48) = false := by
    by_cases hk : k < 10
    · have : (Lib.decDigits k).length = 1 := by rw [Lib.decDigits, dif_pos hk]; rfl
      rw [this]; rfl
    · have : ((Lib.decDigits k).head? == some 48) = false := by rw [beq_eq_false_iff_ne]; exact dd_head k (by omega)
      rw [this, Bool.and_false]
  rw [h1, h2]; rfl
/-- A decimal number is its value's digits. -/
theorem dd_back (l : List UInt8) : decB l = true → numV l ≤ 1073741824 → Lib.decDigits (numV l) = l := by
  induction hlen : l.length using Nat.strongRecOn generalizing l with
  | ind n ih =>
    intro hd hn
    rcases List.eq_nil_or_concat l with rfl | ⟨m, c, rfl⟩
    · cases hd
    rw [List.concat_eq_append] at hd hn hlen ⊢
    have hall := dec_digs hd
    rw [List.all_append] at hall
    simp only [Bool.and_eq_true, List.all_cons, List.all_nil, Bool.and_true] at hall
    obtain ⟨hm, hc⟩ := hall
    have hc' := of_decide_eq_true hc
    rw [numV_snoc] at hn
    have hv : numV (m ++ [c]) = 10 * numV m + (c.toNat - 48) := by rw [numV_snoc]; omega
    rw [hv]
    have ec : UInt8.ofNat (48 + (c.toNat - 48)) = c := by
      apply UInt8.toNat_inj.1
      rw [digit_toNat _ (by omega)]; omega
    by_cases hmn : m = []
    · subst hmn
      have : numV [] = 0 := rfl
      rw [this, Lib.decDigits, dif_pos (by omega)]
      simp only [Nat.mul_zero, Nat.zero_add, List.nil_append]
      rw [ec]
    · have hl : 1 < (m ++ [c]).length := by
        have := List.length_pos_iff.2 hmn
        simp; omega
      have hh : m.head? ≠ some 48 := by
        unfold decB at hd
        rw [decide_eq_true hl] at hd
        have e : (m ++ [c]).head? = m.head? := by
          rw [List.head?_append]
          cases hx : m.head? with
          | none => exact absurd (List.head?_eq_none_iff.1 hx) hmn
          | some _ => rfl
        rw [e] at hd
        intro e2
        rw [e2] at hd
        simp at hd
      have hdm : decB m = true := by
        unfold decB
        have h1 : m.isEmpty = false := by rw [List.isEmpty_eq_false_iff]; exact hmn
        have h2 : (m.head? == some 48) = false := by rw [beq_eq_false_iff_ne]; exact hh
        rw [h1, h2, hm, Bool.and_false]; rfl
      have hpos : numV m ≠ 0 := fun e => hh (by rw [(numV_zero0 hdm).1 e]; rfl)
      have hi := ih m.length (by rw [← hlen]; simp) m rfl hdm (by omega)
      rw [Lib.decDigits, dif_neg (by omega), show (10 * numV m + (c.toNat - 48)) / 10 = numV m by omega, show (10 * numV m + (c.toNat - 48)) % 10 = c.toNat - 48 by omega, hi, ec]

/-! Parts of a string. -/
theorem slash_no {x : List UInt8} (h : x.all isDig = true) (y : List UInt8) : slashI (x ++ 47 :: y) = x.length := by
  induction x with
  | nil => rfl
  | cons c t ih =>
    simp only [List.all_cons, Bool.and_eq_true] at h
    have hc := of_decide_eq_true h.1
    have hne : (c == 47) = false := by rw [beq_eq_false_iff_ne]; intro e; rw [e] at hc; exact absurd hc.1 (by decide)
    have := ih h.2
    unfold slashI at this ⊢
    rw [List.cons_append, List.findIdx_cons, hne, this]; rfl
theorem slash_nil {x : List UInt8} (h : x.all isDig = true) : slashI x = x.length := by
  induction x with
  | nil => rfl
  | cons c t ih =>
    simp only [List.all_cons, Bool.and_eq_true] at h
    have hc := of_decide_eq_true h.1
    have hne : (c == 47) = false := by rw [beq_eq_false_iff_ne]; intro e; rw [e] at hc; exact absurd hc.1 (by decide)
    have := ih h.2
    unfold slashI at this ⊢
    rw [List.findIdx_cons, hne, this]; rfl
theorem neg_dig {x y : List UInt8} (hx : x.all isDig = true) (hn : x ≠ []) : psNeg (x ++ y) = false := by
  cases x with
  | nil => exact absurd rfl hn
  | cons c t =>
    simp only [List.all_cons, Bool.and_eq_true] at hx
    have hc := of_decide_eq_true hx.1
    have hne : c ≠ 45 := fun e => by rw [e] at hc; exact absurd hc.1 (by decide)
    unfold psNeg
    simp [hne]
/-- A sign, a number, a slash and a number: the string. -/
def glue (g : Bool) (x : List UInt8) (f : Bool) (y : List UInt8) : List UInt8 := (if g = true then [45] else []) ++ (x ++ (if f = true then 47 :: y else []))
theorem glue_rest {g f : Bool} {x y : List UInt8} (hx : x.all isDig = true) (hn : x ≠ []) : psNeg (glue g x f y) = g ∧ psRest (glue g x f y) = x ++ (if f = true then 47 :: y else []) := by
  unfold glue
  cases g
  · have e : psNeg (x ++ (if f = true then 47 :: y else [])) = false := neg_dig hx hn
    simp only [Bool.false_eq_true, if_false, List.nil_append]
    exact ⟨e, by rw [psRest, e, if_neg (by simp)]⟩
  · simp only [if_true]
    have e : psNeg ([45] ++ (x ++ (if f = true then 47 :: y else []))) = true := rfl
    exact ⟨e, by rw [psRest, e, if_pos rfl]; rfl⟩
theorem glue_parts {g f : Bool} {x y : List UInt8} (hx : x.all isDig = true) (hn : x ≠ []) : psNeg (glue g x f y) = g ∧ psA (glue g x f y) = x ∧ psF (glue g x f y) = f ∧ (f = true → psB (glue g x f y) = y) := by
  obtain ⟨h1, h2⟩ := glue_rest (g := g) (f := f) (y := y) hx hn
  refine ⟨h1, ?_, ?_, ?_⟩
  · unfold psA; rw [h2]
    cases f
    · simp only [Bool.false_eq_true, if_false, List.append_nil]; rw [slash_nil hx, List.take_length]
    · simp only [if_true]; rw [slash_no hx]; simp
  · unfold psF; rw [h2]
    cases f
    · simp only [Bool.false_eq_true, if_false, List.append_nil]; rw [slash_nil hx]; simp
    · simp only [if_true]; rw [slash_no hx]; simp
  · intro hf
    subst hf
    unfold psB; rw [h2]
    simp only [if_true]; rw [slash_no hx]; simp
theorem rest_split (l : List UInt8) : l = l.take (slashI l) ++ (if decide (slashI l < l.length) = true then 47 :: l.drop (slashI l + 1) else []) := by
  by_cases h : slashI l < l.length
  · rw [decide_eq_true h, if_pos rfl]
    have h47 : l[slashI l] = 47 := by
      exact beq_iff_eq.1 (List.findIdx_getElem (w := h))
    conv => lhs; rw [← List.take_append_drop (slashI l) l]
    rw [List.drop_eq_getElem_cons h, h47]
  · rw [decide_eq_false h, if_neg (by simp), List.append_nil, List.take_of_length_le (by omega)]
theorem whole (l : List UInt8) : l = glue (psNeg l) (psA l) (psF l) (psB l) := by
  have h := rest_split (psRest l)
  unfold glue psA psF psB
  rw [← h]
  unfold psRest
  cases hg : psNeg l
  · simp
  · simp only [if_true]
    unfold psNeg at hg
    cases l with
    | nil => cases hg
    | cons c t =>
      have : c = 45 := by simpa using hg
      rw [this]; rfl

end Go.Proofs.YtlbepbddhnmmjaaDoor
