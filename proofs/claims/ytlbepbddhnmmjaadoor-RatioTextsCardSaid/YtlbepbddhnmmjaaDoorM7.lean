/-
  Plain facts for stage 1: Text and Parse undo one another.
-/
import Derived.Test.YtlbepbddhnmmjaaDoorW13
import Derived.Test.YtlbepbddhnmmjaaDoorM6
namespace Go.Proofs.YtlbepbddhnmmjaaDoor

theorem itoa_glue (n d : Int) (hd : 0 ≤ d) : (if d = 1 then Lib.itoa n else Lib.itoa n ++ [47] ++ Lib.itoa d) = glue (decide (n < 0)) (Lib.decDigits n.natAbs) (decide (d ≠ 1)) (Lib.decDigits d.natAbs) := by
  have e1 : Lib.itoa n = (if decide (n < 0) = true then [45] else []) ++ Lib.decDigits n.natAbs := by
    unfold Lib.itoa
    by_cases h : n < 0
    · rw [if_pos h, decide_eq_true h, if_pos rfl]; rfl
    · rw [if_neg h, decide_eq_false h, if_neg (by simp), show n.toNat = n.natAbs by omega]; rfl
  have e2 : Lib.itoa d = Lib.decDigits d.natAbs := by rw [Lib.itoa, if_neg (by omega), show d.toNat = d.natAbs by omega]
  unfold glue
  rw [e1, e2]
  by_cases h : d = 1
  · have e3 : decide (d ≠ 1) = false := decide_eq_false (by simpa using h)
    rw [if_pos h, e3]
    simp only [Bool.false_eq_true, if_false, List.append_nil]
  · have e3 : decide (d ≠ 1) = true := decide_eq_true h
    rw [if_neg h, e3]
    simp only [if_true, List.append_assoc]; rfl
theorem tx_glue {n d : Int} (h : validB n d = true) : txV n d = glue (decide (n < 0)) (Lib.decDigits n.natAbs) (decide (d ≠ 1)) (Lib.decDigits d.natAbs) := by
  rw [txV, if_pos h]; exact itoa_glue n d (by have := valid_bd h; omega)
theorem tx_bad {n d : Int} (h : validB n d = false) : txV n d = [] := by rw [txV, h, if_neg (by simp)]
theorem tx_ne {n d : Int} (h : validB n d = true) : txV n d ≠ [] := by
  rw [tx_glue h]; unfold glue
  intro e
  have e2 := (List.append_eq_nil_iff.1 e).2
  exact dd_ne _ (List.append_eq_nil_iff.1 e2).1

/-- The string form is parsed as the ratio. -/
theorem tx_parse {n d : Int} (h : validB n d = true) : psE (txV n d) = 0 ∧ psN (txV n d) = n ∧ psD (txV n d) = d := by
  obtain ⟨b1, b2, b3, b4⟩ := valid_bd h
  have hg := valid_gcd h
  rw [tx_glue h]
  obtain ⟨p1, p2, p3, p4⟩ := glue_parts (g := decide (n < 0)) (f := decide (d ≠ 1)) (y := Lib.decDigits d.natAbs) (dd_dig n.natAbs) (dd_ne n.natAbs)
  have hA := dd_num n.natAbs
  have hB := dd_num d.natAbs
  have hk := pr_ok (g := decide (n < 0)) (a := Lib.decDigits n.natAbs) (f := decide (d ≠ 1)) (b := psB (glue (decide (n < 0)) (Lib.decDigits n.natAbs) (decide (d ≠ 1)) (Lib.decDigits d.natAbs)))
    (dd_dec _) (by
      by_cases hd : d = 1
      · exact Or.inl (by simpa using hd)
      · exact Or.inr (by rw [p4 (by simpa using hd)]; exact dd_dec _))
    (by
      by_cases hn : n < 0
      · refine Or.inr fun e => ?_
        rw [e] at hA
        have : numV [48] = 0 := rfl
        omega
      · exact Or.inl (by simpa using hn))
    (by omega) (by
      by_cases hd : d = 1
      · exact Or.inl (by simpa using hd)
      · refine Or.inr ?_
        rw [p4 (by simpa using hd), hA, hB, Nat.min_eq_left (by omega), Nat.min_eq_left (by omega)]
        exact ⟨by omega, by omega, hg⟩)
  unfold psE psN psD
  rw [p1, p2, p3]
  refine ⟨hk.1, ?_, ?_⟩
  · rw [hk.2.1, hA, Nat.min_eq_left (by omega)]
    by_cases hn : n < 0
    · rw [decide_eq_true hn, if_pos rfl]; omega
    · rw [decide_eq_false hn, if_neg (by simp)]; omega
  · rw [hk.2.2]
    by_cases hd : d = 1
    · rw [if_neg (by simpa using hd)]; omega
    · rw [if_pos (by simpa using hd), p4 (by simpa using hd), hB, Nat.min_eq_left (by omega)]; omega

/-- What is parsed is the string form of its ratio. -/
theorem parse_tx {l : List UInt8} (h : psE l = 0) : validB (psN l) (psD l) = true ∧ txV (psN l) (psD l) = l := by
  have h' := h
  unfold psE prE at h'
  by_cases c1 : decB (psA l) = false ∨ (psF l = true ∧ decB (psB l) = false) ∨ (psNeg l = true ∧ psA l = [48])
  · rw [if_pos c1] at h'; cases h'
  rw [if_neg c1] at h'
  by_cases c2 : 1073741824 < numV (psA l) ∨ (psF l = true ∧ 1073741824 < numV (psB l))
  · rw [if_pos c2] at h'; cases h'
  rw [if_neg c2] at h'
  by_cases c3 : psF l = true ∧ (numV (psB l) < 2 ∨ Nat.gcd (numV (psA l)) (numV (psB l)) ≠ 1)
  · rw [if_pos c3] at h'; cases h'
  have dA : decB (psA l) = true := by
    cases e : decB (psA l)
    · exact absurd (Or.inl e) c1
    · rfl
  have hNA : numV (psA l) ≤ 1073741824 := by omega
  have bA := dd_back (psA l) dA hNA
  have hN : psN l = if psNeg l = true then -(numV (psA l) : Int) else (numV (psA l) : Int) := by
    have e : prE (psNeg l) (psA l) (psF l) (psB l) = 0 := h
    unfold psN prN; rw [if_pos e]
  have hD : psD l = if psF l = true then (numV (psB l) : Int) else 1 := by
    have e : prE (psNeg l) (psA l) (psF l) (psB l) = 0 := h
    unfold psD prD; rw [if_pos e]
  have aN : (psN l).natAbs = numV (psA l) := by rw [hN]; split <;> omega
  have sg : decide (psN l < 0) = psNeg l := by
    rw [hN]
    cases hg : psNeg l
    · rw [if_neg (by simp)]; exact decide_eq_false (by omega)
    · rw [if_pos rfl]
      have hne : psA l ≠ [48] := fun e => c1 (Or.inr (Or.inr ⟨hg, e⟩))
      have hz : numV (psA l) ≠ 0 := fun e => hne ((numV_zero0 dA).1 e)
      exact decide_eq_true (by omega)
  have hv : validB (psN l) (psD l) = true := by
    refine decide_eq_true ?_
    rw [aN]
    cases hf : psF l
    · rw [hf, if_neg (by simp)] at hD
      rw [hD]
      refine ⟨by omega, by omega, by omega, by omega, ?_⟩
      exact Nat.gcd_one_right _
    · rw [hf, if_pos rfl] at hD
      have c4 : ¬ (numV (psB l) < 2 ∨ Nat.gcd (numV (psA l)) (numV (psB l)) ≠ 1) := fun e => c3 ⟨hf, e⟩
      have c5 : numV (psB l) ≤ 1073741824 := by
        rcases Nat.lt_or_ge 1073741824 (numV (psB l)) with e | e
        · exact absurd (Or.inr ⟨hf, e⟩) c2
        · exact e
      rw [hD]
      refine ⟨by omega, by omega, by omega, by omega, ?_⟩
      rw [Int.natAbs_natCast]
      by_cases e : Nat.gcd (numV (psA l)) (numV (psB l)) = 1
      · exact e
      · exact absurd (Or.inr e) c4
  refine ⟨hv, ?_⟩
  rw [tx_glue hv, sg, aN, bA]
  conv => rhs; rw [whole l]
  cases hf : psF l
  · rw [hf, if_neg (by simp)] at hD
    rw [hD]; rfl
  · rw [hf, if_pos rfl] at hD
    have c4 : ¬ (numV (psB l) < 2 ∨ Nat.gcd (numV (psA l)) (numV (psB l)) ≠ 1) := fun e => c3 ⟨hf, e⟩
    have c5 : numV (psB l) ≤ 1073741824 := by
      rcases Nat.lt_or_ge 1073741824 (numV (psB l)) with e | e
      · exact absurd (Or.inr ⟨hf, e⟩) c2
      · exact e
    have dB : decB (psB l) = true := by
      cases e : decB (psB l)
      · exact absurd (Or.inr (Or.inl ⟨hf, e⟩)) c1
      · rfl
    have e1 : decide (psD l ≠ 1) = true := decide_eq_true (by rw [hD]; omega)
    rw [e1, hD, Int.natAbs_natCast, dd_back (psB l) dB c5]

end Go.Proofs.YtlbepbddhnmmjaaDoor
