/-
  Plain facts for stage 1: what Parse answers, on bytes.
-/
import Derived.Test.YtlbepbddhnmmjaaDoorM2
import Derived.Lib.Strings
import Derived.Lib.IndexMore
namespace Go.Proofs.YtlbepbddhnmmjaaDoor

def psNeg (l : List UInt8) : Bool := l.head? == some 45
def psRest (l : List UInt8) : List UInt8 := if psNeg l = true then l.drop 1 else l
def psA (l : List UInt8) : List UInt8 := (psRest l).take (slashI (psRest l))
def psF (l : List UInt8) : Bool := decide (slashI (psRest l) < (psRest l).length)
def psB (l : List UInt8) : List UInt8 := (psRest l).drop (slashI (psRest l) + 1)
/-- The error, the numerator, the denominator: of the sign, the first number, whether there is a slash, the second number. -/
def prE (g : Bool) (a : List UInt8) (f : Bool) (b : List UInt8) : Int :=
  if decB a = false ∨ (f = true ∧ decB b = false) ∨ (g = true ∧ a = [48]) then 4
  else if 1073741824 < numV a ∨ (f = true ∧ 1073741824 < numV b) then 3
  else if f = true ∧ (numV b < 2 ∨ Nat.gcd (numV a) (numV b) ≠ 1) then 4 else 0
def prN (g : Bool) (a : List UInt8) (f : Bool) (b : List UInt8) : Int :=
  if prE g a f b = 0 then (if g = true then -(numV a : Int) else (numV a : Int)) else 0
def prD (g : Bool) (a : List UInt8) (f : Bool) (b : List UInt8) : Int :=
  if prE g a f b = 0 then (if f = true then (numV b : Int) else 1) else 0
def psE (l : List UInt8) : Int := prE (psNeg l) (psA l) (psF l) (psB l)
def psN (l : List UInt8) : Int := prN (psNeg l) (psA l) (psF l) (psB l)
def psD (l : List UInt8) : Int := prD (psNeg l) (psA l) (psF l) (psB l)

theorem hasPrefix_neg (l : List UInt8) : Lib.hasPrefix l [45] = psNeg l := by
  cases l with
  | nil => rfl
  | cons c t =>
    unfold Lib.hasPrefix psNeg
    simp [List.isPrefixOf]
    rw [Bool.eq_iff_iff]; simp; exact eq_comm
theorem trimPrefix_rest (l : List UInt8) : Lib.trimPrefix l [45] = psRest l := by
  unfold Lib.trimPrefix psRest; rw [hasPrefix_neg]; rfl

theorem index_slash (l : List UInt8) : Lib.index l [47] = if slashI l < l.length then (slashI l : Int) else -1 := by
  induction l with
  | nil => rfl
  | cons c t ih =>
    rw [Lib.index]
    have hs : slashI (c :: t) = if c = 47 then 0 else slashI t + 1 := by
      unfold slashI; rw [List.findIdx_cons]
      by_cases h : c = 47
      · subst h; rfl
      · have : (c == 47) = false := by rw [beq_eq_false_iff_ne]; exact h
        rw [this, if_neg h]; rfl
    by_cases h : c = 47
    · subst h
      rw [hs, if_pos rfl]; simp
    · have h1 : List.isPrefixOf [47] (c :: t) = false := by
        simp [List.isPrefixOf]; exact fun e => h e.symm
      have e : (if c = 47 then 0 else slashI t + 1) = slashI t + 1 := if_neg h
      rw [h1, hs, e, ih]
      simp only [Bool.false_eq_true, if_false, List.length_cons]
      by_cases h2 : slashI t < t.length
      · have h3 : slashI t + 1 < t.length + 1 := by omega
        have h4 : ¬ (((slashI t : Int) == -1) = true) := by simp
        rw [if_pos h2, if_pos h3, if_neg h4]; rfl
      · have h3 : ¬ slashI t + 1 < t.length + 1 := by omega
        rw [if_neg h2, if_neg h3]; rfl
theorem slashI_le (l : List UInt8) : slashI l ≤ l.length := List.findIdx_le_length
theorem cut_slash (l : List UInt8) : Lib.cut l [47] = (l.take (slashI l), (if slashI l < l.length then l.drop (slashI l + 1) else []), decide (slashI l < l.length)) := by
  unfold Lib.cut
  rw [index_slash]
  by_cases h : slashI l < l.length
  · rw [if_pos h, if_pos (by omega), if_pos h, decide_eq_true h]; rfl
  · have h1 := slashI_le l
    rw [if_neg h, if_neg (by omega), if_neg h, decide_eq_false h, List.take_of_length_le (by omega)]

/-! What is answered, way by way. -/
theorem pr_syn {g f : Bool} {a b : List UInt8} (h : decB a = false ∨ (f = true ∧ decB b = false) ∨ (g = true ∧ a = [48])) : prE g a f b = 4 ∧ prN g a f b = 0 ∧ prD g a f b = 0 := by
  have e : prE g a f b = 4 := if_pos h
  exact ⟨e, by rw [prN, e]; rfl, by rw [prD, e]; rfl⟩
theorem pr_over {g f : Bool} {a b : List UInt8} (h1 : decB a = true) (h2 : f = false ∨ decB b = true) (h3 : g = false ∨ a ≠ [48]) (h : 1073741824 < numV a ∨ (f = true ∧ 1073741824 < numV b)) : prE g a f b = 3 ∧ prN g a f b = 0 ∧ prD g a f b = 0 := by
  have e : prE g a f b = 3 := by
    rw [prE, if_neg, if_pos h]
    rintro (hc | ⟨hc, hd⟩ | ⟨hc, hd⟩)
    · rw [h1] at hc; cases hc
    · rcases h2 with h2 | h2
      · rw [h2] at hc; cases hc
      · rw [h2] at hd; cases hd
    · rcases h3 with h3 | h3
      · rw [h3] at hc; cases hc
      · exact h3 hd
  exact ⟨e, by rw [prN, e]; rfl, by rw [prD, e]; rfl⟩
theorem pr_low {g f : Bool} {a b : List UInt8} (hf : f = true) (h4 : numV a ≤ 1073741824) (h5 : numV b ≤ 1073741824) (h : numV b < 2 ∨ Nat.gcd (numV a) (numV b) ≠ 1) : prE g a f b = 4 ∧ prN g a f b = 0 ∧ prD g a f b = 0 := by
  have e : prE g a f b = 4 := by
    rw [prE]
    by_cases hc : decB a = false ∨ (f = true ∧ decB b = false) ∨ (g = true ∧ a = [48])
    · rw [if_pos hc]
    · rw [if_neg hc, if_neg (by omega), if_pos ⟨hf, h⟩]
  exact ⟨e, by rw [prN, e]; rfl, by rw [prD, e]; rfl⟩
theorem pr_ok {g f : Bool} {a b : List UInt8} (h1 : decB a = true) (h2 : f = false ∨ decB b = true) (h3 : g = false ∨ a ≠ [48]) (h4 : numV a ≤ 1073741824) (h5 : f = false ∨ numV b ≤ 1073741824 ∧ 2 ≤ numV b ∧ Nat.gcd (numV a) (numV b) = 1) :
    prE g a f b = 0 ∧ prN g a f b = (if g = true then -(numV a : Int) else (numV a : Int)) ∧ prD g a f b = (if f = true then (numV b : Int) else 1) := by
  have e : prE g a f b = 0 := by
    rw [prE, if_neg, if_neg, if_neg]
    · rintro ⟨hf, hd⟩
      rcases h5 with h5 | ⟨_, h6, h7⟩
      · rw [h5] at hf; cases hf
      · rcases hd with hd | hd
        · omega
        · exact hd h7
    · rintro (hc | ⟨hc, hd⟩)
      · omega
      · rcases h5 with h5 | ⟨h6, _⟩
        · rw [h5] at hc; cases hc
        · omega
    · rintro (hc | ⟨hc, hd⟩ | ⟨hc, hd⟩)
      · rw [h1] at hc; cases hc
      · rcases h2 with h2 | h2
        · rw [h2] at hc; cases hc
        · rw [h2] at hd; cases hd
      · rcases h3 with h3 | h3
        · rw [h3] at hc; cases hc
        · exact h3 hd
  exact ⟨e, by rw [prN, if_pos e], by rw [prD, if_pos e]⟩

end Go.Proofs.YtlbepbddhnmmjaaDoor
