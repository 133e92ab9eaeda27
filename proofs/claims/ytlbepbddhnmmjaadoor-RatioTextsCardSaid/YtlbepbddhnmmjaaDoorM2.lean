/-
  Plain facts for stage 1: decimal numbers in bytes.
-/
import Derived.Test.YtlbepbddhnmmjaaDoorM1
namespace Go.Proofs.YtlbepbddhnmmjaaDoor

/-- Is a byte a digit? -/
def isDig (c : UInt8) : Bool := decide (48 ≤ c.toNat ∧ c.toNat ≤ 57)
/-- Is a string a decimal number without a leading zero? -/
def decB (l : List UInt8) : Bool := !l.isEmpty && !(decide (1 < l.length) && l.head? == some 48) && l.all isDig
/-- A decimal number's value; all above 2^30 are 2^30 + 1. -/
def numV (l : List UInt8) : Nat := l.foldl (fun n c => min (10 * n + (c.toNat - 48)) 1073741825) 0

theorem numV_nil : numV [] = 0 := rfl
theorem numV_snoc (l : List UInt8) (c : UInt8) : numV (l ++ [c]) = min (10 * numV l + (c.toNat - 48)) 1073741825 := by unfold numV; rw [List.foldl_append]; rfl
theorem numV_le (l : List UInt8) : numV l ≤ 1073741825 := by
  rcases List.eq_nil_or_concat l with rfl | ⟨m, c, rfl⟩
  · simp [numV]
  · rw [List.concat_eq_append, numV_snoc]; omega
theorem take_snoc (s : ByteArray) (k : Nat) (h : k < s.size) : s.data.toList.take (k + 1) = s.data.toList.take k ++ [s[k]] := by
  rw [List.take_succ_eq_append_getElem (by simpa using h)]; rfl

theorem isDig_of {c : UInt8} (h1 : 48 ≤ c.toNat) (h2 : c.toNat ≤ 57) : isDig c = true := decide_eq_true ⟨h1, h2⟩
theorem isDig_not {c : UInt8} (h : c.toNat < 48 ∨ 57 < c.toNat) : isDig c = false := decide_eq_false (by omega)
theorem getElem_toList (s : ByteArray) (k : Nat) (h : k < s.size) : s.data.toList[k]'(by simpa using h) = s[k] := rfl
theorem dec_nil : decB [] = false := rfl
theorem empty_toList {s : ByteArray} (h : s.size = 0) : s.data.toList = [] := by
  rw [← List.length_eq_zero_iff]; simpa using h
theorem dec_zero {s : ByteArray} (h : 1 < s.size) (h0 : s[0].toNat = 48) : decB s.data.toList = false := by
  have hl : 1 < s.data.toList.length := by simpa using h
  have e : s[0] = 48 := UInt8.toNat_inj.1 h0
  have hh : s.data.toList.head? = some 48 := by
    rw [List.head?_eq_getElem?, List.getElem?_eq_getElem (by omega), getElem_toList s 0 (by omega), e]
  have hd : decide (1 < s.data.toList.length) = true := decide_eq_true hl
  unfold decB; rw [hd, hh]; simp
theorem dec_stop {s : ByteArray} {k : Nat} (hk : k < s.size) (h : isDig s[k] = false) : decB s.data.toList = false := by
  have : s.data.toList.all isDig = false := by
    rw [List.all_eq_false]
    exact ⟨s[k], by rw [← getElem_toList s k hk]; exact List.getElem_mem _, by simpa using h⟩
  unfold decB; rw [this]; simp
theorem dec_all {s : ByteArray} (h : s.size = 1 ∨ 1 < s.size ∧ s[0]!.toNat ≠ 48) (ha : s.data.toList.all isDig = true) : decB s.data.toList = true := by
  have hn : s.data.toList ≠ [] := by
    intro e; have : s.data.toList.length = 0 := by rw [e]; rfl
    have : s.size = 0 := by simpa using this
    omega
  have h2 : (decide (1 < s.data.toList.length) && s.data.toList.head? == some 48) = false := by
    rcases h with h | ⟨h, h0⟩
    · have : decide (1 < s.data.toList.length) = false := decide_eq_false (by have : s.data.toList.length = s.size := by simp
                                                                              omega)
      rw [this]; rfl
    · have hh : s.data.toList.head? = some s[0]! := by
        rw [List.head?_eq_getElem?, List.getElem?_eq_getElem (by simp; omega), getElem_toList s 0 (by omega)]
        congr 1; exact (getElem!_pos s 0 (by omega)).symm
      have hne : (some s[0]! == some (48 : UInt8)) = false := by
        rw [Bool.eq_false_iff]; intro e
        have e' : s[0]! = 48 := by simpa using e
        exact h0 (by rw [e']; rfl)
      rw [hh, hne]; simp
  unfold decB; rw [ha, h2]; simpa using hn
theorem all_snoc (s : ByteArray) (k : Nat) (h : k < s.size) (ha : (s.data.toList.take k).all isDig = true) (hd : isDig s[k] = true) : (s.data.toList.take (k + 1)).all isDig = true := by
  rw [take_snoc s k h, List.all_append, ha]; simpa using hd

/-- The place of the first slash, or the length. -/
def slashI (l : List UInt8) : Nat := l.findIdx (· == 47)
theorem slash_here {s : ByteArray} {k : Nat} (hk : k < s.size) (hb : ∀ j : Nat, j < k → (hj : j < s.size) → s[j].toNat ≠ 47) (h : s[k].toNat = 47) : slashI s.data.toList = k := by
  have hl : k < s.data.toList.length := by simpa using hk
  unfold slashI
  rw [List.findIdx_eq hl]
  refine ⟨?_, ?_⟩
  · rw [getElem_toList s k hk, beq_iff_eq]; exact UInt8.toNat_inj.1 h
  · intro j hj
    rw [getElem_toList s j (by omega), beq_eq_false_iff_ne]
    intro e; exact hb j hj (by omega) (by rw [e]; rfl)
theorem slash_none {s : ByteArray} (hb : ∀ j : Nat, (hj : j < s.size) → s[j].toNat ≠ 47) : slashI s.data.toList = s.size := by
  have : slashI s.data.toList = s.data.toList.length := by
    unfold slashI
    rw [List.findIdx_eq_length]
    intro x hx
    obtain ⟨j, hj, rfl⟩ := List.getElem_of_mem hx
    have hj' : j < s.size := by simpa using hj
    rw [beq_eq_false_iff_ne]
    intro e; exact hb j hj' (by rw [← getElem_toList s j hj', e]; rfl)
  rw [this]; simp

theorem num_step (s : ByteArray) (k : Nat) (h : k < s.size) : numV (s.data.toList.take (k + 1)) = min (10 * numV (s.data.toList.take k) + (s[k].toNat - 48)) 1073741825 := by
  rw [take_snoc s k h, numV_snoc]
theorem dig_at {s : ByteArray} (ha : s.data.toList.all isDig = true) (k : Nat) (h : k < s.size) : 48 ≤ s[k].toNat ∧ s[k].toNat ≤ 57 := by
  have := (List.all_eq_true.1 ha) s[k] (by rw [← getElem_toList s k h]; exact List.getElem_mem _)
  exact of_decide_eq_true this
theorem dec_digs {l : List UInt8} (h : decB l = true) : l.all isDig = true := by
  unfold decB at h; simp only [Bool.and_eq_true] at h; exact h.2

end Go.Proofs.YtlbepbddhnmmjaaDoor
