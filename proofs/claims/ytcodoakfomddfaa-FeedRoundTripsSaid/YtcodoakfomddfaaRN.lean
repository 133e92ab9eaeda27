/-
  Runes of any string: the width, and that no special character lies within a rune of several bytes.
-/
import Derived.Test.YtcodoakfomddfaaG0
import Derived.Laws.RangeAny
import Derived.Lib.OthersKept
namespace Go.Proofs.Ytcodoakfomddfaa
open Go.RowKit
set_option linter.unusedVariables false
set_option linter.unusedSimpArgs false

theorem rune_cont (s : ByteArray) (pos : Nat) : (Utf8.decode s pos).2 ≤ 4 ∧ ∀ k, 1 ≤ k → k < (Utf8.decode s pos).2 → pos + k < s.size ∧ 128 ≤ (s.get! (pos + k)).toNat := by
  have key : ∀ k, (decide (pos + k < s.size) && (s.get! (pos + k)).toNat / 64 == 2) = true → pos + k < s.size ∧ 128 ≤ (s.get! (pos + k)).toNat := by
    intro k h
    rw [Bool.and_eq_true, decide_eq_true_eq, beq_iff_eq] at h
    omega
  simp only [Utf8.decode]
  split
  · exact ⟨by omega, fun k h1 h2 => by omega⟩
  split
  · rename_i h
    rw [Bool.and_eq_true] at h
    have k1 := key 1 h.2
    split
    · refine ⟨by omega, fun k h1 h2 => ?_⟩
      obtain rfl : k = 1 := by simp only at h2; omega
      exact k1
    · exact ⟨by simp, fun k h1 h2 => by simp only at h2; omega⟩
  split
  · rename_i h
    rw [Bool.and_eq_true, Bool.and_eq_true] at h
    have k1 := key 1 h.1.2
    have k2 := key 2 h.2
    split
    · refine ⟨by omega, fun k h1 h2 => ?_⟩
      have : k = 1 ∨ k = 2 := by simp only at h2; omega
      rcases this with rfl | rfl
      · exact k1
      · exact k2
    · exact ⟨by simp, fun k h1 h2 => by simp only at h2; omega⟩
  split
  · rename_i h
    rw [Bool.and_eq_true, Bool.and_eq_true, Bool.and_eq_true] at h
    have k1 := key 1 h.1.1.2
    have k2 := key 2 h.1.2
    have k3 := key 3 h.2
    split
    · refine ⟨by omega, fun k h1 h2 => ?_⟩
      have : k = 1 ∨ k = 2 ∨ k = 3 := by simp only at h2; omega
      rcases this with rfl | rfl | rfl
      · exact k1
      · exact k2
      · exact k3
    · exact ⟨by simp, fun k h1 h2 => by simp only at h2; omega⟩
  · exact ⟨by simp, fun k h1 h2 => by simp only at h2; omega⟩

theorem get_lit (s : ByteArray) (k : Nat) (h : k < s.size) : s.get! k = s[k] := by simpa using get_at s k h
/-- A rune that begins with a byte of 128 or more: all its bytes are such. -/
theorem rune_high (s : ByteArray) (pos : Nat) (h : pos < s.size) (ha : 128 ≤ s[pos].toNat) :
    128 ≤ (Utf8.decode s pos).1 ∧ 1 ≤ (Utf8.decode s pos).2 ∧ pos + (Utf8.decode s pos).2 ≤ s.size ∧ ∀ x ∈ (s.data.toList.drop pos).take (Utf8.decode s pos).2, 128 ≤ x.toNat := by
  obtain ⟨d1, d2⟩ := decode_high s pos h ha
  obtain ⟨_, hc⟩ := rune_cont s pos
  generalize (Utf8.decode s pos).2 = n at *
  refine ⟨d1, d2, ?_, ?_⟩
  · by_cases h1 : n = 1
    · omega
    · have := (hc (n - 1) (by omega) (by omega)).1; omega
  · intro x hx
    obtain ⟨j, hj, rfl⟩ := List.mem_iff_getElem.1 hx
    have hj2 : j < n := by rw [List.length_take] at hj; omega
    rw [List.getElem_take, List.getElem_drop]
    by_cases h0 : j = 0
    · subst h0; exact ha
    · obtain ⟨h2, h3⟩ := hc j (by omega) hj2
      rw [get_lit s _ h2] at h3
      exact h3
theorem drop_at (s : ByteArray) (k : Nat) (h : k < s.size) : s.data.toList.drop k = s[k] :: s.data.toList.drop (k + 1) := List.drop_eq_getElem_cons (by simpa using h)
theorem drop_end (s : ByteArray) (k : Nat) (h : ¬ k < s.size) : s.data.toList.drop k = [] := List.drop_eq_nil_of_le (by simp; omega)

end Go.Proofs.Ytcodoakfomddfaa
