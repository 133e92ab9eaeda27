/-
  The walks of the loops over runes: gapLength, quotedLength.
-/
import Derived.Test.YtiimdkamgehioaaDoorW2
namespace Go.Proofs.YtiimdkamgehioaaDoor
open Go.RowKit
set_option linter.unusedVariables false
set_option linter.unusedSimpArgs false

theorem gp_10 {s : ByteArray} {pos G : Nat} {cm : Bool} (h : pos < s.size) (hc : s[pos].toNat = 10) (hw : G = pos + gp cm (s.data.toList.drop pos)) : G = pos + 1 + gp false (s.data.toList.drop (pos + 1)) := by
  rw [drop_at s pos h] at hw
  simp only [gp] at hw; rw [if_pos hc] at hw; omega
theorem gp_35 {s : ByteArray} {pos G : Nat} {cm : Bool} (h : pos < s.size) (hc : s[pos].toNat = 35) (hw : G = pos + gp cm (s.data.toList.drop pos)) : G = pos + 1 + gp true (s.data.toList.drop (pos + 1)) := by
  rw [drop_at s pos h] at hw
  simp only [gp] at hw; rw [if_neg (by omega), if_pos hc] at hw; omega
theorem gp_ret {s : ByteArray} {pos G : Nat} (h : pos < s.size) (hc : noGap s[pos].toNat) (hw : G = pos + gp false (s.data.toList.drop pos)) : G = pos := by
  rw [drop_at s pos h, gp_no _ _ hc] at hw; omega
theorem gp_skip {s : ByteArray} {pos G : Nat} {cm : Bool} (h : pos < s.size) (h1 : s[pos].toNat ≠ 10) (h2 : s[pos].toNat ≠ 35) (h3 : cm = true ∨ s[pos].toNat = 32 ∨ s[pos].toNat = 9) (hw : G = pos + gp cm (s.data.toList.drop pos)) : G = pos + 1 + gp cm (s.data.toList.drop (pos + 1)) := by
  rw [drop_at s pos h] at hw
  simp only [gp] at hw; rw [if_neg h1, if_neg h2, if_neg (by rintro ⟨a, b, c⟩; subst a; rcases h3 with h3 | h3 | h3 <;> simp_all)] at hw; omega
theorem gp_rune {s : ByteArray} {pos G n : Nat} (h : pos + n ≤ s.size) (hh : ∀ x ∈ (s.data.toList.drop pos).take n, 128 ≤ x.toNat) (hw : G = pos + gp true (s.data.toList.drop pos)) : G = pos + n + gp true (s.data.toList.drop (pos + n)) := by
  rw [gp_high n _ (by simp; omega) hh, List.drop_drop] at hw
  omega
theorem gp_end {s : ByteArray} {pos G : Nat} {cm : Bool} (h : ¬ pos < s.size) (hp : pos ≤ s.size) (hw : G = pos + gp cm (s.data.toList.drop pos)) : G = s.size := by
  rw [drop_end s pos h] at hw
  simp only [gp] at hw
  omega

/-! quotedLength. -/
theorem ql_esc {s : ByteArray} {pos G : Nat} (h : pos < s.size) (hw : G = pos + ql true (s.data.toList.drop pos)) : G = pos + 1 + ql false (s.data.toList.drop (pos + 1)) := by
  rw [drop_at s pos h] at hw
  simp only [ql] at hw; omega
theorem ql_92 {s : ByteArray} {pos G : Nat} (h : pos < s.size) (hc : s[pos].toNat = 92) (hw : G = pos + ql false (s.data.toList.drop pos)) : G = pos + 1 + ql true (s.data.toList.drop (pos + 1)) := by
  rw [drop_at s pos h] at hw
  simp only [ql] at hw; rw [if_pos hc] at hw; omega
theorem ql_34 {s : ByteArray} {pos G : Nat} (h : pos < s.size) (hc : s[pos].toNat = 34) (hw : G = pos + ql false (s.data.toList.drop pos)) : G = pos + 1 := by
  rw [drop_at s pos h] at hw
  simp only [ql] at hw; rw [if_neg (by omega), if_pos hc] at hw; omega
theorem ql_skip {s : ByteArray} {pos G : Nat} (h : pos < s.size) (h1 : s[pos].toNat ≠ 92) (h2 : s[pos].toNat ≠ 34) (hw : G = pos + ql false (s.data.toList.drop pos)) : G = pos + 1 + ql false (s.data.toList.drop (pos + 1)) := by
  rw [drop_at s pos h] at hw
  simp only [ql] at hw; rw [if_neg h1, if_neg h2] at hw; omega
theorem ql_rune {s : ByteArray} {pos G n : Nat} {e : Bool} (hn : 1 ≤ n) (h : pos + n ≤ s.size) (hh : ∀ x ∈ (s.data.toList.drop pos).take n, 128 ≤ x.toNat) (hw : G = pos + ql e (s.data.toList.drop pos)) : G = pos + n + ql false (s.data.toList.drop (pos + n)) := by
  rw [ql_highE e n _ hn (by simp; omega) hh, List.drop_drop] at hw
  omega
theorem ql_end {s : ByteArray} {pos G : Nat} {e : Bool} (h : ¬ pos < s.size) (hp : pos ≤ s.size) (hw : G = pos + ql e (s.data.toList.drop pos)) : G = s.size := by
  rw [drop_end s pos h] at hw
  have : ql e [] = 0 := by cases e <;> rfl
  omega

end Go.Proofs.YtiimdkamgehioaaDoor
