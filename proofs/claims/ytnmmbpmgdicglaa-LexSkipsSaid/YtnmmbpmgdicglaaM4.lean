/-
  The plain mathematics of LexSkips: the answers of Tokens with and without the comments.
-/
import Derived.Test.YtnmmbpmgdicglaaM3
namespace Go.Proofs.Ytnmmbpmgdicglaa
set_option linter.unusedVariables false
set_option linter.unusedSimpArgs false

theorem skip_ans (s c : List UInt8) (hs : s.length ≤ 524288) (hc : c.length ≤ 1024) (hno : ∀ x ∈ c, x.toNat ≠ 10) :
    (∃ ts, ans s = (ts, 0, 0) ∧ ans (9 :: 35 :: (c ++ 10 :: (s ++ tailOf c))) = (ts.map bump, 0, 0) ∧ ts.length ≤ 1048576 ∧ ∀ t ∈ ts, 1 ≤ t.n ∧ t.n ≤ 2000000) ∨ (∃ p e, ans s = ([], p, e) ∧ ans (9 :: 35 :: (c ++ 10 :: (s ++ tailOf c))) = ([], p + 1, e) ∧ e ≠ 0 ∧ e ≤ 4 ∧ p ≤ 2000000) := by
  have e1 : lx false (9 :: 35 :: (c ++ 10 :: (s ++ tailOf c))) 1 = bumpA (lx false s 1) := by
    rw [lx_sp 9 _ 1 (Or.inr (by decide)), lx_hash false 35 _ 1 (by decide), lx_cmt c _ 1 hno, lx_nl true 10 _ 1 (by decide)]
    exact lx_app (tailOf c) rfl (gp_tail c hno) _ s 1 (Nat.le_refl _)
  have hl : (9 :: 35 :: (c ++ 10 :: (s ++ tailOf c))).length ≤ 1048576 := by simp [tailOf]; omega
  obtain ⟨n1, n2⟩ := lx_n _ false s 1 (Nat.le_refl _)
  have n3 := lx_len _ false s 1 (Nat.le_refl _)
  rcases hA : lx false s 1 with ⟨ts, _ | ⟨p, e⟩⟩
  · rw [hA] at e1 n1 n3
    refine Or.inl ⟨ts, ans_ok (by omega) hA, ans_ok hl e1, by simp only at n3; omega, fun t ht => ?_⟩
    have := n1 t ht; omega
  · rw [hA] at e1 n2
    have := n2 (p, e) rfl
    exact Or.inr ⟨p, e, ans_err (by omega) hA, ans_err hl e1, this.1, this.2.1, by have := this.2.2; simp only at this; omega⟩
theorem no10 {c : ByteArray} (h : ∀ j (hj : j < c.size), c[j].toNat ≠ 10) : ∀ x ∈ c.data.toList, x.toNat ≠ 10 := by
  intro x hx
  obtain ⟨j, hj, rfl⟩ := List.mem_iff_getElem.1 hx
  exact h j (by rw [size_len]; exact hj)

/-- The string with the comments. -/
theorem skip_data (s c : ByteArray) : (⟨#[9, 35]⟩ ++ c ++ ⟨#[10]⟩ ++ s ++ ⟨#[10, 32, 35]⟩ ++ c : ByteArray).data.toList = 9 :: 35 :: (c.data.toList ++ 10 :: (s.data.toList ++ tailOf c.data.toList)) := by
  simp [ByteArray.data_append, tailOf]
theorem skip_size (s c : ByteArray) (hs : s.size ≤ 524288) (hc : c.size ≤ 1024) : (⟨#[9, 35]⟩ ++ c ++ ⟨#[10]⟩ ++ s ++ ⟨#[10, 32, 35]⟩ ++ c : ByteArray).size ≤ 140737488351232 := by
  rw [size_len, skip_data]
  simp only [List.length_cons, List.length_append, tailOf]
  rw [← size_len, ← size_len]
  omega

end Go.Proofs.Ytnmmbpmgdicglaa
