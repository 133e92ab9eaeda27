/-
  The specification's state while waves are put together, plain.
-/
import Derived.Test.YtmfceiioigmnlaaM6
namespace Go.Proofs.Ytmfceiioigmnlaa
open Go
set_option linter.unusedVariables false
set_option linter.unusedSimpArgs false

/-- 'at' and 'left' stand at these positions. -/
def St (ws : List (List Rn)) (M : List Ps) (A F : List Int) : Prop := A.length = ws.length ∧ F.length = ws.length ∧ M.length = ws.length ∧
  ∀ i (h : i < ws.length) (hM : i < M.length) (hA : i < A.length) (hF : i < F.length), F[i] = rm ws[i] M[i] ∧ (M[i].1 < ws[i].length → A[i] = M[i].1)
theorem St_step {ws : List (List Rn)} {D : Int} {G : List Ps} {A F : List Int} {k : Nat} (hG : G.length = ws.length) (h : St ws (mx D ws G k) A F) (hk : k < ws.length) {a f : Int} (hf : f = rm ws[k] (av ws[k] D (G[k]'(by omega)))) (ha : (av ws[k] D (G[k]'(by omega))).1 < ws[k].length → a = (av ws[k] D (G[k]'(by omega))).1) : St ws (mx D ws G (k + 1)) (A.set k a) (F.set k f) := by
  obtain ⟨h1, h2, h3, h4⟩ := h
  have e := mx_set D ws G hG.symm k hk
  rw [← e]
  refine ⟨by rw [List.length_set]; exact h1, by rw [List.length_set]; exact h2, by rw [List.length_set]; exact h3, fun i hi hM hA hF => ?_⟩
  by_cases c : k = i
  · subst c
    rw [List.getElem_set_self, List.getElem_set_self, List.getElem_set_self]
    exact ⟨hf, ha⟩
  · rw [List.getElem_set_ne c, List.getElem_set_ne c, List.getElem_set_ne c]
    exact h4 i hi (by rw [List.length_set] at hM; exact hM) (by rw [List.length_set] at hA; exact hA) (by rw [List.length_set] at hF; exact hF)
theorem set_id {l : List Int} {k : Nat} (h : k < l.length) : l.set k l[k] = l := by simp
theorem St_start {ws : List (List Rn)} {F : List Int} (hF : F.length = ws.length) (h : ∀ i (hi : i < ws.length) (h' : i < F.length), F[i] = rm ws[i] (0, 0)) : St ws (List.replicate ws.length (0, 0)) (List.replicate ws.length 0) F := by
  refine ⟨by simp, hF, by simp, fun i hi hM hA hF => ?_⟩
  rw [List.getElem_replicate, List.getElem_replicate]
  exact ⟨h i hi hF, fun _ => rfl⟩
theorem rm_start {W : List Rn} (h : 0 < W.length) : rm W (0, 0) = W[0].2 := by unfold rm; simp [h]
theorem rm_start0 {W : List Rn} (h : ¬ 0 < W.length) : rm W (0, 0) = 0 := by
  have : W = [] := List.eq_nil_of_length_eq_zero (by omega)
  subst this; rfl
/-- The three ways of one wave's step. -/
theorem av_in {W : List Rn} {p : Ps} {j : Nat} {D : Int} (hj : j < W.length) (hp : p.1 = j) : (¬ p.2 + D = W[j].2 → av W D p = ((j : Int), p.2 + D) ∧ rm W (av W D p) = W[j].2 - p.2 - D) ∧ (p.2 + D = W[j].2 → av W D p = ((j : Int) + 1, 0)) := by
  have e : W.getD p.1.toNat (0, 0) = W[j] := by rw [hp]; simp [hj]
  unfold av rm
  rw [e]
  refine ⟨fun h => ?_, fun h => ?_⟩
  · rw [if_neg h]
    simp only [e]
    refine ⟨by rw [hp], by omega⟩
  · rw [if_pos h, hp]
theorem rm_next {W : List Rn} {j : Nat} (h : j + 1 < W.length) : rm W ((j : Int) + 1, 0) = W[j + 1].2 := by
  unfold rm
  have : ((j : Int) + 1).toNat = j + 1 := by omega
  simp [this, h]
theorem rm_end {W : List Rn} {j : Nat} (h : ¬ j + 1 < W.length) : rm W ((j : Int) + 1, 0) = 0 := by
  unfold rm
  have : ((j : Int) + 1).toNat = j + 1 := by omega
  simp [this, h]

end Go.Proofs.Ytmfceiioigmnlaa
