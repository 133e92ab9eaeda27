/-
  One round of putting waves together, plain.
-/
import Derived.Test.YtillcmddbjhepaaM5
namespace Go.Proofs.Ytillcmddbjhepaa
open Go
set_option linter.unusedVariables false
set_option linter.unusedSimpArgs false

theorem Wv.T_range {ws : List (List Rn)} {T : Int} (h : Wv ws T) (h0 : 0 < ws.length) : 0 ≤ T ∧ T ≤ 1099511627776 := by
  have h1 := h 0 h0
  have h2 := vr_range h1.2.1
  rw [h1.2.2] at h2
  exact h2
/-- At the end the first wave's position is its end; before, it is not. -/
theorem Pa_zero {ws : List (List Rn)} {T t : Int} {G : List Ps} (hw : Wv ws T) (h : Pa ws t G) (h0 : 0 < ws.length) (hG : 0 < G.length) (ht : t ≤ T) : ∃ j : Nat, G[0].1 = j ∧ (t < T → j < ws[0].length) ∧ (¬ t < T → j = ws[0].length) := by
  obtain ⟨j, h1, h2, h3, h4, h5, h6⟩ := h.2 0 h0 hG
  refine ⟨j, h1, fun hlt => ?_, fun hlt => ?_⟩
  · obtain ⟨j', hj', e1, _⟩ := Pz_in (h.2 0 h0 hG) (by rw [(hw 0 h0).2.2]; exact hlt)
    omega
  · rcases Nat.lt_or_ge j ws[0].length with c | c
    · have h7 := h5 c
      have h8 := lg_take ws[0] j c
      have h9 := lg_take_range (hw 0 h0).2.1 (j + 1)
      rw [(hw 0 h0).2.2] at h9
      omega
    · omega
/-- What one round does. -/
theorem round_facts {ws : List (List Rn)} {T t : Int} {G : List Ps} {out : List Rn} (hw : Wv ws T) (h : Pa ws t G) (h0 : 0 < ws.length) (ht0 : 0 ≤ t) (ht : t < T) (hc : Cb ws t out) (hs : (out.length : Int) ≤ sj G) (M : Int) (hM : M = 1099511627776 ∨ (∃ hG : 0 < G.length, M = rm ws[0] G[0])) :
    1 ≤ mnF M ws G ∧ t + mnF M ws G ≤ T ∧ (∀ i (hi : i < ws.length) (hG : i < G.length), mnF M ws G ≤ rm ws[i] G[i]) ∧ Pa ws (t + mnF M ws G) (zw (mnF M ws G) ws G) ∧ Cb ws (t + mnF M ws G) (pt out (lvl ws t, mnF M ws G)) ∧ ((pt out (lvl ws t, mnF M ws G)).length : Int) ≤ sj (zw (mnF M ws G) ws G) := by
  have hGl := h.1
  have hG0 : 0 < G.length := by omega
  have r0 := Pa_rm hw h ht 0 h0 hG0
  have hM1 : 1 ≤ M := by
    rcases hM with e | ⟨_, e⟩
    · omega
    · omega
  have hM2 : M ≤ 1099511627776 := by
    rcases hM with e | ⟨_, e⟩
    · omega
    · omega
  have hD1 := mnF_pos (a := M) (ws := ws) (G := G) hM1 (fun i hi hG => (Pa_rm hw h ht i hi hG).1)
  have hDe := fun i hi hG => mnF_each M ws G i hi hG
  have hD0 := hDe 0 h0 hG0
  have hsome : ∃ (i : Nat) (hi : i < ws.length) (hG : i < G.length), mnF M ws G = rm ws[i] G[i] := by
    rcases mnF_some M ws G with e | e
    · refine ⟨0, h0, hG0, ?_⟩
      rcases hM with e2 | ⟨_, e2⟩
      · omega
      · omega
    · exact e
  refine ⟨hD1, by omega, hDe, Pa_step hw h ht (by omega) hDe, Cb_step hc hD1 (fun k k0 k1 => Pa_lvl hw h ht hD1 hDe k0 k1), ?_⟩
  have hz := (zw_sum (mnF M ws G) ws G hGl.symm).2 (by
    obtain ⟨i, hi, hG, e⟩ := hsome
    refine ⟨i, hi, hG, ?_⟩
    rw [e]; unfold rm; omega)
  have hp := (pt_len out (lvl ws t, mnF M ws G)).1
  omega

end Go.Proofs.Ytillcmddbjhepaa
