/-
  What Text and Tokens make of one another's answers.
-/
import Derived.Test.YtpeiiomimfiebaaDoorW23
namespace Go.Proofs.YtpeiiomimfiebaaDoor
open Go Go.RowKit
set_option linter.unusedVariables false
set_option linter.unusedSimpArgs false

theorem vd_range {t : Tok} (h : vd t = true) : -9007199254740992 ≤ t.v ∧ t.v ≤ 9007199254740992 := by
  unfold vd at h
  split at h
  · have h3 : numV t.t = t.v := by simp at h; exact h.2
    have := numV_range t.t
    omega
  · have h3 : t.v = 0 := by simp at h; exact h.1
    omega
theorem wr_nrm (t : Tok) : wr (nrm t 1) = wr t := by
  unfold wr nrm
  simp only
  by_cases h2 : t.k = 2
  · rw [if_pos h2, if_pos h2]
  · rw [if_neg h2, if_neg h2, if_neg h2]
theorem vd_nrm {t : Tok} (h : vd t = true) : vd (nrm t 1) = true := by
  have hr := vd_range h
  unfold vd nrm at *
  simp only
  by_cases h2 : t.k = 2
  · rw [if_pos h2, if_pos h2]
    obtain ⟨a, b⟩ := itoa_num t.v hr.1 hr.2
    simp [a, b]
  · rw [if_neg h2] at h
    rw [if_neg h2, if_neg h2]; exact h
theorem jn_nrm (l : List Tok) : jn (l.map fun t => nrm t 1) = jn l := by
  unfold jn jb
  congr 1
  induction l with
  | nil => rfl
  | cons t l ih => rw [List.map_cons, List.flatMap_cons, List.flatMap_cons, ih, wr_nrm]
theorem tx_cases (l : List Tok) : ((tx l).1 = [] ∧ ((tx l).2 = 1 ∨ (tx l).2 = 6)) ∨ (l.all vd = true ∧ (jn l).length ≤ 1048576 ∧ tx l = (jn l, 0)) := by
  unfold tx
  by_cases hb : l.all vd = true
  · rw [if_pos hb]
    by_cases h : 1048576 < (jn l).length
    · rw [if_pos h]; exact .inl ⟨rfl, .inr rfl⟩
    · rw [if_neg h]; exact .inr ⟨hb, by omega, rfl⟩
  · rw [if_neg hb]; exact .inl ⟨rfl, .inl rfl⟩
theorem tx_back (l : List Tok) (h : l.all vd = true) (hl : (jn l).length ≤ 1048576) : ans (jn l) = (l.map (fun t => nrm t 1), 0, 0) ∧ tx (l.map fun t => nrm t 1) = (jn l, 0) := by
  have hv : ∀ t ∈ l, vd t = true := List.all_eq_true.1 h
  constructor
  · unfold ans
    rw [if_neg (by omega), lx_jn l 1 hv]; rfl
  · have : (l.map fun t => nrm t 1).all vd = true := by
      rw [List.all_eq_true]
      intro t ht
      obtain ⟨u, hu, rfl⟩ := List.mem_map.1 ht
      exact vd_nrm (hv u hu)
    unfold tx
    rw [if_pos this, jn_nrm, if_neg (by omega)]
theorem nrm_bounds (l : List Tok) (h : l.all vd = true) (hs : ∀ t ∈ l, t.t.length ≤ 140737488351232 ∧ -9223372036854775808 ≤ t.v ∧ t.v ≤ 9223372036854775807) :
    ∀ t ∈ l.map (fun t => nrm t 1), t.t.length ≤ 140737488351232 ∧ -9223372036854775808 ≤ t.v ∧ t.v ≤ 9223372036854775807 := by
  intro t ht
  obtain ⟨u, hu, rfl⟩ := List.mem_map.1 ht
  have hr := vd_range (List.all_eq_true.1 h u hu)
  have h1 := num_short _ (itoa_num u.v hr.1 hr.2).2
  have h2 := hs u hu
  unfold nrm
  simp only
  refine ⟨?_, h2.2⟩
  split
  · omega
  · exact h2.1

end Go.Proofs.YtpeiiomimfiebaaDoor
