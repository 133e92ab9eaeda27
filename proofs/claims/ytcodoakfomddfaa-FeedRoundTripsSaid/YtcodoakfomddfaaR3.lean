/-
  The ticks in ascending order, each once: what lies next behind a time. Mathematics, without the program.
-/
import Derived.Test.YtcodoakfomddfaaR1
import Derived.Lib.SlicesCompact
namespace Go.Proofs.Ytcodoakfomddfaa
open Go
set_option linter.unusedVariables false

/-- The ticks in ascending order. -/
def srt (zs : List Int) : List Int := zs.mergeSort fun x y => decide (x ≤ y)
theorem srt_len (zs : List Int) : (srt zs).length = zs.length := List.length_mergeSort _
theorem srt_asc (zs : List Int) : (srt zs).Pairwise (· ≤ ·) := by
  have h : ((srt zs).Pairwise fun x y => (decide (x ≤ y)) = true) := List.pairwise_mergeSort (le := fun x y : Int => decide (x ≤ y)) (fun a b c h1 h2 => by simp at *; omega) (fun a b => by simp; omega) zs
  exact h.imp fun hab => by simpa using hab
theorem srt_mem {zs : List Int} {x : Int} : x ∈ srt zs ↔ x ∈ zs := List.mem_mergeSort
/-- Each once. -/
def tks (zs : List Int) : List Int := Lib.compact (srt zs)
theorem cut_asc {d : Array Int} (hs : ∀ i j, i ≤ j → j < d.size → d[i]! ≤ d[j]!) : ∀ m, m ≤ d.size → (Lib.compactUpTo d m).Pairwise (· < ·) ∧ ∀ x, x ∈ Lib.compactUpTo d m ↔ ∃ j, j < m ∧ d[j]! = x
  | 0, _ => by
    refine ⟨by simp [Lib.compactUpTo], fun x => ?_⟩
    simp [Lib.compactUpTo]
  | m + 1, hm => by
    obtain ⟨h1, h2⟩ := cut_asc hs m (by omega)
    rw [Lib.compactUpTo_succ]
    by_cases hk : Lib.keeps d m = true
    · rw [if_pos hk]
      refine ⟨?_, fun x => ?_⟩
      · rw [List.pairwise_append]
        refine ⟨h1, by simp, fun a ha b hb => ?_⟩
        obtain ⟨j, hj, rfl⟩ := (h2 a).1 ha
        obtain rfl : b = d[m]! := by simpa using hb
        have hk' : m = 0 ∨ d[m]! ≠ d[m - 1]! := by simpa [Lib.keeps] using hk
        have e1 := hs j (m - 1) (by omega) (by omega)
        have e2 := hs (m - 1) m (by omega) (by omega)
        omega
      · rw [List.mem_append, h2]
        constructor
        · rintro (⟨j, hj, e⟩ | hx)
          · exact ⟨j, by omega, e⟩
          · exact ⟨m, by omega, by simpa using (Eq.symm (by simpa using hx))⟩
        · rintro ⟨j, hj, e⟩
          by_cases hjm : j = m
          · subst hjm; exact .inr (by simp [e])
          · exact .inl ⟨j, by omega, e⟩
    · rw [if_neg hk, List.append_nil]
      refine ⟨h1, fun x => ?_⟩
      have hk' : ¬ (m = 0 ∨ d[m]! ≠ d[m - 1]!) := by simpa [Lib.keeps] using hk
      rw [h2]
      constructor
      · rintro ⟨j, hj, e⟩; exact ⟨j, by omega, e⟩
      · rintro ⟨j, hj, e⟩
        by_cases hjm : j = m
        · subst hjm; exact ⟨j - 1, by omega, by omega⟩
        · exact ⟨j, by omega, e⟩
theorem tks_all (zs : List Int) : (tks zs).Pairwise (· < ·) ∧ ∀ x, x ∈ tks zs ↔ x ∈ zs := by
  have hs : ∀ i j, i ≤ j → j < (srt zs).toArray.size → (srt zs).toArray[i]! ≤ (srt zs).toArray[j]! := by
    intro i j hij hj
    have hj' : j < (srt zs).length := by simpa using hj
    rw [getElem!_pos _ i (by simp; omega), getElem!_pos _ j hj]
    by_cases e : i = j
    · subst e; exact Int.le_refl _
    · have := List.pairwise_iff_getElem.1 (srt_asc zs) i j (by omega) hj' (by omega)
      simpa using this
  obtain ⟨h1, h2⟩ := cut_asc hs (srt zs).length (by simp)
  refine ⟨h1, fun x => ?_⟩
  show x ∈ Lib.compactUpTo _ _ ↔ _
  rw [h2, ← srt_mem]
  constructor
  · rintro ⟨j, hj, e⟩
    rw [getElem!_pos _ j (by simpa using hj)] at e
    rw [← e]
    simp
  · intro hx
    obtain ⟨j, hj, e⟩ := List.getElem_of_mem hx
    exact ⟨j, hj, by rw [getElem!_pos _ j (by simpa using hj)]; simpa using e⟩
theorem tks_asc (zs : List Int) : (tks zs).Pairwise (· < ·) := (tks_all zs).1
theorem tks_mem {zs : List Int} {x : Int} : x ∈ tks zs ↔ x ∈ zs := (tks_all zs).2 x
theorem tks_le (zs : List Int) : (tks zs).Pairwise (· ≤ ·) := (tks_asc zs).imp fun h => by omega
theorem cut_len (d : Array Int) : ∀ m, (Lib.compactUpTo d m).length ≤ m
  | 0 => by simp [Lib.compactUpTo]
  | m + 1 => by
    rw [Lib.compactUpTo_succ, List.length_append]
    have := cut_len d m
    split <;> simp <;> omega
theorem tks_len (zs : List Int) : (tks zs).length ≤ zs.length := by
  have := cut_len (srt zs).toArray (srt zs).length
  rw [srt_len] at this
  unfold tks Lib.compact
  rw [srt_len]
  exact this
/-- Index i is the first behind the time f. -/
def bhd (T : List Int) (f : Int) (i : Nat) : Prop := (∀ j (hj : j < T.length), j < i → T[j] ≤ f) ∧ ∀ j (hj : j < T.length), i ≤ j → f < T[j]
theorem asc_at {T : List Int} (h : T.Pairwise (· < ·)) {i j : Nat} (hi : i < T.length) (hj : j < T.length) (hij : i < j) : T[i] < T[j] := List.pairwise_iff_getElem.1 h i j hi hj hij
theorem bhd_next {T : List Int} (h : T.Pairwise (· < ·)) {i : Nat} (hi : i < T.length) : bhd T T[i] (i + 1) := by
  refine ⟨fun j hj hji => ?_, fun j hj hij => asc_at h hi hj (by omega)⟩
  by_cases e : j = i
  · subst e; exact Int.le_refl _
  · have := asc_at h hj hi (by omega); omega
theorem cnt_first {T : List Int} (h : T.Pairwise (· < ·)) (f : Int) : T.countP (fun x => decide (x < f)) ≤ T.length ∧ (∀ j (hj : j < T.length), j < T.countP (fun x => decide (x < f)) → T[j] < f) ∧ ∀ j (hj : j < T.length), T.countP (fun x => decide (x < f)) ≤ j → f ≤ T[j] := by
  induction T with
  | nil => simp
  | cons a T ih =>
    rw [List.pairwise_cons] at h
    obtain ⟨h0, h1, h2⟩ := ih h.2
    rw [List.countP_cons]
    by_cases ha : a < f
    · rw [if_pos (by simpa using ha)]
      refine ⟨by simp; omega, fun j hj hjc => ?_, fun j hj hjc => ?_⟩
      · match j, hj, hjc with
        | 0, _, _ => exact ha
        | j + 1, hj, hjc => exact h1 j (by simpa using hj) (by omega)
      · match j, hj, hjc with
        | j + 1, hj, hjc => exact h2 j (by simpa using hj) (by omega)
    · rw [if_neg (by simpa using ha)]
      have hz : T.countP (fun x => decide (x < f)) = 0 := by
        rw [List.countP_eq_zero]
        intro x hx
        have := h.1 x hx
        simp; omega
      rw [hz]
      refine ⟨by simp, fun j hj hjc => by omega, fun j hj hjc => ?_⟩
      match j, hj with
      | 0, _ => show f ≤ a; omega
      | j + 1, hj => exact h2 j (by simpa using hj) (by omega)
theorem bhd_start {T : List Int} (h : T.Pairwise (· < ·)) (f : Int) : (T.contains f = true → T.countP (fun x => decide (x < f)) + 1 ≤ T.length ∧ bhd T f (T.countP (fun x => decide (x < f)) + 1)) ∧ (T.contains f = false → bhd T f (T.countP (fun x => decide (x < f)))) := by
  obtain ⟨h0, h1, h2⟩ := cnt_first h f
  generalize T.countP (fun x => decide (x < f)) = k at *
  constructor
  · intro hc
    have hm : f ∈ T := by simpa using hc
    obtain ⟨i, hi, e⟩ := List.getElem_of_mem hm
    have hik : i = k := by
      have a1 : ¬ i < k := fun hlt => by have := h1 i hi hlt; omega
      by_cases hlt : k < i
      · have e1 := h2 k (by omega) (Nat.le_refl _)
        have e2 := asc_at h (show k < T.length by omega) hi hlt
        omega
      · omega
    subst hik
    exact ⟨hi, by rw [← e]; exact bhd_next h hi⟩
  · intro hc
    have hm : f ∉ T := by simpa using hc
    refine ⟨fun j hj hlt => by have := h1 j hj hlt; omega, fun j hj hle => ?_⟩
    have e1 := h2 j hj hle
    have e2 : f ≠ T[j] := fun e => hm (by rw [e]; exact List.getElem_mem hj)
    omega
theorem nx_yes {zs : List Int} {f t : Int} {i : Nat} (hb : bhd (tks zs) f i) (hi : i < (tks zs).length) (ht : (tks zs)[i] < t) : nx zs f t = (tks zs)[i] ∧ nx zs f t < t := by
  obtain ⟨h1, h2, h3⟩ := nx_min zs f t
  have a1 := h3 _ (tks_mem.1 (List.getElem_mem hi)) (hb.2 i hi (Nat.le_refl _))
  rcases h2 with h2 | ⟨h2, h4⟩
  · omega
  obtain ⟨j, hj, e⟩ := List.getElem_of_mem (tks_mem.2 h2)
  have hij : i ≤ j := by
    by_cases hlt : j < i
    · have := hb.1 j hj hlt; omega
    · omega
  by_cases e2 : i = j
  · subst e2; omega
  · have := asc_at (tks_asc zs) hi hj (by omega)
    omega
theorem nx_no {zs : List Int} {f t : Int} {i : Nat} (hb : bhd (tks zs) f i) (h : ∀ hi : i < (tks zs).length, ¬ (tks zs)[i] < t) : ¬ nx zs f t < t := by
  intro hn
  obtain ⟨h2, h4⟩ := nx_in hn
  obtain ⟨j, hj, e⟩ := List.getElem_of_mem (tks_mem.2 h2)
  have hij : i ≤ j := by
    by_cases hlt : j < i
    · have := hb.1 j hj hlt; omega
    · omega
  have hi : i < (tks zs).length := by omega
  have := h hi
  by_cases e2 : i = j
  · subst e2; omega
  · have := asc_at (tks_asc zs) hi hj (by omega)
    omega

end Go.Proofs.Ytcodoakfomddfaa
