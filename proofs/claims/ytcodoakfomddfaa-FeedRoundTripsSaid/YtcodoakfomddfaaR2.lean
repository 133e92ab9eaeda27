/-
  Names that occur twice: by their places, the mathematics, without the program.
-/
import Derived.Test.YtcodoakfomddfaaT9
import Derived.Test.YtcodoakfomddfaaT10
namespace Go.Proofs.Ytcodoakfomddfaa
open Go
set_option linter.unusedVariables false

theorem ixF_first (l : List ByteArray) (s : ByteArray) (k : Nat) :
    (ixF l s k = -1 ∧ ∀ x ∈ l, x.data.toList ≠ s.data.toList) ∨ ∃ a x b, l = a ++ x :: b ∧ ixF l s k = ((k + a.length : Nat) : Int) ∧ x.data.toList = s.data.toList ∧ ∀ y ∈ a, y.data.toList ≠ s.data.toList := by
  induction l generalizing k with
  | nil => exact .inl ⟨rfl, fun x h => by cases h⟩
  | cons y l ih =>
    unfold ixF
    by_cases h : y.data.toList = s.data.toList
    · rw [if_pos h]
      exact .inr ⟨[], y, l, rfl, by simp, h, fun z hz => by cases hz⟩
    · rw [if_neg h]
      rcases ih (k + 1) with ⟨e, h2⟩ | ⟨a, x, b, e, e2, e3, e4⟩
      · refine .inl ⟨e, fun x hx => ?_⟩
        rcases List.mem_cons.1 hx with rfl | hx
        · exact h
        · exact h2 x hx
      · refine .inr ⟨y :: a, x, b, by rw [e]; rfl, by rw [e2]; simp only [List.length_cons]; omega, e3, fun z hz => ?_⟩
        rcases List.mem_cons.1 hz with rfl | hz
        · exact h
        · exact e4 z hz
/-- The element at a name's place bears this name. -/
theorem ix_at {N : List ByteArray} {s : ByteArray} (h : 0 ≤ ix N s) : ∃ x, N[(ix N s).toNat]? = some x ∧ x.data.toList = s.data.toList := by
  rcases ixF_first N s 0 with ⟨e, _⟩ | ⟨a, x, b, e, e2, e3, _⟩
  · exfalso; unfold ix at h; omega
  · refine ⟨x, ?_, e3⟩
    have : (ix N s).toNat = a.length := by unfold ix; omega
    rw [this, e]
    simp
theorem ix_same {N : List ByteArray} {s t : ByteArray} (h : s.data.toList = t.data.toList) : ix N s = ix N t := by
  unfold ix
  generalize (0 : Nat) = k
  induction N generalizing k with
  | nil => rfl
  | cons x l ih => unfold ixF; rw [h, ih]
theorem ix_inj {N : List ByteArray} {s t : ByteArray} (h1 : 0 ≤ ix N s) (h2 : ix N s = ix N t) : s.data.toList = t.data.toList := by
  obtain ⟨x, e1, e2⟩ := ix_at h1
  obtain ⟨y, e3, e4⟩ := ix_at (h2 ▸ h1 : 0 ≤ ix N t)
  rw [← h2, e1] at e3
  rw [← e2, ← e4, Option.some.inj e3]
/-- A name has occurred among the first j exactly if its place among the names is less than j. -/
theorem ix_before {l : List ByteArray} {j : Nat} (hj : j < l.length) : ix l l[j] < j ↔ ∃ x ∈ l.take j, x.data.toList = l[j].data.toList := by
  rcases ixF_first l l[j] 0 with ⟨e, h⟩ | ⟨a, x, b, e, e2, e3, e4⟩
  · exact absurd rfl (h _ (List.getElem_mem hj))
  · have hi : ix l l[j] = (a.length : Int) := by unfold ix; rw [e2]; simp
    rw [hi]
    constructor
    · intro h
      refine ⟨x, ?_, e3⟩
      have hx : ∀ m, a.length < m → x ∈ (a ++ x :: b).take m := fun m hm => by
        rw [List.take_append, List.mem_append]
        right
        obtain ⟨q, hq⟩ : ∃ q, m - a.length = q + 1 := ⟨m - a.length - 1, by omega⟩
        rw [hq]
        simp
      rw [e]
      exact hx j (by omega)
    · rintro ⟨y, hy, hy2⟩
      by_cases hc : a.length < j
      · omega
      · exfalso
        refine e4 y ?_ hy2
        have : l.take j = a.take j := by rw [e, List.take_append_of_le_length (by omega)]
        rw [this] at hy
        exact List.mem_of_mem_take hy
/-- The program's word for a name that occurs twice, and the specification's. -/
theorem twice_iff {N names : List ByteArray} {j : Nat} (hj : j < names.length) (h : 0 ≤ ix N names[j]) (hall : ∀ s ∈ names.take j, 0 ≤ ix N s) : (ix N names[j]).toNat ∈ plN N (names.take j) ↔ ix names names[j] < j := by
  rw [ix_before hj]
  unfold plN
  rw [List.mem_map]
  constructor
  · rintro ⟨s, hs, e⟩
    have := hall s hs
    exact ⟨s, hs, ix_inj this (by omega)⟩
  · rintro ⟨s, hs, e⟩
    exact ⟨s, hs, by rw [ix_same e]⟩

end Go.Proofs.Ytcodoakfomddfaa
