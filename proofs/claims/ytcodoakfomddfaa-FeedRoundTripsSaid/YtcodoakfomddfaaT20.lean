/-
  The walk of the program's Split.
-/
import Derived.Test.YtcodoakfomddfaaT19
namespace Go.Proofs.Ytcodoakfomddfaa
open Go Go.RowKit Go.Joins Go.Shelf
set_option linter.unusedVariables false
set_option linter.unusedSimpArgs false

attribute [local go_sem] Oper.semAt_some

theorem compact_any (v : Value) (zs : List Int) (B : Nat) (W : World) (h : TkRow W B v (srt zs)) (hn : zs.length ≤ 1099511627776) :
    Calls Try.prog 33 #[v] W fun e W' => ∃ v', e = .returned v' ∧ TkRow W' B v' (tks zs) ∧ Below B W W' := by
  by_cases h0 : 0 < (srt zs).length
  · obtain ⟨g, c, rfl⟩ := h.full h0
    have hl := srt_len zs
    refine (Try.slices_Compact_int g 0 c (srt zs) W h.holds (by omega) h.len.2.1).mono ?_
    rintro e W' ⟨rfl, q, rfl⟩
    have hc : (Lib.compact (srt zs)).length ≤ (srt zs).length := by have := tks_len zs; unfold tks at this; omega
    have h2 := TkRow.sorted (q := q) (os := #[]) (ts := Lib.compact (srt zs) ++ List.replicate ((srt zs).length - (Lib.compact (srt zs)).length) 0) h (by rw [List.length_append, List.length_replicate]; omega)
    rw [Sort.grow_empty] at h2
    refine ⟨_, rfl, ?_, h2.2⟩
    have h3 := KRow.first (n := (Lib.compact (srt zs)).length) tkC_size h2.1 (by rw [List.length_append]; omega)
    rw [List.take_left'] at h3
    · exact h3
    · rfl
  · have e0 : srt zs = [] := List.eq_nil_of_length_eq_zero (by omega)
    obtain ⟨A, N, c, rfl, hN⟩ := h.form
    rw [e0] at hN
    obtain rfl : N = 0 := hN
    refine (Try.slices_Compact_int_empty A c W).mono ?_
    rintro e W' ⟨rfl, rfl⟩
    refine ⟨_, rfl, ?_, Below.refl _ _⟩
    have : tks zs = [] := by unfold tks; rw [e0]; rfl
    rw [this, ← e0]
    exact h

end Go.Proofs.Ytcodoakfomddfaa
