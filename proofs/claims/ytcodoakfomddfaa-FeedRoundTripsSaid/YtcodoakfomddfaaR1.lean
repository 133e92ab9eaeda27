/-
  An event divided at ticks: the mathematics, without the program.
-/
import Derived.Test.YtcodoakfomddfaaT11
import Derived.Test.YtcodoakfomddfaaT4
namespace Go.Proofs.Ytcodoakfomddfaa
open Go
set_option linter.unusedVariables false

/-- How many ticks lie between f and t. -/
def cnt (l : List Int) (f t : Int) : Nat := (l.filter fun x => decide (f < x ∧ x < t)).length
theorem cnt_lt {l : List Int} {f c t : Int} (hc : c ∈ l) (h1 : f < c) (h2 : c < t) : cnt l c t < cnt l f t := by
  unfold cnt
  induction l with
  | nil => cases hc
  | cons a l ih =>
    have hle : ∀ l : List Int, (l.filter fun x => decide (c < x ∧ x < t)).length ≤ (l.filter fun x => decide (f < x ∧ x < t)).length := by
      intro l
      induction l with
      | nil => simp
      | cons b l ih =>
        simp only [List.filter_cons]
        by_cases hb : c < b ∧ b < t
        · rw [if_pos (decide_eq_true hb), if_pos (decide_eq_true ⟨by omega, hb.2⟩)]
          simp only [List.length_cons]; omega
        · rw [if_neg (by simpa using hb)]
          split
          · simp only [List.length_cons]; omega
          · exact ih
    simp only [List.filter_cons]
    rcases List.mem_cons.1 hc with e | e
    · subst e
      rw [if_neg (by simp), if_pos (decide_eq_true ⟨h1, h2⟩)]
      have := hle l
      simp only [List.length_cons]; omega
    · have := ih e
      by_cases hb : c < a ∧ a < t
      · rw [if_pos (decide_eq_true hb), if_pos (decide_eq_true ⟨by omega, hb.2⟩)]
        simp only [List.length_cons]; omega
      · rw [if_neg (by simpa using hb)]
        split
        · simp only [List.length_cons]; omega
        · exact this
theorem nx_in {l : List Int} {f t : Int} (h : nx l f t < t) : nx l f t ∈ l ∧ f < nx l f t := by
  rcases (nx_min l f t).2.1 with e | e
  · omega
  · exact e
/-- The parts of the time from f to t. -/
def pc (l : List Int) (f t : Int) : List (Int × Int) :=
  if h : nx l f t < t then (f, nx l f t) :: pc l (nx l f t) t else [(f, t)]
termination_by cnt l f t
decreasing_by exact cnt_lt (nx_in h).1 (nx_in h).2 h
theorem pc_yes {l : List Int} {f t : Int} (h : nx l f t < t) : pc l f t = (f, nx l f t) :: pc l (nx l f t) t := by
  rw [pc, dif_pos h]
theorem pc_no {l : List Int} {f t : Int} (h : ¬ nx l f t < t) : pc l f t = [(f, t)] := by
  rw [pc, dif_neg h]
theorem cnt_le (l : List Int) (f t : Int) : cnt l f t ≤ l.length := List.length_filter_le _ _
theorem pc_len (l : List Int) (t : Int) : ∀ (n : Nat) (f : Int), cnt l f t ≤ n → (pc l f t).length ≤ n + 1
  | n, f, hn => by
    by_cases h : nx l f t < t
    · have hl := cnt_lt (nx_in h).1 (nx_in h).2 h
      rw [pc_yes h, List.length_cons]
      match n, hn with
      | 0, hn => omega
      | n + 1, hn => have := pc_len l t n (nx l f t) (by omega); omega
    · rw [pc_no h]; simp
/-- An event's parts; any other event as it is. -/
def spE (l : List Int) (e : Ev) : List Ev := if plE e = true then (pc l e.f e.t).map fun p => { e with f := p.1, t := p.2 } else [e]
def spl (l : List Int) (es : List Ev) : List Ev := es.flatMap (spE l)
theorem spl_take {l : List Int} {es : List Ev} {j : Nat} (hj : j < es.length) : spl l (es.take (j + 1)) = spl l (es.take j) ++ spE l es[j] := by
  unfold spl
  rw [List.take_succ_eq_append_getElem hj, List.flatMap_append]
  simp
theorem spE_len (l : List Int) (e : Ev) : (spE l e).length ≤ l.length + 1 := by
  unfold spE
  split
  · rw [List.length_map]
    exact pc_len l e.t l.length e.f (cnt_le _ _ _)
  · simp

end Go.Proofs.Ytcodoakfomddfaa
