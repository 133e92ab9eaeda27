/-
  What the bulk of tokens that came in says of each one's text.
-/
import Derived.Test.YtpeiiomimfiebaaDoorP0
namespace Go.Proofs.YtpeiiomimfiebaaDoor
open Go Go.RowKit

theorem bulk_part {H : Type} {d : DataW H} {l : List (DataW H)} {i : Nat} (h : l[i]? = some d) : Rows.uptoBulk d ≤ Rows.uptoBulkAll l := by
  induction l generalizing i with
  | nil => simp at h
  | cons x r ih =>
    simp only [Rows.uptoBulkAll]
    cases i with
    | zero =>
      simp only [List.getElem?_cons_zero, Option.some.injEq] at h
      subst h
      omega
    | succ i =>
      simp only [List.getElem?_cons_succ] at h
      have := ih h
      omega
theorem toks_bulk {H : Type} {l : List Tok} {d : DataW H} (hd : l = [] ∨ ∃ es sp, d = .slice es sp ∧ es.length = l.length ∧ ∀ j (hj : j < l.length), ∃ ys, es[j]? = some (.agg ys) ∧ ys[1]? = some (.lit (.string l[j].t)))
    (hb : Rows.uptoBulk d ≤ 1048576) : ∀ t ∈ l, t.t.length ≤ 1048576 := by
  rcases hd with rfl | ⟨es, sp, rfl, hlen, hel⟩
  · simp
  · intro t hm
    obtain ⟨i, hi, rfl⟩ := List.mem_iff_getElem.1 hm
    obtain ⟨ys, h1, h2⟩ := hel i hi
    have a1 := bulk_part h1
    have a2 := bulk_part h2
    simp only [Rows.uptoBulk] at a1 a2 hb
    omega

end Go.Proofs.YtpeiiomimfiebaaDoor
