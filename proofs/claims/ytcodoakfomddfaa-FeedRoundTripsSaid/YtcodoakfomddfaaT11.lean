/-
  The specification's next: the least of some ticks between two.
-/
import Derived.Test.YtcodoakfomddfaaT8
namespace Go.Proofs.Ytcodoakfomddfaa
open Go Go.RowKit Go.Joins
set_option linter.unusedVariables false
set_option linter.unusedSimpArgs false

def tkC (x : Int) : Array Value := #[.int .i64 x]
theorem tkC_size (x : Int) : (tkC x).size = 1 := rfl
abbrev TkRow (w : World) (B : Nat) (v : Value) (l : List Int) : Prop := KRow tkC 1 3 w B v l
abbrev TkArg (w : World) (v : Value) (l : List Int) : Prop := KArg tkC 1 w v l
theorem arg_tk {w : World} {g o : Nat} {l : List Int} (h : ∀ j (hj : j < l.length) i, i < 1 → w.cell? ⟨g, o + j * 1 + i, none⟩ = (tkC l[j])[i]?) (j : Nat) (hj : j < l.length) : w.cell? ⟨g, o + j, none⟩ = some (.int .i64 l[j]) := by
  have := h j hj 0 (by omega)
  simpa [tkC] using this

/-- The least of the ticks that are greater than f and less than t; t without one. -/
def nx1 (f b x : Int) : Int := if f < x ∧ x < b then x else b
def nx (l : List Int) (f t : Int) : Int := l.foldl (nx1 f) t
theorem nx_take {l : List Int} {j : Nat} (hj : j < l.length) (f t : Int) : nx (l.take (j + 1)) f t = nx1 f (nx (l.take j) f t) l[j] := by
  unfold nx
  rw [List.take_succ_eq_append_getElem hj, List.foldl_append]
  rfl
theorem nx_min (l : List Int) (f t : Int) : nx l f t ≤ t ∧ (nx l f t = t ∨ (nx l f t ∈ l ∧ f < nx l f t)) ∧ ∀ x ∈ l, f < x → nx l f t ≤ x := by
  unfold nx
  induction l generalizing t with
  | nil => exact ⟨Int.le_refl _, .inl rfl, fun x h => by cases h⟩
  | cons a l ih =>
    simp only [List.foldl_cons]
    obtain ⟨h1, h2, h3⟩ := ih (nx1 f t a)
    generalize List.foldl (nx1 f) (nx1 f t a) l = r at *
    have hb : nx1 f t a = t ∧ (a ≤ f ∨ t ≤ a) ∨ nx1 f t a = a ∧ f < a ∧ a < t := by
      unfold nx1
      by_cases h : f < a ∧ a < t
      · rw [if_pos h]; exact .inr ⟨rfl, h⟩
      · rw [if_neg h]; exact .inl ⟨rfl, by omega⟩
    refine ⟨by omega, ?_, ?_⟩
    · rcases h2 with h2 | ⟨h2, h4⟩
      · rcases hb with ⟨e, _⟩ | ⟨e, e1, e2⟩
        · exact .inl (by omega)
        · exact .inr ⟨by rw [h2, e]; simp, by omega⟩
      · exact .inr ⟨List.mem_cons_of_mem _ h2, h4⟩
    · intro x hx hf
      rcases List.mem_cons.1 hx with rfl | hx
      · omega
      · exact h3 x hx hf

set_option maxRecDepth 20000 in
set_option maxHeartbeats 2000000 in
theorem refNext_any (l : List Int) (v : Value) (f t : Int) (w : World) (hT : TkArg w v l) (hn : l.length ≤ 1099511627776) : Calls Try.prog 38 #[v, .int .i64 f, .int .i64 t] w fun e w' => e = .returned (.int .i64 (nx l f t)) ∧ w = w' := by
  obtain ⟨A, c, rfl, hA⟩ := hT
  have HA := Lib.hid hA
  clear hA
  go_enter Try.func38, Try.ntmps38
  go_wp2
  go_loop [8, 7] (fun i x => ∃ j : Nat, j ≤ l.length ∧ i = .int .i64 j ∧ x = .int .i64 (nx (l.take j) f t)) (fun i _ => l.length - (intOf i).toNat)
  case atStart => exact ⟨0, Nat.zero_le _, rfl, rfl⟩
  case round =>
    obtain ⟨j, hj, rfl, rfl⟩ := hrel
    by_cases hjl : j < l.length
    · obtain ⟨g, o, rfl, hg, hcell⟩ := HA.out (by omega)
      have f0 := arg_tk hcell j hjl
      have HN := nx_take hjl f t
      clear hcell
      generalize l[j] = x at *
      generalize nx (l.take j) f t = b at *
      have HNN := Lib.hid HN
      clear HN
      by_cases h1 : f < x
      · by_cases h2 : x < b
        · have HX : Hid (nx (l.take (j + 1)) f t = x) := Lib.hid (by rw [HNN.out]; unfold nx1; rw [if_pos ⟨h1, h2⟩])
          go_wp2
          go_round
          case rel => exact ⟨j + 1, by omega, val_int (by omega), val_int HX.out.symm⟩
          case measure => simp [intOf]; omega
        · have HX : Hid (nx (l.take (j + 1)) f t = b) := Lib.hid (by rw [HNN.out]; unfold nx1; rw [if_neg (fun h => h2 h.2)])
          go_wp2
          go_round
          case rel => exact ⟨j + 1, by omega, val_int (by omega), val_int HX.out.symm⟩
          case measure => simp [intOf]; omega
      · have HX : Hid (nx (l.take (j + 1)) f t = b) := Lib.hid (by rw [HNN.out]; unfold nx1; rw [if_neg (fun h => h1 h.1)])
        go_wp2
        go_round
        case rel => exact ⟨j + 1, by omega, val_int (by omega), val_int HX.out.symm⟩
        case measure => simp [intOf]; omega
    · have he : l.take j = l := List.take_of_length_le (by omega)
      rw [he]
      go_wp2
      go_returns
      exact ⟨rfl, rfl⟩

end Go.Proofs.Ytcodoakfomddfaa
