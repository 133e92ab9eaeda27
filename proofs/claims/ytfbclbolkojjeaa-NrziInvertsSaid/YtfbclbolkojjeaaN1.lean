/-
  Layer 16: which bits are accepted, what they give; the walks of AcceptsBit, Accepts, Start, End.
-/
import Derived.Test.YtfbclbolkojjeaaA6
import Derived.Test.YtfbclbolkojjeaaKP
import Derived.Test.YtfbclbolkojjeaaT2
namespace Go.Proofs.Ytfbclbolkojjeaa
open Go Go.RowKit Go.Joins
set_option linter.unusedVariables false
set_option linter.unusedSimpArgs false

/-- A bit that is accepted after one that began at q. -/
def AcP (q k f t v a : Int) (n : Nat) (u : Int) : Prop := VeP k f t v a n u ∧ k = 2 ∧ q ≤ f ∧ (v = 0 ∨ v = 1)
instance (q k f t v a : Int) (n : Nat) (u : Int) : Decidable (AcP q k f t v a n u) := by unfold AcP; exact inferInstance
abbrev AcE (q : Int) (e : Ev) : Prop := AcP q e.k e.f e.t e.v e.a e.d.length e.u
/-- The states: the program's keeps the last begin in From, the specification's in At. -/
abbrev stP (q p : Int) : Array Value := #[.int .i64 0, .int .i64 0, .int .i64 q, .int .i64 0, .int .i64 0, .int .i64 0, .int .i64 p, .string ⟨#[]⟩]
abbrev stR (q p : Int) : Array Value := #[.int .i64 0, .int .i64 q, .int .i64 0, .int .i64 0, .int .i64 0, .int .i64 0, .int .i64 p, .string ⟨#[]⟩]
/-- The value of a bit after another. -/
def nvI (z : Bool) (v p : Int) : Int := if (decide (v ≠ p)) ≠ z then 1 else 0
def nzE (z : Bool) (p : Int) (e : Ev) : Ev := ⟨2, e.f, e.t, nvI z e.v p, e.a, [], e.u⟩
structure NS where
  q : Int
  p : Int
  o : List Ev
def nzS (z : Bool) (s : NS) (e : Ev) : NS := if AcE s.q e then ⟨e.f, e.v, s.o ++ [nzE z s.p e]⟩ else s
def nzR (z : Bool) (l : List Ev) : NS := l.foldl (nzS z) ⟨0, 1, []⟩
theorem nzR_snoc (z : Bool) {l : List Ev} {j : Nat} (hj : j < l.length) : nzR z (l.take (j + 1)) = nzS z (nzR z (l.take j)) l[j] := by
  unfold nzR
  rw [List.take_succ_eq_append_getElem hj, List.foldl_append]
  rfl
theorem nzR_len (z : Bool) (l : List Ev) : (nzR z l).o.length ≤ l.length := by
  unfold nzR
  suffices h : ∀ (l : List Ev) (s : NS), (l.foldl (nzS z) s).o.length ≤ s.o.length + l.length by simpa using h l ⟨0, 1, []⟩
  intro l
  induction l with
  | nil => intro s; simp
  | cons e l ih =>
    intro s
    rw [List.foldl_cons]
    refine Nat.le_trans (ih _) ?_
    unfold nzS
    split <;> simp <;> omega

theorem acP_bool (q k f t v a : Int) (n : Nat) (u : Int) : decide (AcP q k f t v a n u) = (decide (VeP k f t v a n u) && (k == 2 && (decide (q ≤ f) && (v == 0 || v == 1)))) := by
  unfold AcP
  by_cases h1 : VeP k f t v a n u <;> by_cases h2 : k = 2 <;> by_cases h3 : q ≤ f <;> by_cases h4 : v = 0 <;> by_cases h5 : v = 1 <;> simp [h1, h2, h3, h4, h5]

set_option maxRecDepth 20000 in
set_option maxHeartbeats 4000000 in
theorem accepts_xy (q k f t v a : Int) (s : ByteArray) (u : Int) (w : World) (hs : s.size ≤ 140737488351232) : Calls Try.prog 68 #[.int .i64 q, .agg (evA k f t v a s u)] w fun e w' => e = .returned (.bool (decide (AcP q k f t v a s.size u))) ∧ Below w.heap.size w w' := by
  have HV := Lib.hid (fun W => valid_xy k f t v a s u W hs)
  rw [acP_bool]
  generalize decide (VeP k f t v a s.size u) = P at *
  go_enter Try.func68, Try.ntmps68
  go_wp2_with (go_at_call 89; go_must (refine (HV.out _).mono ?_; rintro e1 w1 ⟨rfl, rfl⟩))
  all_goals
    go_returns
    refine ⟨ret_bool ?_, ((Below.refl _ _).alloc (Nat.le_refl _) _).alloc (by rw [World.size_alloc]; omega) _⟩
    try simp only [decide_eq_true_eq, decide_eq_false_iff_not, beq_iff_eq, Bool.not_eq_true, bne_iff_ne, ne_eq] at *
    first | (simp_all; done) | (clear HV; simp_all; omega) | trace_state

set_option maxRecDepth 20000 in
set_option maxHeartbeats 4000000 in
theorem refAccepts_xy (q k f t v a : Int) (s : ByteArray) (u : Int) (w : World) (hs : s.size ≤ 140737488351232) : Calls Try.prog 69 #[.agg (evA k f t v a s u), .int .i64 q] w fun e w' => e = .returned (.bool (decide (AcP q k f t v a s.size u))) ∧ Below w.heap.size w w' := by
  have HV := Lib.hid (fun W => refValid_xy k f t v a s u W hs)
  rw [acP_bool]
  generalize decide (VeP k f t v a s.size u) = P at *
  go_enter Try.func69, Try.ntmps69
  go_wp2_with (go_at_call 86; go_must (refine (HV.out _).mono ?_; rintro e1 w1 ⟨rfl, rfl⟩))
  all_goals
    go_returns
    refine ⟨ret_bool ?_, ((Below.refl _ _).alloc (Nat.le_refl _) _).alloc (by rw [World.size_alloc]; omega) _⟩
    try simp only [decide_eq_true_eq, decide_eq_false_iff_not, beq_iff_eq, Bool.not_eq_true, bne_iff_ne, ne_eq] at *
    first | (simp_all; done) | (clear HV; simp_all; omega) | trace_state

theorem start_any (z : Bool) (w : World) : Calls Try.prog 34 #[.agg #[.bool z]] w fun e w' => e = .returned (.agg (stP 0 1)) ∧ Below w.heap.size w w' := by
  go_enter Try.func34, Try.ntmps34
  go_wp2
  go_returns
  exact ⟨rfl, by (repeat' (first | with_reducible exact Below.refl _ _ | with_reducible exact Nat.le_refl _ | with_reducible assumption | with_reducible refine below_drewN ?_ _ | with_reducible refine Below.drew ?_ | with_reducible refine Below.trans ?_ (Below.mono (by assumption) ?_) | with_reducible refine Below.alloc ?_ ?_ _ | with_reducible refine Below.setCell ?_ ?_ _ | with_reducible refine le_setCell ?_ _ _ | with_reducible refine le_alloc ?_ _ | with_reducible refine le_drewN ?_ _ | with_reducible refine le_drew ?_ | with_reducible refine Nat.le_trans ?_ (Below.size (by assumption)) | (simp only [World.size_alloc, World.size_setCell]; omega)))⟩
theorem refStart_any (z : Bool) (w : World) : Calls Try.prog 35 #[.agg #[.bool z]] w fun e w' => e = .returned (.agg (stR 0 1)) ∧ Below w.heap.size w w' := by
  go_enter Try.func35, Try.ntmps35
  go_wp2
  go_returns
  exact ⟨rfl, by (repeat' (first | with_reducible exact Below.refl _ _ | with_reducible exact Nat.le_refl _ | with_reducible assumption | with_reducible refine below_drewN ?_ _ | with_reducible refine Below.drew ?_ | with_reducible refine Below.trans ?_ (Below.mono (by assumption) ?_) | with_reducible refine Below.alloc ?_ ?_ _ | with_reducible refine Below.setCell ?_ ?_ _ | with_reducible refine le_setCell ?_ _ _ | with_reducible refine le_alloc ?_ _ | with_reducible refine le_drewN ?_ _ | with_reducible refine le_drew ?_ | with_reducible refine Nat.le_trans ?_ (Below.size (by assumption)) | (simp only [World.size_alloc, World.size_setCell]; omega)))⟩
theorem end_any (z : Bool) (q p : Int) (w : World) : Calls Try.prog 39 #[.agg #[.bool z], .agg (stP q p)] w fun e w' => e = .returned (.slice none 0 0) ∧ Below w.heap.size w w' := by
  go_enter Try.func39, Try.ntmps39
  go_wp2
  go_returns
  exact ⟨rfl, by (repeat' (first | with_reducible exact Below.refl _ _ | with_reducible exact Nat.le_refl _ | with_reducible assumption | with_reducible refine below_drewN ?_ _ | with_reducible refine Below.drew ?_ | with_reducible refine Below.trans ?_ (Below.mono (by assumption) ?_) | with_reducible refine Below.alloc ?_ ?_ _ | with_reducible refine Below.setCell ?_ ?_ _ | with_reducible refine le_setCell ?_ _ _ | with_reducible refine le_alloc ?_ _ | with_reducible refine le_drewN ?_ _ | with_reducible refine le_drew ?_ | with_reducible refine Nat.le_trans ?_ (Below.size (by assumption)) | (simp only [World.size_alloc, World.size_setCell]; omega)))⟩
theorem refEnd_any (z : Bool) (q p : Int) (w : World) : Calls Try.prog 40 #[.agg #[.bool z], .agg (stR q p)] w fun e w' => e = .returned (.slice none 0 0) ∧ Below w.heap.size w w' := by
  go_enter Try.func40, Try.ntmps40
  go_wp2
  go_returns
  exact ⟨rfl, by (repeat' (first | with_reducible exact Below.refl _ _ | with_reducible exact Nat.le_refl _ | with_reducible assumption | with_reducible refine below_drewN ?_ _ | with_reducible refine Below.drew ?_ | with_reducible refine Below.trans ?_ (Below.mono (by assumption) ?_) | with_reducible refine Below.alloc ?_ ?_ _ | with_reducible refine Below.setCell ?_ ?_ _ | with_reducible refine le_setCell ?_ _ _ | with_reducible refine le_alloc ?_ _ | with_reducible refine le_drewN ?_ _ | with_reducible refine le_drew ?_ | with_reducible refine Nat.le_trans ?_ (Below.size (by assumption)) | (simp only [World.size_alloc, World.size_setCell]; omega)))⟩

end Go.Proofs.Ytfbclbolkojjeaa
