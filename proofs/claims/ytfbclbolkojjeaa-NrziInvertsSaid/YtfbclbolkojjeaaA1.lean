/-
  Events as the model holds them; the walks of moderate, Valid and Core, the program's and the specification's, and of the specification's Less.
-/
import Derived.Test.YtfbclbolkojjeaaE1
import Derived.Test.YtfbclbolkojjeaaK1
import Derived.Deep.RegionHeld3
namespace Go.Proofs.Ytfbclbolkojjeaa
open Go Go.RowKit Go.Joins
set_option linter.unusedVariables false
set_option linter.unusedSimpArgs false

abbrev evA (k f t v a : Int) (s : ByteArray) (u : Int) : Array Value := #[.int .i64 k, .int .i64 f, .int .i64 t, .int .i64 v, .int .i64 a, .string s, .int .i64 u]
def evC (e : Ev) : Array Value := #[.int .i64 e.k, .int .i64 e.f, .int .i64 e.t, .int .i64 e.v, .int .i64 e.a, .string ⟨e.d.toArray⟩, .int .i64 e.u]
def evV (e : Ev) : Value := .agg (evC e)
theorem evC_size (e : Ev) : (evC e).size = 7 := rfl
abbrev EvRow (w : World) (B : Nat) (v : Value) (l : List Ev) : Prop := KRow evC 7 44 w B v l
abbrev EvArg (w : World) (v : Value) (l : List Ev) : Prop := KArg evC 7 w v l
instance : Inhabited Ev := ⟨⟨0, 0, 0, 0, 0, [], 0⟩⟩

theorem ev_info : (Try.prog.info? 44).map (fun i => (i.zero, i.size, i.bytes)) = some (some (.agg #[.int .i64 0, .int .i64 0, .int .i64 0, .int .i64 0, .int .i64 0, .string ⟨#[]⟩, .int .i64 0]), 7, 64) := by kernel_rfl

set_option maxHeartbeats 1000000 in
theorem moderate_x (n : Int) (w : World) : Calls Try.prog 101 #[.int .i64 n] w fun e w' => e = .returned (.bool (decide (-9007199254740992 ≤ n ∧ n ≤ 9007199254740992))) ∧ w' = w := by
  go_enter Try.func101, Try.ntmps101
  go_wp2
  all_goals
    go_returns
    exact ⟨ret_bool (by first | rfl | (simp; omega) | (simp [*]; done)), rfl⟩

def VeP (k f t v a : Int) (n : Nat) (u : Int) : Prop := 1 ≤ k ∧ k ≤ 8 ∧ 0 ≤ f ∧ f ≤ t ∧ t ≤ 1099511627776 ∧ n ≤ 4096 ∧ 0 ≤ u ∧ u ≤ 12 ∧
    -9007199254740992 ≤ v ∧ v ≤ 9007199254740992 ∧ -9007199254740992 ≤ a ∧ a ≤ 9007199254740992
instance (k f t v a : Int) (n : Nat) (u : Int) : Decidable (VeP k f t v a n u) := by unfold VeP; exact inferInstance
set_option maxRecDepth 20000 in
set_option maxHeartbeats 2000000 in
theorem valid_xy (k f t v a : Int) (s : ByteArray) (u : Int) (w : World) (hs : s.size ≤ 140737488351232) : Calls Try.prog 89 #[.agg (evA k f t v a s u)] w fun e w' => e = .returned (.bool (decide (VeP k f t v a s.size u))) ∧ w' = w.alloc (.cells (evA k f t v a s u) 44) := by
  have hs' : (s.size : Int) ≤ 140737488351232 := by omega
  have CM := Lib.hid moderate_x
  go_enter Try.func89, Try.ntmps89
  go_wp2_with (go_at_call 101; go_must (refine (CM.out _ _).mono ?_; rintro e1 w1 ⟨rfl, rfl⟩))
  all_goals
    go_returns
    refine ⟨ret_bool ?_, rfl⟩
    try simp only [decide_eq_true_eq, decide_eq_false_iff_not, beq_iff_eq, Bool.not_eq_true, bne_iff_ne, ne_eq] at *
    first | (symm; rw [decide_eq_false_iff_not]; unfold VeP; omega) | (symm; rw [decide_eq_true_eq]; unfold VeP; omega) | (rw [decide_eq_decide]; unfold VeP; omega) | trace_state
set_option maxRecDepth 20000 in
set_option maxHeartbeats 2000000 in
theorem refValid_xy (k f t v a : Int) (s : ByteArray) (u : Int) (w : World) (hs : s.size ≤ 140737488351232) : Calls Try.prog 86 #[.agg (evA k f t v a s u)] w fun e w' => e = .returned (.bool (decide (VeP k f t v a s.size u))) ∧ w' = w.alloc (.cells (evA k f t v a s u) 44) := by
  have hs' : (s.size : Int) ≤ 140737488351232 := by omega
  have CM := Lib.hid moderate_x
  go_enter Try.func86, Try.ntmps86
  go_wp2_with (go_at_call 101; go_must (refine (CM.out _ _).mono ?_; rintro e1 w1 ⟨rfl, rfl⟩))
  all_goals
    go_returns
    refine ⟨ret_bool ?_, rfl⟩
    try simp only [decide_eq_true_eq, decide_eq_false_iff_not, beq_iff_eq, Bool.not_eq_true, bne_iff_ne, ne_eq] at *
    first | (symm; rw [decide_eq_false_iff_not]; unfold VeP; omega) | (symm; rw [decide_eq_true_eq]; unfold VeP; omega) | (rw [decide_eq_decide]; unfold VeP; omega) | trace_state

end Go.Proofs.Ytfbclbolkojjeaa
