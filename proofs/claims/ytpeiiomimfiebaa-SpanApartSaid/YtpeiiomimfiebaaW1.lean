/-
  The walks of Valid, Common, Meets, contains: the program's and the specification's; spans as the model holds them.
-/
import Derived.Test.YtpeiiomimfiebaaM2
import Derived.Test.YtpeiiomimfiebaaS0
namespace Go.Proofs.Ytpeiiomimfiebaa
open Go Go.RowKit Go.Joins
set_option linter.unusedVariables false
set_option linter.unusedSimpArgs false

def spC (s : Sp) : Array Value := #[.int .i64 s.1, .int .i64 s.2]
def spV (s : Sp) : Value := .agg (spC s)
theorem spC_size (s : Sp) : (spC s).size = 2 := rfl
abbrev SpRow (w : World) (B : Nat) (v : Value) (l : List Sp) : Prop := KRow spC 2 23 w B v l
abbrev SpArg (w : World) (v : Value) (l : List Sp) : Prop := KArg spC 2 w v l

theorem span_info : (Try.prog.info? 23).map (fun i => (i.zero, i.size, i.bytes)) = some (some (.agg #[.int .i64 0, .int .i64 0]), 2, 16) := by kernel_rfl
/-- A span appended, out of its literal. -/
theorem wpList_append_sp {w : World} {ops : Array Oper} {rest : List Oper} {o : Oper} {a : Act} {Q : Exit → Act → World → Prop} (hgd : o.guard = none) (s x : Operand)
    (ho : o.op = .call { callee := .builtin .append, args := #[s, x], argTypes := #[29, 29] })
    {B c : Nat} {v : Value} {l : List Sp} {g : Nat} (t : Sp) {ya : Array Value} (hya : ya = spC t) (hs : a.eval s = v) (hx : a.eval x = .slice (some ⟨g, 0, none⟩) 1 c) (hg : g = w.heap.size) (hf : SpRow w B v l) (hB : B ≤ w.heap.size) (hn : l.length + 1 ≤ 4398046511104)
    (h : ∀ v' w', SpRow w' B v' (l ++ [t]) → Below B w w' → wpList Try.prog ops Q rest (a.put o.dst v') w') : wpList Try.prog ops Q (o :: rest) a (w.alloc (.cells ya 23)) :=
  wpList_append_k (P := Try.prog) Try.underlying29 span_info rfl (by omega) spC_size hgd s x ho t hya hs hx hg hf hB (by subst hya; rfl) (by omega) (by omega) h

set_option maxHeartbeats 1000000 in
theorem valid_xy (a b : Int) (w : World) : Calls Try.prog 12 #[.agg #[.int .i64 a, .int .i64 b]] w fun e w' => e = .returned (.bool (vl (a, b))) ∧ w' = w.alloc (.cells #[.int .i64 a, .int .i64 b] 23) := by
  go_enter Try.func12, Try.ntmps12
  go_wp2
  all_goals
    go_returns
    exact ⟨ret_bool (by unfold vl; first | rfl | (simp; omega) | (simp [*]; done)), rfl⟩
set_option maxHeartbeats 1000000 in
theorem refValid_xy (a b : Int) (w : World) : Calls Try.prog 13 #[.agg #[.int .i64 a, .int .i64 b]] w fun e w' => e = .returned (.bool (vl (a, b))) ∧ w' = w.alloc (.cells #[.int .i64 a, .int .i64 b] 23) := by
  go_enter Try.func13, Try.ntmps13
  go_wp2
  all_goals
    go_returns
    exact ⟨ret_bool (by unfold vl; first | rfl | (simp; omega) | (simp [*]; done)), rfl⟩
theorem cm_no (a b : Sp) (h : vl a = false ∨ vl b = false ∨ vl (max a.1 b.1, min a.2 b.2) = false) : cm a b = ((0, 0), false) := by
  unfold cm
  rw [if_neg]
  simp only [Bool.and_eq_true]
  rintro ⟨⟨h1, h2⟩, h3⟩
  rcases h with h | h | h <;> simp_all
theorem cm_yes (a b : Sp) (h1 : vl a = true) (h2 : vl b = true) (h3 : vl (max a.1 b.1, min a.2 b.2) = true) : cm a b = ((max a.1 b.1, min a.2 b.2), true) := by
  unfold cm; rw [h1, h2, h3]; rfl
/-- A span and whether it is one. -/
def prV (p : Sp × Bool) : Value := .tuple #[spV p.1, .bool p.2]

set_option maxRecDepth 20000 in
set_option maxHeartbeats 1000000 in
theorem common_xy (x y u z : Int) (w : World) : Calls Try.prog 10 #[.agg #[.int .i64 x, .int .i64 y], .agg #[.int .i64 u, .int .i64 z]] w fun e w' => e = .returned (prV (cm (x, y) (u, z))) ∧ Below w.heap.size w w' := by
  have C1 := Lib.hid valid_xy
  cases h1 : vl (x, y) with
  | false =>
    rw [cm_no _ _ (.inl h1)]
    go_enter Try.func10, Try.ntmps10
    go_wp2_with (first
      | (go_at_call 12; go_must (refine (C1.out _ _ _).mono ?_; rintro e1 w1 ⟨rfl, rfl⟩)))
    all_goals
      go_returns
      exact ⟨by first | rfl | simp [prV, spV, spC, *] | (simp [prV, spV, spC]; omega), (by repeat' (first | with_reducible exact Below.refl _ _ | with_reducible exact Nat.le_refl _ | with_reducible assumption | with_reducible refine below_drewN ?_ _ | with_reducible refine Below.drew ?_ | with_reducible refine Below.trans ?_ (Below.mono (by assumption) ?_) | with_reducible refine Below.alloc ?_ ?_ _ | with_reducible refine le_alloc ?_ _ | with_reducible refine le_drewN ?_ _ | with_reducible refine le_drew ?_ | with_reducible refine Nat.le_trans ?_ (Below.size (by assumption))))⟩
  | true =>
  cases h2 : vl (u, z) with
  | false =>
    rw [cm_no _ _ (.inr (.inl h2))]
    go_enter Try.func10, Try.ntmps10
    go_wp2_with (first
      | (go_at_call 12; go_must (refine (C1.out _ _ _).mono ?_; rintro e1 w1 ⟨rfl, rfl⟩)))
    all_goals
      go_returns
      exact ⟨by first | rfl | simp [prV, spV, spC, *] | (simp [prV, spV, spC]; omega), (by repeat' (first | with_reducible exact Below.refl _ _ | with_reducible exact Nat.le_refl _ | with_reducible assumption | with_reducible refine below_drewN ?_ _ | with_reducible refine Below.drew ?_ | with_reducible refine Below.trans ?_ (Below.mono (by assumption) ?_) | with_reducible refine Below.alloc ?_ ?_ _ | with_reducible refine le_alloc ?_ _ | with_reducible refine le_drewN ?_ _ | with_reducible refine le_drew ?_ | with_reducible refine Nat.le_trans ?_ (Below.size (by assumption))))⟩
  | true =>
  cases h3 : vl (max x u, min y z) with
  | false =>
    rw [cm_no _ _ (.inr (.inr h3))]
    go_enter Try.func10, Try.ntmps10
    go_wp2_with (first
      | (go_at_call 12; go_must (refine (C1.out _ _ _).mono ?_; rintro e1 w1 ⟨rfl, rfl⟩)))
    all_goals
      go_returns
      exact ⟨by first | rfl | simp [prV, spV, spC, *] | (simp [prV, spV, spC]; omega), (by repeat' (first | with_reducible exact Below.refl _ _ | with_reducible exact Nat.le_refl _ | with_reducible assumption | with_reducible refine below_drewN ?_ _ | with_reducible refine Below.drew ?_ | with_reducible refine Below.trans ?_ (Below.mono (by assumption) ?_) | with_reducible refine Below.alloc ?_ ?_ _ | with_reducible refine le_alloc ?_ _ | with_reducible refine le_drewN ?_ _ | with_reducible refine le_drew ?_ | with_reducible refine Nat.le_trans ?_ (Below.size (by assumption))))⟩
  | true =>
    rw [cm_yes _ _ h1 h2 h3]
    go_enter Try.func10, Try.ntmps10
    go_wp2_with (first
      | (go_at_call 12; go_must (refine (C1.out _ _ _).mono ?_; rintro e1 w1 ⟨rfl, rfl⟩)))
    all_goals
      go_returns
      exact ⟨by first | rfl | simp [prV, spV, spC, *] | (simp [prV, spV, spC]; omega), (by repeat' (first | with_reducible exact Below.refl _ _ | with_reducible exact Nat.le_refl _ | with_reducible assumption | with_reducible refine below_drewN ?_ _ | with_reducible refine Below.drew ?_ | with_reducible refine Below.trans ?_ (Below.mono (by assumption) ?_) | with_reducible refine Below.alloc ?_ ?_ _ | with_reducible refine le_alloc ?_ _ | with_reducible refine le_drewN ?_ _ | with_reducible refine le_drew ?_ | with_reducible refine Nat.le_trans ?_ (Below.size (by assumption))))⟩

end Go.Proofs.Ytpeiiomimfiebaa
