/-
  Runs as the model holds them; the walks of isLevel, other, Valid (the program's and the specification's).
-/
import Derived.Test.YtemmljngglnccaaM2
import Derived.Test.YtemmljngglnccaaK2
import Derived.Deep.QuietTactic
import Derived.BigQuiet
namespace Go.Proofs.Ytemmljngglnccaa
open Go Go.RowKit Go.Joins
set_option linter.unusedVariables false
set_option linter.unusedSimpArgs false

def rnC (s : Rn) : Array Value := #[.int .i64 s.1, .int .i64 s.2]
def rnV (s : Rn) : Value := .agg (rnC s)
theorem rnC_size (s : Rn) : (rnC s).size = 2 := rfl
theorem rnC_one (s : Rn) : (rnC s).toList.all (·.oneCell') = true := rfl
abbrev RnRow (w : World) (B : Nat) (v : Value) (l : List Rn) : Prop := KRow rnC 2 48 w B v l
abbrev RnArg (w : World) (v : Value) (l : List Rn) : Prop := KArg rnC 2 w v l
def inC (x : Int) : Array Value := #[.int .i64 x]
theorem inC_size (x : Int) : (inC x).size = 1 := rfl
theorem inC_one (x : Int) : (inC x).toList.all (·.oneCell') = true := rfl
abbrev InRow (w : World) (B : Nat) (v : Value) (l : List Int) : Prop := KRow inC 1 3 w B v l
abbrev InArg (w : World) (v : Value) (l : List Int) : Prop := KArg inC 1 w v l

theorem run_info : (Try.prog.info? 48).map (fun i => (i.zero, i.size, i.bytes)) = some (some (.agg #[.int .i64 0, .int .i64 0]), 2, 16) := by kernel_rfl
theorem run_size : (Try.prog.info? 48).map (·.size) = some 2 := by kernel_rfl
theorem int_info : (Try.prog.info? 3).map (fun i => (i.zero, i.size, i.bytes)) = some (some (.int .i64 0), 1, 8) := by kernel_rfl
/-- A run appended, out of its literal. -/
theorem wpList_append_rn {w : World} {ops : Array Oper} {rest : List Oper} {o : Oper} {a : Act} {Q : Exit → Act → World → Prop} (hgd : o.guard = none) (s x : Operand)
    (ho : o.op = .call { callee := .builtin .append, args := #[s, x], argTypes := #[22, 22] })
    {B c : Nat} {v : Value} {l : List Rn} {g : Nat} {X Y : Int} {ya : Array Value} (hya : ya = #[.int .i64 X, .int .i64 Y]) (hs : a.eval s = v) (hx : a.eval x = .slice (some ⟨g, 0, none⟩) 1 c) (hg : g = w.heap.size) (hf : RnRow w B v l) (hB : B ≤ w.heap.size) (hn : l.length + 1 ≤ 4398046511104)
    (h : ∀ v' w', RnRow w' B v' (l ++ [(X, Y)]) → Below B w w' → wpList Try.prog ops Q rest (a.put o.dst v') w') : wpList Try.prog ops Q (o :: rest) a (w.alloc (.cells ya 48)) :=
  wpList_append_k (P := Try.prog) Try.underlying22 run_info rfl (by omega) rnC_size hgd s x ho (X, Y) hya hs hx hg hf hB (by subst hya; rfl) (by omega) (by omega) h
/-- A number appended, out of its literal. -/
theorem wpList_append_in {w : World} {ops : Array Oper} {rest : List Oper} {o : Oper} {a : Act} {Q : Exit → Act → World → Prop} (hgd : o.guard = none) (s x : Operand)
    (ho : o.op = .call { callee := .builtin .append, args := #[s, x], argTypes := #[53, 53] })
    {B c : Nat} {v : Value} {l : List Int} {g : Nat} {X : Int} {ya : Array Value} (hya : ya = #[.int .i64 X]) (hs : a.eval s = v) (hx : a.eval x = .slice (some ⟨g, 0, none⟩) 1 c) (hg : g = w.heap.size) (hf : InRow w B v l) (hB : B ≤ w.heap.size) (hn : l.length + 1 ≤ 4398046511104)
    (h : ∀ v' w', InRow w' B v' (l ++ [X]) → Below B w w' → wpList Try.prog ops Q rest (a.put o.dst v') w') : wpList Try.prog ops Q (o :: rest) a (w.alloc (.cells ya 3)) :=
  wpList_append_k (P := Try.prog) Try.underlying53 int_info rfl (by omega) inC_size hgd s x ho X hya hs hx hg hf hB (by subst hya; rfl) (by omega) (by omega) h
/-- The same; of old blocks, the row's own alone may have changed. -/
theorem wpList_append_in2 {w : World} {ops : Array Oper} {rest : List Oper} {o : Oper} {a : Act} {Q : Exit → Act → World → Prop} (hgd : o.guard = none) (s x : Operand)
    (ho : o.op = .call { callee := .builtin .append, args := #[s, x], argTypes := #[53, 53] })
    {B c : Nat} {v : Value} {l : List Int} {g : Nat} {X : Int} {ya : Array Value} (hya : ya = #[.int .i64 X]) (hs : a.eval s = v) (hx : a.eval x = .slice (some ⟨g, 0, none⟩) 1 c) (hg : g = w.heap.size) (hf : InRow w B v l) (hB : B ≤ w.heap.size) (hn : l.length + 1 ≤ 4398046511104)
    (h : ∀ v' w', InRow w' B v' (l ++ [X]) → Below B w w' → (∀ k, k < w.heap.size → some k ≠ v.ownBlock → w'.heap[k]? = w.heap[k]?) → wpList Try.prog ops Q rest (a.put o.dst v') w') : wpList Try.prog ops Q (o :: rest) a (w.alloc (.cells ya 3)) :=
  wpList_append_k2 (P := Try.prog) Try.underlying53 int_info rfl (by omega) inC_size hgd s x ho X hya hs hx hg hf hB (by subst hya; rfl) (by omega) (by omega) h
theorem wpList_append_rn2 {w : World} {ops : Array Oper} {rest : List Oper} {o : Oper} {a : Act} {Q : Exit → Act → World → Prop} (hgd : o.guard = none) (s x : Operand)
    (ho : o.op = .call { callee := .builtin .append, args := #[s, x], argTypes := #[22, 22] })
    {B c : Nat} {v : Value} {l : List Rn} {g : Nat} {X Y : Int} {ya : Array Value} (hya : ya = #[.int .i64 X, .int .i64 Y]) (hs : a.eval s = v) (hx : a.eval x = .slice (some ⟨g, 0, none⟩) 1 c) (hg : g = w.heap.size) (hf : RnRow w B v l) (hB : B ≤ w.heap.size) (hn : l.length + 1 ≤ 4398046511104)
    (h : ∀ v' w', RnRow w' B v' (l ++ [(X, Y)]) → Below B w w' → (∀ k, k < w.heap.size → some k ≠ v.ownBlock → w'.heap[k]? = w.heap[k]?) → wpList Try.prog ops Q rest (a.put o.dst v') w') : wpList Try.prog ops Q (o :: rest) a (w.alloc (.cells ya 48)) :=
  wpList_append_k2 (P := Try.prog) Try.underlying22 run_info rfl (by omega) rnC_size hgd s x ho (X, Y) hya hs hx hg hf hB (by subst hya; rfl) (by omega) (by omega) h
/-- The two cells of an element that is read. -/
theorem arg_two {w : World} {g o : Nat} {l : List Rn} (h : ∀ j (hj : j < l.length) i, i < 2 → w.cell? ⟨g, o + j * 2 + i, none⟩ = (rnC l[j])[i]?) (j : Nat) (hj : j < l.length) : w.cell? ⟨g, o + j * 2, none⟩ = some (.int .i64 l[j].1) ∧ w.cell? ⟨g, o + j * 2 + 1, none⟩ = some (.int .i64 l[j].2) :=
  ⟨h j hj 0 (by omega), h j hj 1 (by omega)⟩
theorem arg_int {w : World} {g o : Nat} {l : List Int} (h : ∀ j (hj : j < l.length) i, i < 1 → w.cell? ⟨g, o + j * 1 + i, none⟩ = (inC l[j])[i]?) (j : Nat) (hj : j < l.length) : w.cell? ⟨g, o + j, none⟩ = some (.int .i64 l[j]) := by
  have := h j hj 0 (by omega)
  rwa [Nat.mul_one] at this

set_option maxHeartbeats 1000000 in
theorem isLevel_any (n : Int) (w : World) : Calls Try.prog 42 #[.int .i64 n] w fun e w' => e = .returned (.bool (decide (n = 0 ∨ n = 1))) ∧ w = w' := by
  by_cases h0 : n = 0
  · subst h0
    go_enter Try.func42, Try.ntmps42
    go_wp2
    go_returns
    exact ⟨rfl, rfl⟩
  by_cases h1 : n = 1
  · subst h1
    go_enter Try.func42, Try.ntmps42
    go_wp2
    go_returns
    exact ⟨rfl, rfl⟩
  have e0 : (n == 0) = false := by simpa using h0
  have e1 : (n == 1) = false := by simpa using h1
  have H := Lib.hid (show decide (n = 0 ∨ n = 1) = false from decide_eq_false (by omega))
  clear h0 h1
  go_enter Try.func42, Try.ntmps42
  go_wp2
  go_returns
  exact ⟨ret_bool H.out.symm, rfl⟩
set_option maxHeartbeats 1000000 in
theorem other_any (n : Int) (w : World) (h : n = 0 ∨ n = 1) : Calls Try.prog 63 #[.int .i64 n] w fun e w' => e = .returned (.int .i64 (1 - n)) ∧ w = w' := by
  rcases h with rfl | rfl
  all_goals
    go_enter Try.func63, Try.ntmps63
    go_wp2
    go_returns
    exact ⟨rfl, rfl⟩

set_option maxRecDepth 20000 in
set_option maxHeartbeats 4000000 in
theorem valid_any (l : List Rn) (V : Value) (w : World) (hT : RnArg w V l) : Calls Try.prog 23 #[V] w fun e w' => e = .returned (.bool (vl l)) ∧ Below w.heap.size w w' := by
  obtain ⟨A, c, rfl, hA⟩ := hT
  have HA := Lib.hid hA
  clear hA
  by_cases hn : 262144 < l.length
  · have hn' : (262144 : Int) < l.length := by omega
    have HV := Lib.hid (show vl l = false by unfold vl; rw [decide_eq_false (by omega)]; rfl)
    clear hn HA
    go_enter Try.func23, Try.ntmps23
    go_wp2
    go_returns
    exact ⟨ret_bool HV.out.symm, Below.refl _ _⟩
  have hn' : (l.length : Int) ≤ 262144 := by omega
  have CL := Lib.hid isLevel_any
  go_enter Try.func23, Try.ntmps23
  go_wp2
  go_loopw [11, 3] (fun i s wr => ∃ j : Nat, j ≤ l.length ∧ i = .int .i64 j ∧ s = .int .i64 (lg (l.take j)) ∧ Hid (vr 0 (l.take j) = true) ∧ Hid (Below w.heap.size w wr)) (fun i _ _ => l.length - (intOf i).toNat)
  case atStart => exact ⟨0, Nat.zero_le _, rfl, rfl, Lib.hid rfl, Lib.hid (Below.refl _ _)⟩
  case round =>
    obtain ⟨j, hj, rfl, rfl, HR, HB⟩ := hrel
    have hb := HB.out
    by_cases hjl : j < l.length
    · obtain ⟨g, o, rfl, hg, hc⟩ := HA.out (by omega)
      obtain ⟨a0, a1⟩ := arg_two hc j hjl
      have f0 := (hb.cell (p := ⟨g, o + j * 2, none⟩) hg).trans a0
      have f1 := (hb.cell (p := ⟨g, o + j * 2 + 1, none⟩) hg).trans a1
      have hr := vr_range HR.out
      have hst := Lib.hid (vr_step hjl HR.out)
      have hbd := Lib.hid (fun h => vr_bad (l := l) hjl h)
      have htk := Lib.hid (lg_take l j hjl)
      clear a0 a1 hc
      have hok := fun (b : Bool) (h : okR (lg (l.take j)) (l[j].1, l[j].2) = b) => h
      have HB2 := Lib.hid (show Below w.heap.size w (wr.alloc (.cells #[.int .i64 l[j].1, .int .i64 l[j].2] 48)) from hb.alloc hb.size _)
      have hst' : Hid (vr 0 (l.take (j + 1)) = okR (lg (l.take j)) (l[j].1, l[j].2)) := Lib.hid hst.out
      have hbd' : Hid (okR (lg (l.take j)) (l[j].1, l[j].2) = false → vl l = false) := Lib.hid hbd.out
      clear hst hbd hok HR
      generalize l[j].1 = x0 at *
      generalize l[j].2 = x1 at *
      generalize lg (l.take j) = S at *
      by_cases c0 : x0 = 0 ∨ x0 = 1
      · have d0 : decide (x0 = 0 ∨ x0 = 1) = true := decide_eq_true c0
        have CL2 := Lib.hid (fun w => by have := CL.out x0 w; rw [d0] at this; exact this)
        clear CL d0
        by_cases c1 : x1 < 1
        · have HV := Lib.hid (hbd'.out (by unfold okR; rw [decide_eq_false (show ¬ (1 : Int) ≤ x1 by omega)]; simp))
          go_wp2_with (first
            | (go_at_call 42; go_must (refine (CL2.out _).mono ?_; rintro e1 w1 ⟨rfl, rfl⟩)))
          go_returns
          exact ⟨ret_bool HV.out.symm, HB2.out⟩
        by_cases c2 : 1099511627776 - S < x1
        · have HV := Lib.hid (hbd'.out (by unfold okR; rw [decide_eq_false (show ¬ x1 ≤ 1099511627776 - S by omega)]; simp))
          go_wp2_with (first
            | (go_at_call 42; go_must (refine (CL2.out _).mono ?_; rintro e1 w1 ⟨rfl, rfl⟩)))
          go_returns
          exact ⟨ret_bool HV.out.symm, HB2.out⟩
        have HS := Lib.hid (show vr 0 (l.take (j + 1)) = true by rw [hst'.out]; unfold okR; rw [decide_eq_true c0, decide_eq_true (show (1 : Int) ≤ x1 by omega), decide_eq_true (show x1 ≤ 1099511627776 - S by omega)]; rfl)
        clear c0
        go_wp2_with (first
          | (go_at_call 42; go_must (refine (CL2.out _).mono ?_; rintro e1 w1 ⟨rfl, rfl⟩)))
        go_roundw
        case rel => exact ⟨j + 1, by omega, val_int (by omega), val_int (by rw [htk.out]), HS, HB2⟩
        case measure => simp [intOf]; omega
      · have d0 : decide (x0 = 0 ∨ x0 = 1) = false := decide_eq_false c0
        have CL2 := Lib.hid (fun w => by have := CL.out x0 w; rw [d0] at this; exact this)
        have HV := Lib.hid (hbd'.out (by unfold okR; rw [d0]; rfl))
        clear CL d0 c0
        go_wp2_with (first
          | (go_at_call 42; go_must (refine (CL2.out _).mono ?_; rintro e1 w1 ⟨rfl, rfl⟩)))
        go_returns
        exact ⟨ret_bool HV.out.symm, HB2.out⟩
    · have he : l.take j = l := List.take_of_length_le (by omega)
      have HV := Lib.hid (vr_all (l := l) (by omega) (by rw [← he]; exact HR.out))
      clear he
      go_wp2
      go_returns
      exact ⟨ret_bool HV.out.symm, hb⟩

end Go.Proofs.Ytemmljngglnccaa
