/-
  levelOf, lengthened, put, copied.
-/
import Derived.Test.YtcodoakfomddfaaW7
import Derived.Test.YtcodoakfomddfaaM2
import Derived.Test.YtcodoakfomddfaaShelf
import Derived.StillTailTactics
namespace Go.Proofs.Ytcodoakfomddfaa
open Go Go.RowKit Go.Joins
set_option linter.unusedVariables false
set_option linter.unusedSimpArgs false

/-- A run appended, out of its literal. -/
theorem wpList_append_rn {w : World} {ops : Array Oper} {rest : List Oper} {o : Oper} {a : Act} {Q : Exit → Act → World → Prop} (hgd : o.guard = none) (s x : Operand)
    (ho : o.op = .call { callee := .builtin .append, args := #[s, x], argTypes := #[23, 23] })
    {B c : Nat} {v : Value} {l : List Rn} {g : Nat} {X Y : Int} {ya : Array Value} (hya : ya = #[.int .i64 X, .int .i64 Y]) (hs : a.eval s = v) (hx : a.eval x = .slice (some ⟨g, 0, none⟩) 1 c) (hg : g = w.heap.size) (hf : RnRow w B v l) (hB : B ≤ w.heap.size) (hn : l.length + 1 ≤ 4398046511104)
    (h : ∀ v' w', RnRow w' B v' (l ++ [(X, Y)]) → Below B w w' → wpList Try.prog ops Q rest (a.put o.dst v') w') : wpList Try.prog ops Q (o :: rest) a (w.alloc (.cells ya 46)) :=
  wpList_append_k (P := Try.prog) Try.underlying23 run_info rfl (by omega) rnC_size hgd s x ho (X, Y) hya hs hx hg hf hB (by subst hya; rfl) (by omega) (by omega) h
theorem wpList_append_rn2 {w : World} {ops : Array Oper} {rest : List Oper} {o : Oper} {a : Act} {Q : Exit → Act → World → Prop} (hgd : o.guard = none) (s x : Operand)
    (ho : o.op = .call { callee := .builtin .append, args := #[s, x], argTypes := #[23, 23] })
    {B c : Nat} {v : Value} {l : List Rn} {g : Nat} {X Y : Int} {ya : Array Value} (hya : ya = #[.int .i64 X, .int .i64 Y]) (hs : a.eval s = v) (hx : a.eval x = .slice (some ⟨g, 0, none⟩) 1 c) (hg : g = w.heap.size) (hf : RnRow w B v l) (hB : B ≤ w.heap.size) (hn : l.length + 1 ≤ 4398046511104)
    (h : ∀ v' w', RnRow w' B v' (l ++ [(X, Y)]) → Below B w w' → (∀ k, k < w.heap.size → some k ≠ v.ownBlock → w'.heap[k]? = w.heap[k]?) → wpList Try.prog ops Q rest (a.put o.dst v') w') : wpList Try.prog ops Q (o :: rest) a (w.alloc (.cells ya 46)) :=
  wpList_append_k2 (P := Try.prog) Try.underlying23 run_info rfl (by omega) rnC_size hgd s x ho (X, Y) hya hs hx hg hf hB (by subst hya; rfl) (by omega) (by omega) h
theorem heap_setCell_other (w : World) (a : Addr) (v : Value) (k : Nat) (h : ¬ k = a.block) : (w.setCell a v).heap[k]? = w.heap[k]? := by
  simp only [World.setCell]
  rw [Array.getElem?_modify, if_neg (fun e => h e.symm)]
theorem RnRow.set1 {w : World} {B g n c : Nat} {l : List Rn} (h : RnRow w B (.slice (some ⟨g, 0, none⟩) n c) l) (j : Nat) (hj : j < l.length) (x y : Int) (hx : l[j].1 = x) :
    RnRow (w.setCell ⟨g, j * 2 + 1, none⟩ (.int .i64 y)) B (.slice (some ⟨g, 0, none⟩) n c) (l.set j (x, y)) :=
  KRow.cellSet rnC_size h j 1 hj (by omega) (.int .i64 y) (x, y) (by subst hx; rfl)
/-- The two cells of an element of a row. -/
theorem RnRow.two {w : World} {B g n c : Nat} {l : List Rn} (h : RnRow w B (.slice (some ⟨g, 0, none⟩) n c) l) (j : Nat) (hj : j < l.length) : w.cell? ⟨g, j * 2, none⟩ = some (.int .i64 l[j].1) ∧ w.cell? ⟨g, j * 2 + 1, none⟩ = some (.int .i64 l[j].2) ∧ w.frozen? ⟨g, j * 2, none⟩ = false ∧ w.frozen? ⟨g, j * 2 + 1, none⟩ = false :=
  ⟨h.cell rnC_size j hj 0 (by omega), h.cell rnC_size j hj 1 (by omega), h.frozen _, h.frozen _⟩
theorem snoc_get (o : List Rn) (x : Rn) (h : o.length < (o ++ [x]).length) : (o ++ [x])[o.length] = x := by simp
theorem snoc_set (o : List Rn) (x y : Rn) : (o ++ [x]).set o.length y = o ++ [y] := by simp

set_option maxRecDepth 20000 in
set_option maxHeartbeats 4000000 in
theorem put_any (o : List Rn) (B : Nat) (V : Value) (X D : Int) (w : World) (hR : RnRow w B V o) (hB : B ≤ w.heap.size) (hp : ps o) (hD : 1 ≤ D) (hl : lg o + D ≤ 1099511627776) (hn : o.length ≤ 4294967296) :
    Calls Try.prog 40 #[V, .agg #[.int .i64 X, .int .i64 D]] w fun e w' => ∃ v : Value, e = .returned v ∧ RnRow w' B v (pt o (X, D)) ∧ Below B w w' := by
  rcases nil_or_snoc o with rfl | ⟨o, ⟨y0, y1⟩, rfl⟩
  · have HR := Lib.hid (fun o => hR.alloc o)
    obtain ⟨A, n, c, rfl, hn0⟩ := hR.form
    obtain rfl : n = 0 := hn0
    have HB1 : Hid (B ≤ (w.alloc (.cells #[.int .i64 X, .int .i64 D] 46)).heap.size) := Lib.hid (le_alloc hB _)
    have HBB : Hid (Below B w (w.alloc (.cells #[.int .i64 X, .int .i64 D] 46))) := Lib.hid ((ba w _).mono hB)
    clear hR hp hl hn
    go_enter Try.func40, Try.ntmps40
    go_wp2
    go_quiet (fail)
    go_wp2_with (first
      | (at_builtin; go_must (refine wpList_append_rn rfl _ _ rfl rfl rfl rfl (World.size_alloc _ _).symm ((HR.out _).drewN _) HB1.out (by show (0:Nat) + 1 ≤ _; omega) ?_; intro v' w' r b)))
    go_returns
    exact ⟨_, rfl, r, (Go.below_drewN HBB.out _).trans b⟩
  · rw [pt_snoc]
    have hp2 := ps_append.1 hp
    have hy := ps_one.1 hp2.2
    have h0 := ps_nonneg hp2.1
    rw [lg_append, lg_one] at hl
    simp only at hy hl
    have hlen : (o ++ [(y0, y1)]).length = o.length + 1 := by simp
    obtain ⟨g, c, rfl⟩ := hR.full (by omega)
    have hR2 := hR.alloc (.cells #[.int .i64 X, .int .i64 D] 46)
    obtain ⟨hN, hNc, hBg, hgw⟩ := hR.len
    obtain ⟨f0, f1, z0, z1⟩ := RnRow.two hR2 o.length (by omega)
    rw [snoc_get] at f0 f1
    simp only at f0 f1
    have HR0 := Lib.hid hR2
    rw [hlen] at hN hNc hn
    have hK0 : decide ((0 : Int) < (o.length : Int) + 1) = true := decide_eq_true (by omega)
    have HBB : Hid (Below B w (w.alloc (.cells #[.int .i64 X, .int .i64 D] 46))) := Lib.hid ((ba w _).mono hB)
    have HB1 : Hid (B ≤ (w.alloc (.cells #[.int .i64 X, .int .i64 D] 46)).heap.size) := Lib.hid (le_alloc hB _)
    have g0 : (w.alloc (.cells #[.int .i64 X, .int .i64 D] 46)).cell? ⟨w.heap.size, 0, none⟩ = some (.int .i64 X) := (RowAt.new w 46 #[.int .i64 X, .int .i64 D]).cell 0
    have g1 : (w.alloc (.cells #[.int .i64 X, .int .i64 D] 46)).cell? ⟨w.heap.size, 1, none⟩ = some (.int .i64 D) := (RowAt.new w 46 #[.int .i64 X, .int .i64 D]).cell 1
    by_cases hyx : y0 = X
    · subst hyx
      have HS := Lib.hid (fun q => RnRow.set1 (hR2.drewN q) o.length (by omega) y0 (y1 + D) (by rw [snoc_get]))
      rw [snoc_set] at HS
      rw [if_pos rfl]
      have hs1 : y1 + D ≤ 1099511627776 := by omega
      rw [hlen] at HS ⊢
      clear hR hp hp2 hlen HR0 hR2
      have v1 : IntKind.i64.wrap (o.length : Int) = o.length := IntWalk.i64_in _ (by omega)
      have v2 : IntKind.i64.wrap (y1 + D) = y1 + D := IntWalk.i64_in _ (by omega)
      generalize o.length = K at *
      go_enter Try.func40, Try.ntmps40
      go_wp2
      go_quiet (fail)
      go_wp2
      have e0 : ((w.alloc (.cells #[.int .i64 y0, .int .i64 D] 46)).drewN nq).cell? ⟨g, K * 2 + 1, none⟩ = some (.int .i64 y1) := f1
      have e1 : ((w.alloc (.cells #[.int .i64 y0, .int .i64 D] 46)).drewN nq).cell? ⟨w.heap.size, 1, none⟩ = some (.int .i64 D) := g1
      have e2 : ((w.alloc (.cells #[.int .i64 y0, .int .i64 D] 46)).drewN nq).frozen? ⟨g, K * 2 + 1, none⟩ = false := z1
      have HSW := Lib.hid (show RnRow (((w.alloc (.cells #[.int .i64 y0, .int .i64 D] 46)).drewN nq).drew.setCell ⟨g, K * 2 + 1, none⟩ (.int .i64 (y1 + D))) B (.slice (some ⟨g, 0, none⟩) (K + 1) c) (o ++ [(y0, y1 + D)]) from HS.out (nq + 1))
      have HBW := Lib.hid (below_drewN HBB.out nq)
      clear f0 f1 z0 z1 g0 g1 HS HBB
      generalize (w.alloc (.cells #[.int .i64 y0, .int .i64 D] 46)).drewN nq = W at *
      have hlt1 : (K : Int) < (K : Int) + 1 := by omega
      go_still_tail 14, (by kernel_rfl)
      change wpList _ _ _ _ _ W.drew
      have e0 : W.drew.cell? ⟨g, K * 2 + 1, none⟩ = some (.int .i64 y1) := e0
      have e1 : W.drew.cell? ⟨w.heap.size, 1, none⟩ = some (.int .i64 D) := e1
      have e2 : W.drew.frozen? ⟨g, K * 2 + 1, none⟩ = false := e2
      have HBD := Lib.hid (Below.drew HBW.out)
      generalize W.drew = w2 at *
      go_wp2
      go_returns
      exact ⟨_, rfl, HSW.out, Below.setCell HBD.out hBg _⟩
    · rw [if_neg hyx]
      have hne : (y0 == X) = false := by simpa using hyx
      have hn2 : (o ++ [(y0, y1)]).length + 1 ≤ 4398046511104 := by omega
      have HN2 := Lib.hid hn2
      rw [hlen] at HR0 ⊢
      clear hR hp hp2 hn2 hyx
      go_enter Try.func40, Try.ntmps40
      go_wp2
      go_quiet (fail)
      go_wp2_with (first
        | (at_builtin; go_must (refine wpList_append_rn rfl _ _ rfl rfl rfl rfl (World.size_alloc _ _).symm (KRow.drewN HR0.out _) HB1.out HN2.out ?_; intro v' w' r b)))
      go_returns
      exact ⟨_, rfl, r, (Go.below_drewN HBB.out _).trans b⟩

theorem NmRow.set {w : World} {B g n c : Nat} {l : List ByteArray} (h : NmRow w B (.slice (some ⟨g, 0, none⟩) n c) l) (j : Nat) (hj : j < l.length) (s : ByteArray) :
    NmRow (w.setCell ⟨g, j, none⟩ (.string s)) B (.slice (some ⟨g, 0, none⟩) n c) (l.set j s) := by
  have := KRow.cellSet nmC_size h j 0 hj (by omega) (.string s) s rfl
  rwa [Nat.mul_one, Nat.add_zero] at this
theorem NmRow.one {w : World} {B g n c : Nat} {l : List ByteArray} (h : NmRow w B (.slice (some ⟨g, 0, none⟩) n c) l) (j : Nat) (hj : j < l.length) : w.cell? ⟨g, j, none⟩ = some (.string l[j]) ∧ w.frozen? ⟨g, j, none⟩ = false := by
  have := h.cell nmC_size j hj 0 (by omega)
  rw [Nat.mul_one, Nat.add_zero] at this
  exact ⟨this, h.frozen _⟩
/-- The first j of a list stand already. -/
def Fil (X l : List ByteArray) (j : Nat) : Prop := X.length = l.length ∧ X.take j = l.take j
theorem Fil.step {X l : List ByteArray} {j : Nat} (h : Fil X l j) (hj : j < l.length) : Fil (X.set j l[j]) l (j + 1) := by
  obtain ⟨h1, h2⟩ := h
  refine ⟨by rw [List.length_set]; exact h1, ?_⟩
  rw [List.take_succ_eq_append_getElem (by rw [List.length_set, h1]; exact hj), List.take_set_of_le (Nat.le_refl _), h2, List.getElem_set_self, List.take_succ_eq_append_getElem hj]
theorem Fil.done {X l : List ByteArray} {j : Nat} (h : Fil X l j) (hj : l.length ≤ j) : X = l := by
  have := h.2
  rwa [List.take_of_length_le (by rw [h.1]; exact hj), List.take_of_length_le hj] at this

end Go.Proofs.Ytcodoakfomddfaa
