/-
  levelOf, lengthened, put, copied.
  Channel (both).
  Lists of waves; isLevel, Valid, checkWaves.
  What the proofs of all statements of this seat share: captures, names, waves among the arguments.
  common.
  advanced.
  part, the specification's Part and Clean.
  The specification's Clean, of runs some of which may be empty.
-/
import Derived.Test.YteccafndplaklaaZ10
import Derived.Test.YteccafndplaklaaZ04
import Derived.Test.YteccafndplaklaaShelf
import Derived.StillTailTactics
import Derived.Deep.RegionHeld3
import Derived.SizedLaws
import Derived.ChangeMaps5
import Derived.Test.YteccafndplaklaaZ07
namespace Go.Proofs.Yteccafndplaklaa
open Go Go.RowKit Go.Joins
set_option linter.unusedVariables false
set_option linter.unusedSimpArgs false

set_option maxRecDepth 20000 in
set_option maxHeartbeats 1000000 in
theorem levelOf_any (x y : Int) (k : Nat) (w : World) (h0 : 0 ≤ x) (h1 : x ≤ 9223372036854775807) (hk : k ≤ 15) : Calls Try.prog 82 #[.agg #[.int .i64 x, .int .i64 y], .int .i64 k] w fun e w' => e = .returned (.int .i64 (bt x k)) ∧ Below w.heap.size w w' := by
  have H := Lib.hid (shr_and x k h0 h1); have H2 := Lib.hid (shr_and2 x k h0 h1)
  generalize bt x k = r at *
  go_enter Try.func82, Try.ntmps82
  go_wp2
  go_returns
  exact ⟨ret_int (by exact H2.out), ba w _⟩

/-- A run appended, out of its literal. -/
theorem wpList_append_rn {w : World} {ops : Array Oper} {rest : List Oper} {o : Oper} {a : Act} {Q : Exit → Act → World → Prop} (hgd : o.guard = none) (s x : Operand)
    (ho : o.op = .call { callee := .builtin .append, args := #[s, x], argTypes := #[23, 23] })
    {B c : Nat} {v : Value} {l : List Rn} {g : Nat} {X Y : Int} {ya : Array Value} (hya : ya = #[.int .i64 X, .int .i64 Y]) (hs : a.eval s = v) (hx : a.eval x = .slice (some ⟨g, 0, none⟩) 1 c) (hg : g = w.heap.size) (hf : RnRow w B v l) (hB : B ≤ w.heap.size) (hn : l.length + 1 ≤ 4398046511104)
    (h : ∀ v' w', RnRow w' B v' (l ++ [(X, Y)]) → Below B w w' → wpList Try.prog ops Q rest (a.put o.dst v') w') : wpList Try.prog ops Q (o :: rest) a (w.alloc (.cells ya 48)) :=
  wpList_append_k (P := Try.prog) Try.underlying23 run_info rfl (by omega) rnC_size hgd s x ho (X, Y) hya hs hx hg hf hB (by subst hya; rfl) (by omega) (by omega) h
theorem wpList_append_rn2 {w : World} {ops : Array Oper} {rest : List Oper} {o : Oper} {a : Act} {Q : Exit → Act → World → Prop} (hgd : o.guard = none) (s x : Operand)
    (ho : o.op = .call { callee := .builtin .append, args := #[s, x], argTypes := #[23, 23] })
    {B c : Nat} {v : Value} {l : List Rn} {g : Nat} {X Y : Int} {ya : Array Value} (hya : ya = #[.int .i64 X, .int .i64 Y]) (hs : a.eval s = v) (hx : a.eval x = .slice (some ⟨g, 0, none⟩) 1 c) (hg : g = w.heap.size) (hf : RnRow w B v l) (hB : B ≤ w.heap.size) (hn : l.length + 1 ≤ 4398046511104)
    (h : ∀ v' w', RnRow w' B v' (l ++ [(X, Y)]) → Below B w w' → (∀ k, k < w.heap.size → some k ≠ v.ownBlock → w'.heap[k]? = w.heap[k]?) → wpList Try.prog ops Q rest (a.put o.dst v') w') : wpList Try.prog ops Q (o :: rest) a (w.alloc (.cells ya 48)) :=
  wpList_append_k2 (P := Try.prog) Try.underlying23 run_info rfl (by omega) rnC_size hgd s x ho (X, Y) hya hs hx hg hf hB (by subst hya; rfl) (by omega) (by omega) h
theorem heap_setCell_other (w : World) (a : Addr) (v : Value) (k : Nat) (h : ¬ k = a.block) : (w.setCell a v).heap[k]? = w.heap[k]? := by
  simp only [World.setCell]
  rw [Array.getElem?_modify, if_neg (fun e => h e.symm)]
theorem RnRow.set1 {w : World} {B g n c : Nat} {l : List Rn} (h : RnRow w B (.slice (some ⟨g, 0, none⟩) n c) l) (j : Nat) (hj : j < l.length) (x y : Int) (hx : l[j].1 = x) :
    RnRow (w.setCell ⟨g, j * 2 + 1, none⟩ (.int .i64 y)) B (.slice (some ⟨g, 0, none⟩) n c) (l.set j (x, y)) :=
  KRow.cellSet rnC_size h j 1 hj (by omega) (.int .i64 y) (x, y) (by subst hx; rfl)
/-- The two cells of an element of a row. -/
theorem RnRow.two {w : World} {B g n c : Nat} {l : List Rn} (h : RnRow w B (.slice (some ⟨g, 0, none⟩) n c) l) (j : Nat) (hj : j < l.length) : w.cell? ⟨g, j * 2, none⟩ = some (.int .i64 l[j].1) ∧ w.cell? ⟨g, j * 2 + 1, none⟩ = some (.int .i64 l[j].2) ∧ w.frozen? ⟨g, j * 2, none⟩ = false ∧ w.frozen? ⟨g, j * 2 + 1, none⟩ = false :=
  ⟨h.cell rnC_size j hj 0 (by omega), h.cell rnC_size j hj 1 (by omega), h.frozen _, h.frozen _⟩
theorem snoc_get (o : List Rn) (x : Rn) (h : o.length < (o ++ [x]).length) : (o ++ [x])[o.length] = x := by simp
theorem snoc_set (o : List Rn) (x y : Rn) : (o ++ [x]).set o.length y = o ++ [y] := by simp

set_option maxRecDepth 20000 in
set_option maxHeartbeats 4000000 in
theorem lengthened_any2 (o : List Rn) (B : Nat) (V : Value) (X D : Int) (w : World) (hR : RnRow w B V o) (hB : B ≤ w.heap.size) (hp : ps o) (hD : 0 ≤ D) (hl : lg o + D ≤ 1099511627776) (hn : o.length ≤ 4294967296) :
    Calls Try.prog 78 #[V, .int .i64 X, .int .i64 D] w fun e w' => ∃ v : Value, e = .returned v ∧ RnRow w' B v (pt o (X, D)) ∧ Below B w w' ∧ (∀ k, k < w.heap.size → some k ≠ V.ownBlock → w'.heap[k]? = w.heap[k]?) := by
  rcases nil_or_snoc o with rfl | ⟨o, ⟨y0, y1⟩, rfl⟩
  · have HR := Lib.hid (fun o => hR.alloc o)
    have HR0 := Lib.hid hR
    obtain ⟨A, n, c, rfl, hn0⟩ := hR.form
    obtain rfl : n = 0 := hn0
    clear hR hp hl hn
    go_enter Try.func78, Try.ntmps78
    go_wp2_with (first
      | (at_builtin; go_must (refine wpList_append_rn2 rfl _ _ rfl rfl rfl rfl rfl HR0.out hB (by show (0:Nat) + 1 ≤ _; omega) ?_; intro v' w' r b kp)))
    go_returns
    exact ⟨_, rfl, r, b, kp⟩
  · rw [pt_snoc]
    have hp2 := ps_append.1 hp
    have hy := ps_one.1 hp2.2
    have h0 := ps_nonneg hp2.1
    rw [lg_append, lg_one] at hl
    simp only at hy hl
    have hlen : (o ++ [(y0, y1)]).length = o.length + 1 := by simp
    obtain ⟨g, c, rfl⟩ := hR.full (by omega)
    obtain ⟨hN, hNc, hBg, hgw⟩ := hR.len
    obtain ⟨f0, f1, z0, z1⟩ := RnRow.two hR o.length (by omega)
    rw [snoc_get] at f0 f1
    simp only at f0 f1
    have HR0 := Lib.hid hR
    rw [hlen] at hN hNc hn
    have hK0 : decide ((0 : Int) ≤ (o.length : Int)) = true := decide_eq_true (by omega)
    by_cases hyx : y0 = X
    · subst hyx
      have HS := Lib.hid (RnRow.set1 hR o.length (by omega) y0 (y1 + D) (by rw [snoc_get]))
      rw [snoc_set] at HS
      rw [if_pos rfl]
      have hs1 : y1 + D ≤ 1099511627776 := by omega
      rw [hlen] at HS ⊢
      clear hR hp hp2 hlen HR0
      generalize o.length = K at *
      go_enter Try.func78, Try.ntmps78
      go_wp2
      go_returns
      exact ⟨_, rfl, HS.out, (Below.refl _ _).setCell hBg _, fun k hk hne => heap_setCell_other _ _ _ _ (fun e => hne (by rw [e]; rfl))⟩
    · rw [if_neg hyx]
      have hne : (y0 == X) = false := by simpa using hyx
      have hn2 : (o ++ [(y0, y1)]).length + 1 ≤ 4398046511104 := by omega
      have HN2 := Lib.hid hn2
      rw [hlen] at HR0 ⊢
      clear hR hp hp2 hn2 hyx
      go_enter Try.func78, Try.ntmps78
      go_wp2_with (first
        | (at_builtin; go_must (refine wpList_append_rn2 rfl _ _ rfl rfl rfl rfl rfl HR0.out hB HN2.out ?_; intro v' w' r b kp; rw [List.append_assoc] at r)))
      go_returns
      exact ⟨_, rfl, r, b, kp⟩

theorem lengthened_any (o : List Rn) (B : Nat) (V : Value) (X D : Int) (w : World) (hR : RnRow w B V o) (hB : B ≤ w.heap.size) (hp : ps o) (hD : 0 ≤ D) (hl : lg o + D ≤ 1099511627776) (hn : o.length ≤ 4294967296) :
    Calls Try.prog 78 #[V, .int .i64 X, .int .i64 D] w fun e w' => ∃ v : Value, e = .returned v ∧ RnRow w' B v (pt o (X, D)) ∧ Below B w w' :=
  (lengthened_any2 o B V X D w hR hB hp hD hl hn).mono fun e w' ⟨v, h1, h2, h3, _⟩ => ⟨v, h1, h2, h3⟩

set_option maxRecDepth 20000 in
set_option maxHeartbeats 4000000 in
theorem put_any (o : List Rn) (B : Nat) (V : Value) (X D : Int) (w : World) (hR : RnRow w B V o) (hB : B ≤ w.heap.size) (hp : ps o) (hD : 1 ≤ D) (hl : lg o + D ≤ 1099511627776) (hn : o.length ≤ 4294967296) :
    Calls Try.prog 63 #[V, .agg #[.int .i64 X, .int .i64 D]] w fun e w' => ∃ v : Value, e = .returned v ∧ RnRow w' B v (pt o (X, D)) ∧ Below B w w' := by
  rcases nil_or_snoc o with rfl | ⟨o, ⟨y0, y1⟩, rfl⟩
  · have HR := Lib.hid (fun o => hR.alloc o)
    obtain ⟨A, n, c, rfl, hn0⟩ := hR.form
    obtain rfl : n = 0 := hn0
    have HB1 : Hid (B ≤ (w.alloc (.cells #[.int .i64 X, .int .i64 D] 48)).heap.size) := Lib.hid (le_alloc hB _)
    have HBB : Hid (Below B w (w.alloc (.cells #[.int .i64 X, .int .i64 D] 48))) := Lib.hid ((ba w _).mono hB)
    clear hR hp hl hn
    go_enter Try.func63, Try.ntmps63
    go_wp2
    go_quiet (fail)
    go_wp2_with (first
      | (at_builtin; go_must (refine wpList_append_rn rfl _ _ rfl rfl rfl rfl (World.size_alloc _ _).symm ((HR.out _).drewN _) HB1.out (by show (0:Nat) + 1 ≤ _; omega) ?_; intro v' w' r b)))
    go_returns
    exact ⟨_, rfl, r, (Go.below_drewN HBB.out _).trans b⟩
  · rw [pt_snoc]
    have hp2 := ps_append.1 hp
    have hy := ps_one.1 hp2.2
    have h0 := ps_nonneg hp2.1
    rw [lg_append, lg_one] at hl
    simp only at hy hl
    have hlen : (o ++ [(y0, y1)]).length = o.length + 1 := by simp
    obtain ⟨g, c, rfl⟩ := hR.full (by omega)
    have hR2 := hR.alloc (.cells #[.int .i64 X, .int .i64 D] 48)
    obtain ⟨hN, hNc, hBg, hgw⟩ := hR.len
    obtain ⟨f0, f1, z0, z1⟩ := RnRow.two hR2 o.length (by omega)
    rw [snoc_get] at f0 f1
    simp only at f0 f1
    have HR0 := Lib.hid hR2
    rw [hlen] at hN hNc hn
    have hK0 : decide ((0 : Int) < (o.length : Int) + 1) = true := decide_eq_true (by omega)
    have HBB : Hid (Below B w (w.alloc (.cells #[.int .i64 X, .int .i64 D] 48))) := Lib.hid ((ba w _).mono hB)
    have HB1 : Hid (B ≤ (w.alloc (.cells #[.int .i64 X, .int .i64 D] 48)).heap.size) := Lib.hid (le_alloc hB _)
    have g0 : (w.alloc (.cells #[.int .i64 X, .int .i64 D] 48)).cell? ⟨w.heap.size, 0, none⟩ = some (.int .i64 X) := (RowAt.new w 48 #[.int .i64 X, .int .i64 D]).cell 0
    have g1 : (w.alloc (.cells #[.int .i64 X, .int .i64 D] 48)).cell? ⟨w.heap.size, 1, none⟩ = some (.int .i64 D) := (RowAt.new w 48 #[.int .i64 X, .int .i64 D]).cell 1
    by_cases hyx : y0 = X
    · subst hyx
      have HS := Lib.hid (fun q => RnRow.set1 (hR2.drewN q) o.length (by omega) y0 (y1 + D) (by rw [snoc_get]))
      rw [snoc_set] at HS
      rw [if_pos rfl]
      have hs1 : y1 + D ≤ 1099511627776 := by omega
      rw [hlen] at HS ⊢
      clear hR hp hp2 hlen HR0 hR2
      have v1 : IntKind.i64.wrap (o.length : Int) = o.length := IntWalk.i64_in _ (by omega)
      have v2 : IntKind.i64.wrap (y1 + D) = y1 + D := IntWalk.i64_in _ (by omega)
      generalize o.length = K at *
      go_enter Try.func63, Try.ntmps63
      go_wp2
      go_quiet (fail)
      go_wp2
      have e0 : ((w.alloc (.cells #[.int .i64 y0, .int .i64 D] 48)).drewN nq).cell? ⟨g, K * 2 + 1, none⟩ = some (.int .i64 y1) := f1
      have e1 : ((w.alloc (.cells #[.int .i64 y0, .int .i64 D] 48)).drewN nq).cell? ⟨w.heap.size, 1, none⟩ = some (.int .i64 D) := g1
      have e2 : ((w.alloc (.cells #[.int .i64 y0, .int .i64 D] 48)).drewN nq).frozen? ⟨g, K * 2 + 1, none⟩ = false := z1
      have HSW := Lib.hid (show RnRow (((w.alloc (.cells #[.int .i64 y0, .int .i64 D] 48)).drewN nq).drew.setCell ⟨g, K * 2 + 1, none⟩ (.int .i64 (y1 + D))) B (.slice (some ⟨g, 0, none⟩) (K + 1) c) (o ++ [(y0, y1 + D)]) from HS.out (nq + 1))
      have HBW := Lib.hid (below_drewN HBB.out nq)
      clear f0 f1 z0 z1 g0 g1 HS HBB
      generalize (w.alloc (.cells #[.int .i64 y0, .int .i64 D] 48)).drewN nq = W at *
      have hlt1 : (K : Int) < (K : Int) + 1 := by omega
      go_still_tail 14, (by kernel_rfl)
      change wpList _ _ _ _ _ W.drew
      have e0 : W.drew.cell? ⟨g, K * 2 + 1, none⟩ = some (.int .i64 y1) := e0
      have e1 : W.drew.cell? ⟨w.heap.size, 1, none⟩ = some (.int .i64 D) := e1
      have e2 : W.drew.frozen? ⟨g, K * 2 + 1, none⟩ = false := e2
      have HBD := Lib.hid (Below.drew HBW.out)
      generalize W.drew = w2 at *
      go_wp2
      go_returns
      exact ⟨_, rfl, HSW.out, Below.setCell HBD.out hBg _⟩
    · rw [if_neg hyx]
      have hne : (y0 == X) = false := by simpa using hyx
      have hn2 : (o ++ [(y0, y1)]).length + 1 ≤ 4398046511104 := by omega
      have HN2 := Lib.hid hn2
      rw [hlen] at HR0 ⊢
      clear hR hp hp2 hn2 hyx
      go_enter Try.func63, Try.ntmps63
      go_wp2
      go_quiet (fail)
      go_wp2_with (first
        | (at_builtin; go_must (refine wpList_append_rn rfl _ _ rfl rfl rfl rfl (World.size_alloc _ _).symm (KRow.drewN HR0.out _) HB1.out HN2.out ?_; intro v' w' r b)))
      go_returns
      exact ⟨_, rfl, r, (Go.below_drewN HBB.out _).trans b⟩

theorem clone_any (s : ByteArray) (w : World) (hs : s.size ≤ 140737488351232) :
    Calls Try.prog 36 #[.string s] w fun e w' => e = .returned (.string s) ∧ Below w.heap.size w w' := by
  have H1 := Lib.hid (fun w => Try.stringslite_Clone s w (by omega))
  go_enter Try.func36, Try.ntmps36
  go_wp2_with (first
    | (go_at_call 67; go_must (refine (H1.out _).mono ?_; rintro e w1 ⟨rfl, b1⟩)))
  go_returns
  exact ⟨rfl, b1⟩
theorem NmRow.set {w : World} {B g n c : Nat} {l : List ByteArray} (h : NmRow w B (.slice (some ⟨g, 0, none⟩) n c) l) (j : Nat) (hj : j < l.length) (s : ByteArray) :
    NmRow (w.setCell ⟨g, j, none⟩ (.string s)) B (.slice (some ⟨g, 0, none⟩) n c) (l.set j s) := by
  have := KRow.cellSet nmC_size h j 0 hj (by omega) (.string s) s rfl
  rwa [Nat.mul_one, Nat.add_zero] at this
theorem NmRow.one {w : World} {B g n c : Nat} {l : List ByteArray} (h : NmRow w B (.slice (some ⟨g, 0, none⟩) n c) l) (j : Nat) (hj : j < l.length) : w.cell? ⟨g, j, none⟩ = some (.string l[j]) ∧ w.frozen? ⟨g, j, none⟩ = false := by
  have := h.cell nmC_size j hj 0 (by omega)
  rw [Nat.mul_one, Nat.add_zero] at this
  exact ⟨this, h.frozen _⟩
/-- The first j of a list stand already. -/
def Fil (X l : List ByteArray) (j : Nat) : Prop := X.length = l.length ∧ X.take j = l.take j
theorem Fil.step {X l : List ByteArray} {j : Nat} (h : Fil X l j) (hj : j < l.length) : Fil (X.set j l[j]) l (j + 1) := by
  obtain ⟨h1, h2⟩ := h
  refine ⟨by rw [List.length_set]; exact h1, ?_⟩
  rw [List.take_succ_eq_append_getElem (by rw [List.length_set, h1]; exact hj), List.take_set_of_le (Nat.le_refl _), h2, List.getElem_set_self, List.take_succ_eq_append_getElem hj]
theorem Fil.done {X l : List ByteArray} {j : Nat} (h : Fil X l j) (hj : l.length ≤ j) : X = l := by
  have := h.2
  rwa [List.take_of_length_le (by rw [h.1]; exact hj), List.take_of_length_le hj] at this

set_option maxRecDepth 20000 in
set_option maxHeartbeats 4000000 in
theorem copied_any (l : List ByteArray) (v : Value) (w : World) (hT : NmArg w v l) (hn : l.length ≤ 65536) (hs : ∀ j (h : j < l.length), l[j].size ≤ 140737488351232) : Calls Try.prog 59 #[v] w fun e w' => ∃ v' : Value, e = .returned v' ∧ NmRow w' w.heap.size v' l ∧ Below w.heap.size w w' := by
  obtain ⟨A, c, rfl, hc, hA⟩ := hT.form
  have HA := Lib.hid hA
  have HS := Lib.hid hs
  have hn' : (l.length : Int) ≤ 65536 := by omega
  clear hA hT hs hc
  go_enter Try.func59, Try.ntmps59
  go_wp2_with (first
    | (at_make; go_must (refine wpList_make_k (enc := nmC) Try.underlying22 name_info (⟨#[]⟩ : ByteArray) rfl rfl rfl _ _ rfl rfl rfl rfl rfl (by omega) (by omega) (Nat.le_refl _) ?_; intro w1 r1 b1; have R1 := Lib.hid r1; have B1 := Lib.hid b1; clear r1 b1)))
  go_loopw [11] (fun i wr => ∃ (j : Nat) (X : List ByteArray), j ≤ l.length ∧ i = .int .i64 j ∧ Hid (Fil X l j) ∧ Hid (NmRow wr w.heap.size (.slice (some ⟨w.heap.size, 0, none⟩) l.length l.length) X) ∧ Hid (Below w.heap.size w wr)) (fun i _ => l.length - (intOf i).toNat)
  case atStart => exact ⟨0, List.replicate l.length ⟨#[]⟩, Nat.zero_le _, rfl, Lib.hid ⟨by simp, rfl⟩, R1, B1⟩
  case round =>
    obtain ⟨j, X, hj, rfl, HF, HR, HB⟩ := hrel
    have hb := HB.out
    by_cases hjl : j < l.length
    · obtain ⟨g, o, rfl, hg, hcell⟩ := HA.out (by omega)
      have f0 := (hb.cell (p := ⟨g, o + j, none⟩) hg).trans (hcell j hjl)
      have hXl := HF.out.1
      have HF2 := Lib.hid (HF.out.step hjl)
      have C1 := Lib.hid (fun w => clone_any l[j] w (HS.out j hjl))
      clear hcell HF
      generalize l[j] = s at *
      go_wp2_with (first
        | (go_at_call 36; go_must (refine (C1.out _).mono ?_; rintro e2 w2 ⟨rfl, b2⟩; have r2 := HR.out.keep b2; have HB2 := Lib.hid (hb.trans (b2.mono hb.size)); clear b2; obtain ⟨z0, z1⟩ := NmRow.one r2 j (by omega); have HS2 := Lib.hid (NmRow.set r2 j (by omega) s); clear r2)))
      go_roundw
      case rel => exact ⟨j + 1, X.set j s, by omega, val_int (by omega), HF2, HS2, Lib.hid (HB2.out.setCell (Nat.le_refl _) _)⟩
      case measure => simp [intOf]; omega
    · have hX := HF.out.done (show l.length ≤ j by omega)
      rw [hX] at HR
      clear hX HF
      go_wp2
      go_returns
      exact ⟨_, rfl, HR.out, hb⟩

end Go.Proofs.Yteccafndplaklaa

namespace Go.Proofs.Yteccafndplaklaa
open Go Go.RowKit Go.Joins
set_option linter.unusedVariables false
set_option linter.unusedSimpArgs false

def chR (N : List ByteArray) (R : List Rn) (s : ByteArray) : List Rn × Int := if ckC N R ≠ 0 then ([], ckC N R) else if ix N s < 0 then ([], 8) else (chn R (ix N s).toNat, 0)
theorem chR_n {N : List ByteArray} {R : List Rn} {s : ByteArray} (h : ¬ ckC N R = 0) : chR N R s = ([], ckC N R) := by unfold chR; rw [if_pos h]
theorem chR_8 {N : List ByteArray} {R : List Rn} {s : ByteArray} (h : ckC N R = 0) (h1 : ix N s < 0) : chR N R s = ([], 8) := by unfold chR; rw [if_neg (fun x => x h), if_pos h1]
theorem chR_0 {N : List ByteArray} {R : List Rn} {s : ByteArray} (h : ckC N R = 0) (h1 : ¬ ix N s < 0) : chR N R s = (chn R (ix N s).toNat, 0) := by unfold chR; rw [if_neg (fun x => x h), if_neg h1]
theorem ix_range (l : List ByteArray) (s : ByteArray) : ix l s = -1 ∨ (0 ≤ ix l s ∧ ix l s < l.length) := by
  have := ixF_range l s 0
  unfold ix
  omega
/-- Two cells of a block, behind what only makes memory. -/
theorem held2 {w W W' : World} {b : Nat} {x0 x1 : Value} (h : W.cell? ⟨b, 0, none⟩ = some x0 ∧ W.cell? ⟨b, 1, none⟩ = some x1 ∧ Below w.heap.size w W ∧ b < W.heap.size) (hb : Below W.heap.size W W') : W'.cell? ⟨b, 0, none⟩ = some x0 ∧ W'.cell? ⟨b, 1, none⟩ = some x1 ∧ Below w.heap.size w W' ∧ b < W'.heap.size := by
  obtain ⟨h0, h1, h2, h3⟩ := h
  have := hb.size
  exact ⟨(hb.cell (p := ⟨b, 0, none⟩) h3).trans h0, (hb.cell (p := ⟨b, 1, none⟩) h3).trans h1, h2.trans (hb.mono h2.size), by omega⟩
/-- The same, behind what changes one other block besides. -/
theorem held2k {w W W' : World} {b : Nat} {v : Value} {x0 x1 : Value} (h : W.cell? ⟨b, 0, none⟩ = some x0 ∧ W.cell? ⟨b, 1, none⟩ = some x1 ∧ Below w.heap.size w W ∧ b < W.heap.size) (hb : Below w.heap.size W W') (hk : ∀ k, k < W.heap.size → some k ≠ v.ownBlock → W'.heap[k]? = W.heap[k]?) (hv : some b ≠ v.ownBlock) : W'.cell? ⟨b, 0, none⟩ = some x0 ∧ W'.cell? ⟨b, 1, none⟩ = some x1 ∧ Below w.heap.size w W' ∧ b < W'.heap.size := by
  obtain ⟨h0, h1, h2, h3⟩ := h
  have := hb.size
  exact ⟨(kept_at hk ⟨b, 0, none⟩ h3 hv).trans h0, (kept_at hk ⟨b, 1, none⟩ h3 hv).trans h1, h2.trans hb, by omega⟩

set_option maxRecDepth 20000 in
set_option maxHeartbeats 8000000 in
theorem channel_any (N : List ByteArray) (R : List Rn) (vN vR : Value) (s : ByteArray) (w : World) (hN : NmArg w vN N) (hs : szs N) (hR : RnArg w vR R) (hn : R.length ≤ 1099511627776) :
    Calls Try.prog 60 #[.agg #[vN, vR], .string s] w fun e w' => ∃ v : Value, e = .returned (.tuple #[v, .int .i64 (chR N R s).2]) ∧ RnRow w' w.heap.size v (chR N R s).1 ∧ Below w.heap.size w w' := by
  have HK := Lib.hid (fun w' (hb : Below w.heap.size w w') => check_any N R vN vR w' (hN.keep hb) hs (hR.keep hb) hn)
  have HI := Lib.hid (fun w' (hb : Below w.heap.size w w') h => index_any N vN s w' (hN.keep hb) h)
  obtain ⟨A1, c1, rfl, hA1, hA1'⟩ := hN.form
  obtain ⟨A2, c2, rfl, hA⟩ := hR
  have HA := Lib.hid hA
  clear hA1' hN hA1 hs hA
  have B0 := Lib.hid (ba w (.cells #[.slice A1 N.length c1, .slice A2 R.length c2] 25))
  by_cases hz : ckC N R = 0
  · obtain ⟨hn2, _, hl0, hl16, _, hv⟩ := ckC_ok hz
    have HV := Lib.hid hv
    have HPS := Lib.hid ((vr_iff _ R 0 (by omega)).1 hv).2.1
    have HI2 := Lib.hid (fun w' hb => HI.out w' hb (by omega))
    have H8 := Lib.hid (chR_8 (s := s) hz); have H0 := Lib.hid (chR_0 (s := s) hz)
    have hmk := mk_range hl16
    rw [hz] at HK
    clear hz HI hv
    have hix := ix_range N s
    generalize chR N R s = q at *
    generalize ix N s = r at *
    by_cases hr : r < 0
    · have hq := H8.out hr
      subst hq
      clear hix
      go_enter Try.func60, Try.ntmps60
      go_wp2_with (first
        | (go_at_call 24; go_must (refine (HK.out _ B0.out).mono ?_; rintro e1 w1 ⟨rfl, b1⟩; have B1 := Lib.hid (B0.out.trans (b1.mono B0.out.size)); obtain ⟨g0, g1⟩ := box_two b1; clear b1))
        | (go_at_call 33; go_must (refine (HI2.out _ B1.out).mono ?_; rintro e2 w2 ⟨rfl, rfl⟩)))
      go_returns
      exact ⟨_, rfl, KRow.nil _ _, B1.out⟩
    · have hq := H0.out hr
      subst hq
      obtain ⟨k, rfl⟩ : ∃ k : Nat, r = k := ⟨r.toNat, by omega⟩
      have hk : k ≤ 15 := by omega
      rw [Int.toNat_natCast]
      have HLv := Lib.hid (fun x y w h0 h1 => levelOf_any x y k w h0 h1 hk)
      clear hix hr H8 H0
      go_enter Try.func60, Try.ntmps60
      go_wp2_with (first
        | (go_at_call 24; go_must (refine (HK.out _ B0.out).mono ?_; rintro e1 w1 ⟨rfl, b1⟩; have B1 := Lib.hid (B0.out.trans (b1.mono B0.out.size)); obtain ⟨g0, g1⟩ := box_two b1; clear b1))
        | (go_at_call 33; go_must (refine (HI2.out _ B1.out).mono ?_; rintro e2 w2 ⟨rfl, rfl⟩)))
      go_loopw [25, 8] (fun i v wr => ∃ j : Nat, j ≤ R.length ∧ i = .int .i64 j ∧ Hid (RnRow wr w.heap.size v (chn (R.take j) k)) ∧ Hid (Below w.heap.size w wr)) (fun i _ _ => R.length - (intOf i).toNat)
      case atStart => exact ⟨0, Nat.zero_le _, rfl, Lib.hid (KRow.nil _ _), B1⟩
      case round =>
        obtain ⟨j, hj, rfl, HR, HB⟩ := hrel
        have hb := HB.out
        by_cases hjl : j < R.length
        · obtain ⟨g, o, rfl, hg, hc⟩ := HA.out (by omega)
          obtain ⟨a0, a1⟩ := arg_two hc j hjl
          have f0 := (hb.cell (p := ⟨g, o + j * 2, none⟩) hg).trans a0
          have f1 := (hb.cell (p := ⟨g, o + j * 2 + 1, none⟩) hg).trans a1
          have hx := el_range HV.out j hjl
          have hr2 := lg_take_range HV.out (j + 1)
          have HST : Hid (chn (R.take (j + 1)) k = pt (chn (R.take j) k) (bt R[j].1 k, R[j].2)) := Lib.hid (chn_take R k j hjl)
          have hl : lg (chn (R.take j) k) + R[j].2 ≤ 1099511627776 := by
            rw [chn_lg]
            have := lg_take R j hjl
            omega
          have hlen := chn_len (R.take j) k
          rw [List.length_take] at hlen
          have CL : Hid (∀ V X w', RnRow w' w.heap.size V (chn (R.take j) k) → w.heap.size ≤ w'.heap.size → Calls Try.prog 78 #[V, .int .i64 X, .int .i64 R[j].2] w' fun e w'' => ∃ v : Value, e = .returned v ∧ RnRow w'' w.heap.size v (pt (chn (R.take j) k) (X, R[j].2)) ∧ Below w.heap.size w' w'' ∧ (∀ k, k < w'.heap.size → some k ≠ V.ownBlock → w''.heap[k]? = w'.heap[k]?)) := Lib.hid (fun V X w' h1 h2 => lengthened_any2 _ w.heap.size V X _ w' h1 h2 (chn_ps (ps_take HPS.out j) k) (by omega) hl (by omega))
          have HB2 := Lib.hid (show Below w.heap.size w (wr.alloc (.cells #[.int .i64 R[j].1, .int .i64 R[j].2] 48)) from hb.alloc hb.size _)
          have HR2 := Lib.hid (show RnRow (wr.alloc (.cells #[.int .i64 R[j].1, .int .i64 R[j].2] 48)) w.heap.size _ (chn (R.take j) k) from HR.out.alloc _)
          have HLv2 := Lib.hid (fun w' => HLv.out R[j].1 R[j].2 w' hx.1.1 (by omega))
          have G0 := (RowAt.new wr 48 #[.int .i64 R[j].1, .int .i64 R[j].2]).cell 0
          have G1 := (RowAt.new wr 48 #[.int .i64 R[j].1, .int .i64 R[j].2]).cell 1
          have hne := Lib.hid (fun q hq => (HR.out.lt q hq).2)
          clear a0 a1 hc hl hlen hr2
          generalize R[j].1 = x0 at *
          generalize R[j].2 = x1 at *
          generalize chn (R.take j) k = E at *
          obtain ⟨_, hx1, hx2⟩ := hx
          obtain ⟨UA, UN, UC, rfl, hUN⟩ := HR.out.form
          clear hUN
          have hne2 := Lib.hid (show some wr.heap.size ≠ (Value.slice UA UN UC).ownBlock from fun e => absurd (hne.out _ e.symm) (by omega))
          go_wp2
          have S0 : ((wr.alloc (.cells #[.int .i64 x0, .int .i64 x1] 48)).drew).cell? ⟨wr.heap.size, 0, none⟩ = some (.int .i64 x0) ∧ ((wr.alloc (.cells #[.int .i64 x0, .int .i64 x1] 48)).drew).cell? ⟨wr.heap.size, 1, none⟩ = some (.int .i64 x1) ∧ Below w.heap.size w ((wr.alloc (.cells #[.int .i64 x0, .int .i64 x1] 48)).drew) ∧ wr.heap.size < ((wr.alloc (.cells #[.int .i64 x0, .int .i64 x1] 48)).drew).heap.size := ⟨G0, G1, HB2.out.drew, by show wr.heap.size < (wr.alloc _).heap.size; rw [World.size_alloc]; omega⟩
          have R0 : Hid (RnRow ((wr.alloc (.cells #[.int .i64 x0, .int .i64 x1] 48)).drew) w.heap.size (.slice UA UN UC) E) := Lib.hid (HR2.out.drewN 1)
          clear G0 G1 f0 f1
          go_region_held3 (fun w' => w'.cell? ⟨wr.heap.size, 0, none⟩ = some (.int .i64 x0) ∧ w'.cell? ⟨wr.heap.size, 1, none⟩ = some (.int .i64 x1) ∧ Below w.heap.size w w' ∧ wr.heap.size < w'.heap.size) (first | assumption | go_keep)
            (first
              | (go_at_call 82; refine (HLv2.out _).mono ?_; rintro e5 w5 ⟨rfl, b5⟩; have h5 := held2 (by assumption) b5; have r5 := Lib.hid (KRow.keep R0.out b5))
              | (go_at_call 78; refine (CL.out _ _ _ r5.out h5.2.2.1.size).mono ?_; rintro e6 w6 ⟨v6, rfl, r6, b6, k6⟩; have h6 := held2k h5 b6 k6 hne2.out)
              | fail)
          clear h5 h6 S0
          have HR6 := Lib.hid (show RnRow w6 w.heap.size v6 (chn (R.take (j + 1)) k) from by rw [HST.out]; exact r6)
          rename_i hh
          have HB6 := Lib.hid hh.2.2.1
          clear hh r6 b6 k6 b5
          go_wp2
          go_roundw
          case rel => exact ⟨j + 1, by omega, val_int (by omega), HR6, HB6⟩
          case measure => simp [intOf]; omega
        · have he : R.take j = R := List.take_of_length_le (by omega)
          rw [he] at HR
          clear he
          go_wp2
          go_returns
          exact ⟨_, rfl, HR.out, hb⟩
  · have hq := chR_n (s := s) hz
    have hz' : (ckC N R == 0) = false := by simpa using hz
    rw [hq]
    clear hz hq HI HA
    generalize ckC N R = r at *
    go_enter Try.func60, Try.ntmps60
    go_wp2_with (first
      | (go_at_call 24; go_must (refine (HK.out _ B0.out).mono ?_; rintro e1 w1 ⟨rfl, b1⟩; have B1 := Lib.hid (B0.out.trans (b1.mono B0.out.size)); clear b1)))
    go_returns
    exact ⟨_, rfl, KRow.nil _ _, B1.out⟩

end Go.Proofs.Yteccafndplaklaa

namespace Go.Proofs.Yteccafndplaklaa
open Go Go.RowKit Go.Joins
set_option linter.unusedVariables false
set_option linter.unusedSimpArgs false

abbrev Sl := Option Addr × Nat × Nat
def slC (s : Sl) : Array Value := #[.slice s.1 s.2.1 s.2.2]
theorem slC_size (s : Sl) : (slC s).size = 1 := rfl
theorem slC_one (s : Sl) : (slC s).toList.all (·.oneCell') = true := rfl
def slV (s : Sl) : Value := .slice s.1 s.2.1 s.2.2
/-- A slice of waves that came in. -/
def WvArg (w : World) (v : Value) (ws : List (List Rn)) : Prop := ∃ S : List Sl, KArg slC 1 w v S ∧ S.length = ws.length ∧ ∀ i (h : i < ws.length) (h' : i < S.length), RnArg w (slV S[i]) ws[i]
theorem WvArg.keep {w w' : World} {v : Value} {ws : List (List Rn)} (h : WvArg w v ws) (hb : Below w.heap.size w w') : WvArg w' v ws := by
  obtain ⟨S, h1, h2, h3⟩ := h
  exact ⟨S, h1.keep hb, h2, fun i h h' => (h3 i h h').keep hb⟩
theorem WvArg.form {w : World} {v : Value} {ws : List (List Rn)} (h : WvArg w v ws) : ∃ A c, v = .slice A ws.length c ∧
    (0 < ws.length → ∃ g o, A = some ⟨g, o, none⟩ ∧ g < w.heap.size ∧ ∀ i (h : i < ws.length), ∃ B d, w.cell? ⟨g, o + i, none⟩ = some (.slice B ws[i].length d) ∧ RnArg w (.slice B ws[i].length d) ws[i]) := by
  obtain ⟨S, ⟨A, c, rfl, hA⟩, h2, h3⟩ := h
  refine ⟨A, c, by rw [h2], fun h0 => ?_⟩
  obtain ⟨g, o, e, hg, hc⟩ := hA (by omega)
  refine ⟨g, o, e, hg, fun i hi => ?_⟩
  have h4 := h3 i hi (by omega)
  have h5 := hc i (by omega) 0 (by omega)
  rw [Nat.mul_one] at h5
  obtain ⟨B, d, e4, h6⟩ := h4
  have e5 : slV S[i] = .slice B ws[i].length d := e4
  refine ⟨B, d, ?_, ⟨B, d, rfl, h6⟩⟩
  rw [← e5]
  exact h5

set_option maxHeartbeats 1000000 in
theorem isLevel_any (n : Int) (w : World) : Calls Try.prog 85 #[.int .i64 n] w fun e w' => e = .returned (.bool (decide (0 ≤ n ∧ n ≤ 1))) ∧ w = w' := by
  by_cases h0 : n = 0
  · subst h0
    go_enter Try.func85, Try.ntmps85
    go_wp2
    go_returns
    exact ⟨rfl, rfl⟩
  by_cases h1 : n = 1
  · subst h1
    go_enter Try.func85, Try.ntmps85
    go_wp2
    go_returns
    exact ⟨rfl, rfl⟩
  have e0 : (n == 0) = false := by simpa using h0
  have e1 : (n == 1) = false := by simpa using h1
  have H := Lib.hid (show decide (0 ≤ n ∧ n ≤ 1) = false from decide_eq_false (by omega))
  clear h0 h1
  go_enter Try.func85, Try.ntmps85
  go_wp2
  go_returns
  exact ⟨ret_bool H.out.symm, rfl⟩

set_option maxRecDepth 20000 in
set_option maxHeartbeats 4000000 in
theorem valid_any (l : List Rn) (V : Value) (w : World) (hT : RnArg w V l) : Calls Try.prog 79 #[V] w fun e w' => e = .returned (.bool (vl l)) ∧ Below w.heap.size w w' := by
  obtain ⟨A, c, rfl, hA⟩ := hT
  have HA := Lib.hid hA
  clear hA
  by_cases hn : 262144 < l.length
  · have hn' : (262144 : Int) < l.length := by omega
    have HV := Lib.hid (vl_big hn)
    clear hn HA
    go_enter Try.func79, Try.ntmps79
    go_wp2
    go_returns
    exact ⟨ret_bool HV.out.symm, Below.refl _ _⟩
  have hn' : (l.length : Int) ≤ 262144 := by omega
  rw [vl_of (by omega)]
  have CL := Lib.hid isLevel_any
  go_enter Try.func79, Try.ntmps79
  go_wp2
  go_loopw [11, 3] (fun i s wr => ∃ j : Nat, j ≤ l.length ∧ i = .int .i64 j ∧ s = .int .i64 (lg (l.take j)) ∧ Hid (vr 1 0 (l.take j) = true) ∧ Hid (Below w.heap.size w wr)) (fun i _ _ => l.length - (intOf i).toNat)
  case atStart => exact ⟨0, Nat.zero_le _, rfl, rfl, Lib.hid rfl, Lib.hid (Below.refl _ _)⟩
  case round =>
    obtain ⟨j, hj, rfl, rfl, HR, HB⟩ := hrel
    have hb := HB.out
    by_cases hjl : j < l.length
    · obtain ⟨g, o, rfl, hg, hc⟩ := HA.out (by omega)
      obtain ⟨a0, a1⟩ := arg_two hc j hjl
      have f0 := (hb.cell (p := ⟨g, o + j * 2, none⟩) hg).trans a0
      have f1 := (hb.cell (p := ⟨g, o + j * 2 + 1, none⟩) hg).trans a1
      have hr := vr_range HR.out
      have hst' : Hid (vr 1 0 (l.take (j + 1)) = okR 1 (lg (l.take j)) (l[j].1, l[j].2)) := Lib.hid (vr_step hjl HR.out)
      have hbd' : Hid (okR 1 (lg (l.take j)) (l[j].1, l[j].2) = false → vr 1 0 l = false) := Lib.hid (fun h => vr_bad (l := l) hjl h)
      have htk := Lib.hid (lg_take l j hjl)
      clear a0 a1 hc HR
      have HB2 := Lib.hid (show Below w.heap.size w (wr.alloc (.cells #[.int .i64 l[j].1, .int .i64 l[j].2] 48)) from hb.alloc hb.size _)
      generalize l[j].1 = x0 at *
      generalize l[j].2 = x1 at *
      generalize lg (l.take j) = S at *
      by_cases c0 : 0 ≤ x0 ∧ x0 ≤ 1
      · have d0 : decide (0 ≤ x0 ∧ x0 ≤ 1) = true := decide_eq_true c0
        have CL2 := Lib.hid (fun w => by have := CL.out x0 w; rw [d0] at this; exact this)
        clear CL d0
        by_cases c1 : x1 < 1
        · have HV := Lib.hid (hbd'.out (by unfold okR; rw [decide_eq_false (show ¬ (1 : Int) ≤ x1 by omega)]; simp))
          go_wp2_with (first
            | (go_at_call 85; go_must (refine (CL2.out _).mono ?_; rintro e1 w1 ⟨rfl, rfl⟩)))
          go_returns
          exact ⟨ret_bool HV.out.symm, HB2.out⟩
        by_cases c2 : 1099511627776 - S < x1
        · have HV := Lib.hid (hbd'.out (by unfold okR; rw [decide_eq_false (show ¬ x1 ≤ 1099511627776 - S by omega)]; simp))
          go_wp2_with (first
            | (go_at_call 85; go_must (refine (CL2.out _).mono ?_; rintro e1 w1 ⟨rfl, rfl⟩)))
          go_returns
          exact ⟨ret_bool HV.out.symm, HB2.out⟩
        have HS := Lib.hid (show vr 1 0 (l.take (j + 1)) = true by rw [hst'.out]; unfold okR; rw [decide_eq_true c0, decide_eq_true (show (1 : Int) ≤ x1 by omega), decide_eq_true (show x1 ≤ 1099511627776 - S by omega)]; rfl)
        clear c0
        go_wp2_with (first
          | (go_at_call 85; go_must (refine (CL2.out _).mono ?_; rintro e1 w1 ⟨rfl, rfl⟩)))
        go_roundw
        case rel => exact ⟨j + 1, by omega, val_int (by omega), val_int (by rw [htk.out]), HS, HB2⟩
        case measure => simp [intOf]; omega
      · have d0 : decide (0 ≤ x0 ∧ x0 ≤ 1) = false := decide_eq_false c0
        have CL2 := Lib.hid (fun w => by have := CL.out x0 w; rw [d0] at this; exact this)
        have HV := Lib.hid (hbd'.out (by unfold okR; rw [d0]; rfl))
        clear CL d0 c0
        go_wp2_with (first
          | (go_at_call 85; go_must (refine (CL2.out _).mono ?_; rintro e1 w1 ⟨rfl, rfl⟩)))
        go_returns
        exact ⟨ret_bool HV.out.symm, HB2.out⟩
    · have he : l.take j = l := List.take_of_length_le (by omega)
      have HV := Lib.hid (show vr 1 0 l = true by rw [← he]; exact HR.out)
      clear he
      go_wp2
      go_returns
      exact ⟨ret_bool HV.out.symm, hb⟩

/-- What is wrong with a list of waves. -/
def sameLg (ws : List (List Rn)) : Bool := ws.all fun w => decide (lg w = lg (ws.getD 0 []))
def ckW (ws : List (List Rn)) (n : Nat) : Int := if ws.length ≠ n then 1 else if ws.all vl = false then 1 else if sameLg ws = false then 17 else 0
theorem ckW_n {ws : List (List Rn)} {n : Nat} (h : ¬ ws.length = n) : ckW ws n = 1 := by unfold ckW; rw [if_pos h]
theorem ckW_1 {ws : List (List Rn)} {n : Nat} (h : ws.length = n) (h1 : ws.all vl = false) : ckW ws n = 1 := by unfold ckW; rw [if_neg (fun x => x h), if_pos h1]
theorem ckW_17 {ws : List (List Rn)} {n : Nat} (h : ws.length = n) (h1 : ws.all vl = true) (h2 : sameLg ws = false) : ckW ws n = 17 := by unfold ckW; rw [if_neg (fun x => x h), if_neg (by rw [h1]; decide), if_pos h2]
theorem ckW_0 {ws : List (List Rn)} {n : Nat} (h : ws.length = n) (h1 : ws.all vl = true) (h2 : sameLg ws = true) : ckW ws n = 0 := by unfold ckW; rw [if_neg (fun x => x h), if_neg (by rw [h1]; decide), if_neg (by rw [h2]; decide)]
theorem ckW_ok {ws : List (List Rn)} {n : Nat} (h : ckW ws n = 0) : ws.length = n ∧ ws.all vl = true ∧ sameLg ws = true := by
  unfold ckW at h
  split at h
  · omega
  · rename_i a
    split at h
    · omega
    · rename_i b
      split at h
      · omega
      · rename_i c
        exact ⟨by simpa using a, by simpa using b, by simpa using c⟩
theorem ckW_range (ws : List (List Rn)) (n : Nat) : 0 ≤ ckW ws n ∧ ckW ws n ≤ 17 := by unfold ckW; (repeat' split) <;> omega
theorem vls_at {ws : List (List Rn)} (h : ws.all vl = true) (i : Nat) (hi : i < ws.length) : ws[i].length ≤ 262144 ∧ vr 1 0 ws[i] = true := by
  have h1 := List.all_eq_true.1 h _ (List.getElem_mem hi)
  unfold vl at h1
  rw [Bool.and_eq_true, decide_eq_true_eq] at h1
  exact h1
theorem vls_no {ws : List (List Rn)} {j : Nat} (hj : j < ws.length) (h : vl ws[j] = false) : ws.all vl = false := by
  rw [List.all_eq_false]
  exact ⟨ws[j], List.getElem_mem hj, by rw [h]; decide⟩
theorem vls_take {ws : List (List Rn)} {j : Nat} (hj : j < ws.length) (h : (ws.take j).all vl = true) (h1 : vl ws[j] = true) : (ws.take (j + 1)).all vl = true := by
  rw [List.take_succ_eq_append_getElem hj, List.all_append, h]
  simp [h1]
def slT (ws : List (List Rn)) (T : Int) : Bool := ws.all fun w => decide (lg w = T)
theorem slT_take {ws : List (List Rn)} {T : Int} {j : Nat} (hj : j < ws.length) (h : slT (ws.take j) T = true) (h1 : lg ws[j] = T) : slT (ws.take (j + 1)) T = true := by
  unfold slT at *
  rw [List.take_succ_eq_append_getElem hj, List.all_append, h]
  simp [h1]
theorem slT_no {ws : List (List Rn)} {T : Int} {j : Nat} (hj : j < ws.length) (h : ¬ lg ws[j] = T) : slT ws T = false := by
  unfold slT
  rw [List.all_eq_false]
  exact ⟨ws[j], List.getElem_mem hj, by simpa using h⟩
theorem sameLg_eq {ws : List (List Rn)} (h : 0 < ws.length) : sameLg ws = slT ws (lg ws[0]) := by
  unfold sameLg slT
  simp [h]
theorem sameLg_at {ws : List (List Rn)} (h : sameLg ws = true) (i : Nat) (hi : i < ws.length) : lg ws[i] = lg (ws[0]'(by omega)) := by
  rw [sameLg_eq (by omega)] at h
  simpa using List.all_eq_true.1 h _ (List.getElem_mem hi)

theorem heldW {w W W' : World} {g o : Nat} {x : Value} (h : W.cell? ⟨g, o, none⟩ = some x ∧ Below w.heap.size w W ∧ g < W.heap.size) (hb : Below W.heap.size W W') : W'.cell? ⟨g, o, none⟩ = some x ∧ Below w.heap.size w W' ∧ g < W'.heap.size := by
  obtain ⟨h0, h1, h2⟩ := h
  have := hb.size
  exact ⟨(hb.cell (p := ⟨g, o, none⟩) h2).trans h0, h1.trans (hb.mono h1.size), by omega⟩

set_option maxRecDepth 20000 in
set_option maxHeartbeats 4000000 in
theorem checkWaves_any (ws : List (List Rn)) (V : Value) (n : Nat) (w : World) (hT : WvArg w V ws) (hn0 : 0 < n) (hn : n ≤ 16) : Calls Try.prog 57 #[V, .int .i64 n] w fun e w' => e = .returned (.int .i64 (ckW ws n)) ∧ Below w.heap.size w w' := by
  obtain ⟨A, c, rfl, hA⟩ := hT.form
  have HA := Lib.hid hA
  clear hA hT
  by_cases hl : ws.length = n
  · have H1 := Lib.hid (fun a => ckW_1 hl a); have H17 := Lib.hid (fun a b => ckW_17 hl a b); have H0 := Lib.hid (fun a b => ckW_0 hl a b)
    subst hl
    have hn' : (ws.length : Int) ≤ 16 := by omega
    generalize ckW ws ws.length = r at *
    go_enter Try.func57, Try.ntmps57
    go_wp2
    go_loopw [15] (fun i wr => ∃ j : Nat, j ≤ ws.length ∧ i = .int .i64 j ∧ Hid ((ws.take j).all vl = true) ∧ Hid (Below w.heap.size w wr)) (fun i _ => ws.length - (intOf i).toNat)
    case atStart => exact ⟨0, Nat.zero_le _, rfl, Lib.hid rfl, Lib.hid (Below.refl _ _)⟩
    case round =>
      obtain ⟨j, hj, rfl, HR, HB⟩ := hrel
      have hb := HB.out
      by_cases hjl : j < ws.length
      · obtain ⟨g, o, rfl, hg, hcell⟩ := HA.out (by omega)
        obtain ⟨B, d, hc1, hc2⟩ := hcell j hjl
        have f0 := (hb.cell (p := ⟨g, o + j, none⟩) hg).trans hc1
        have C1 := valid_any ws[j] _ wr (hc2.keep hb)
        clear hcell hc1 hc2
        cases hh : vl ws[j] with
        | true =>
          have HR2 := Lib.hid (vls_take hjl HR.out hh)
          rw [hh] at C1
          have C2 := Lib.hid C1
          clear C1 hh HR
          go_wp2_with (first
            | (go_at_call 79; go_must (refine C2.out.mono ?_; rintro e1 w1 ⟨rfl, b1⟩)))
          go_roundw
          case rel => exact ⟨j + 1, by omega, val_int (by omega), HR2, Lib.hid (hb.trans (b1.mono hb.size))⟩
          case measure => simp [intOf]; omega
        | false =>
          have HV := Lib.hid (H1.out (vls_no hjl hh))
          rw [hh] at C1
          have C2 := Lib.hid C1
          clear C1 hh HR
          go_wp2_with (first
            | (go_at_call 79; go_must (refine C2.out.mono ?_; rintro e1 w1 ⟨rfl, b1⟩)))
          go_returns
          exact ⟨ret_int HV.out.symm, hb.trans (b1.mono hb.size)⟩
      · have hall : ws.all vl = true := by rw [← List.take_of_length_le (show ws.length ≤ j by omega)]; exact HR.out
        have HAll := Lib.hid hall
        obtain ⟨g, o, rfl, hg, hcell⟩ := HA.out (by omega)
        obtain ⟨B0, d0, hz1, hz2⟩ := hcell 0 (by omega)
        have HZ := Lib.hid (fun w' (hb : Below w.heap.size w w') => (hb.cell (p := ⟨g, o + 0, none⟩) hg).trans hz1)
        have hv0 := vls_at hall 0 (by omega)
        have C0 := Lib.hid (fun w' (hb : Below w.heap.size w w') => long_any 1 ws[0] _ w' (hz2.keep hb) (by omega) hv0.2)
        have HSm := Lib.hid (sameLg_eq (ws := ws) (by omega))
        have HCell := Lib.hid hcell
        obtain ⟨T, hT⟩ : ∃ T, lg ws[0] = T := ⟨_, rfl⟩
        rw [hT] at C0 HSm
        clear HR hall hv0 hz1 hz2 hcell hT
        go_wp2
        go_loopw [25] (fun i wr => ∃ j : Nat, j ≤ ws.length ∧ i = .int .i64 j ∧ Hid (slT (ws.take j) T = true) ∧ Hid (Below w.heap.size w wr)) (fun i _ => ws.length - (intOf i).toNat)
        case atStart => exact ⟨0, Nat.zero_le _, rfl, Lib.hid rfl, HB⟩
        case round =>
          obtain ⟨k, hk, rfl, HD, HB⟩ := hrel
          have hb := HB.out
          by_cases hkl : k < ws.length
          · obtain ⟨B, d, hc1, hc2⟩ := HCell.out k hkl
            have f0 := (hb.cell (p := ⟨g, o + k, none⟩) hg).trans hc1
            have hz := HZ.out wr hb
            have hvk := vls_at HAll.out k hkl
            have CK := Lib.hid (fun w' (hb : Below w.heap.size w w') => long_any 1 ws[k] _ w' (hc2.keep hb) (by omega) hvk.2)
            have S0 : wr.drew.cell? ⟨g, o + 0, none⟩ = some (.slice B0 ws[0].length d0) ∧ Below w.heap.size w wr.drew ∧ g < wr.drew.heap.size := ⟨hz, hb.drew, Nat.lt_of_lt_of_le hg hb.size⟩
            rw [Nat.add_zero] at S0
            have HS0 := Lib.hid S0
            have h0l : (0 : Int) < ws.length := by omega
            have C0' := Lib.hid (fun w' (h : w'.cell? ⟨g, o, none⟩ = some (.slice B0 ws[0].length d0) ∧ Below w.heap.size w w' ∧ g < w'.heap.size) => C0.out w' h.2.1)
            have CK' := Lib.hid (fun w' (h : w'.cell? ⟨g, o, none⟩ = some (.slice B0 ws[0].length d0) ∧ Below w.heap.size w w' ∧ g < w'.heap.size) => CK.out w' h.2.1)
            clear hc1 hc2 hz hvk CK HCell HZ C0
            generalize ws[k].length = nk at *
            generalize ws[0].length = n0 at *
            by_cases he : lg ws[k] = T
            · have HD2 := Lib.hid (slT_take hkl HD.out he)
              rw [he] at CK'
              clear he HD
              go_wp2
              clear f0
              go_region_held3 (fun w' => w'.cell? ⟨g, o, none⟩ = some (.slice B0 n0 d0) ∧ Below w.heap.size w w' ∧ g < w'.heap.size) (first | assumption | go_keep)
                (first
                  | (go_at_call_of 52 (Value.slice B0 n0 d0); refine (C0'.out _ (by first | assumption | exact HS0.out)).mono ?_; rintro e5 w5 ⟨rfl, b5⟩; have h5 := heldW (by first | assumption | exact HS0.out) b5)
                  | (go_at_call_of 52 (Value.slice B nk d); refine (CK'.out _ (by first | assumption | exact HS0.out)).mono ?_; rintro e6 w6 ⟨rfl, b6⟩; have h6 := heldW (by first | assumption | exact HS0.out) b6)
                  | fail)
              all_goals (rename_i hh; have Bz := Lib.hid hh.2.1; clear hh)
              all_goals go_wp2
              all_goals go_roundw
              all_goals first
                | exact ⟨k + 1, by omega, val_int (by omega), HD2, Bz⟩
                | (simp [intOf]; omega)
            · have HV := Lib.hid (H17.out HAll.out (by rw [HSm.out]; exact slT_no hkl he))
              have hne : (lg ws[k] == T) = false := by simpa using he
              clear he HD
              generalize lg ws[k] = T2 at *
              go_wp2
              clear f0
              go_region_held3 (fun w' => w'.cell? ⟨g, o, none⟩ = some (.slice B0 n0 d0) ∧ Below w.heap.size w w' ∧ g < w'.heap.size) (first | assumption | go_keep)
                (first
                  | (go_at_call_of 52 (Value.slice B0 n0 d0); refine (C0'.out _ (by first | assumption | exact HS0.out)).mono ?_; rintro e5 w5 ⟨rfl, b5⟩; have h5 := heldW (by first | assumption | exact HS0.out) b5)
                  | (go_at_call_of 52 (Value.slice B nk d); refine (CK'.out _ (by first | assumption | exact HS0.out)).mono ?_; rintro e6 w6 ⟨rfl, b6⟩; have h6 := heldW (by first | assumption | exact HS0.out) b6)
                  | fail)
              all_goals (rename_i hh; have Bz := Lib.hid hh.2.1; clear hh)
              all_goals go_wp2
              all_goals go_returns
              all_goals exact ⟨ret_int HV.out.symm, Bz.out⟩
          · have HV := Lib.hid (H0.out HAll.out (by rw [HSm.out, ← List.take_of_length_le (show ws.length ≤ k by omega)]; exact HD.out))
            go_wp2
            go_returns
            exact ⟨ret_int HV.out.symm, hb⟩
  · have HV := Lib.hid (ckW_n hl)
    have hl' : ((ws.length : Int) == (n : Int)) = false := by simpa using fun e => hl (by omega)
    clear hl HA
    go_enter Try.func57, Try.ntmps57
    go_wp2
    go_returns
    exact ⟨ret_int HV.out.symm, Below.refl _ _⟩

end Go.Proofs.Yteccafndplaklaa

namespace Go.Proofs.Yteccafndplaklaa
open Go Go.ChangeShapes Go.WideShapes Go.ChangeAt Go.RowKit
set_option linter.unusedVariables false

instance rnInh : Inhabited Rn := ⟨(0, 0)⟩
instance baInh : Inhabited ByteArray := ⟨⟨#[]⟩⟩
theorem cells_run : Try.prog.cellsOf 48 = 2 := by kernel_rfl
theorem cells_str : Try.prog.cellsOf 9 = 1 := by kernel_rfl
theorem cells_runs : Try.prog.cellsOf 23 = 1 := by kernel_rfl
section
variable {H : Type} {enc : TypeId × Value → H} {P : Program} {w : World} {b0 : Nat} {r : Reach} {t : TypeId} {v : Value} {d : DataW H} {p : List MemPlace}
/-- A slice of structs. -/
theorem open_rows2 {A : Option Addr} {n0 c0 : Nat} {t e : TypeId} {fs : Array Field} {m : Nat} (ht : P.underlying t = some (.slice e)) (he : P.underlying e = some (.struct fs)) (hc : P.cellsOf e = m) (hpos : 0 < m)
    (h : DataW.Trod enc P w 0 (fun _ => true) true t (.slice A n0 c0) d p) :
    n0 ≤ c0 ∧
      (0 < n0 → ∃ (g o : Nat) (es sp : List (DataW H)), A = some ⟨g, o, none⟩ ∧ g < w.heap.size ∧ d = .slice es sp ∧ es.length = n0 ∧
        ∀ j, j < n0 → ∃ (cs : List Value) (ys : List (DataW H)) (n : Nat), cs.length = m ∧ (∀ i, i < m → w.cell? ⟨g, o + j * m + i, none⟩ = cs[i]?) ∧ es[j]? = some (.agg ys) ∧
          ∀ (i : Nat) (f : Field), fs[i]? = some f → P.cellsOf f.type = 1 → f.offset < m → ∃ c y q, cs[f.offset]? = some c ∧ ys[i]? = some y ∧ DataW.trod enc P w 0 (fun _ => true) true n f.type [c] = some (y, q)) := by
  obtain ⟨fuel, hf⟩ := h
  rcases Go.Deep.open_slice ht hf with ⟨h1, h2⟩ | ⟨a, len, cap, m', n, D, Pl, h1, hb, hl, hm, hmm, h2, hx⟩
  · simp only [Value.cells, List.cons.injEq, Value.slice.injEq, and_true] at h1
    obtain ⟨rfl, rfl, rfl⟩ := h1
    exact ⟨Nat.le_refl _, fun h => absurd h (by omega)⟩
  · simp only [Value.cells, List.cons.injEq, Value.slice.injEq, and_true] at h1
    obtain ⟨rfl, rfl, rfl⟩ := h1
    simp only [Prod.mk.injEq] at h2
    refine ⟨hl, fun h0 => ?_⟩
    rw [hc] at hx
    simp only [if_true] at hmm
    have key : ∀ j, j < n0 → ∃ cs', w.cells? 0 (a.add (j * m)) m = some cs' ∧ DataW.trod enc P w 0 (fun _ => true) true n e cs' = some (D j, Pl j) := fun j hj => hx j (by omega)
    have hspot : a.spot = none := by
      obtain ⟨cs', k1, _⟩ := key 0 h0
      obtain ⟨_, hlen, hcell⟩ := World.cells?_some k1
      have h1 := hcell 0 hpos
      rw [List.getElem?_eq_getElem (by omega)] at h1
      simpa [Addr.add] using World.cell?_spot h1
    obtain ⟨g, o, s⟩ := a
    simp only at hspot
    subst hspot
    have cellAt : ∀ j, j < n0 → ∀ cs' : List Value, w.cells? 0 ((⟨g, o, none⟩ : Addr).add (j * m)) m = some cs' → cs'.length = m ∧ ∀ i, i < m → w.cell? ⟨g, o + j * m + i, none⟩ = cs'[i]? := by
      intro j hj cs' k1
      obtain ⟨_, hlen, hcell⟩ := World.cells?_some k1
      refine ⟨hlen, fun i hi => ?_⟩
      have h1 := hcell i hi
      rwa [Go.Deep.add_add, Addr.add_lit, ← Nat.add_assoc] at h1
    obtain ⟨cs0, k0, _⟩ := key 0 h0
    obtain ⟨l0, q0⟩ := cellAt 0 h0 cs0 k0
    have q00 := q0 0 hpos
    rw [List.getElem?_eq_getElem (by omega)] at q00
    refine ⟨g, o, _, _, rfl, World.block_lt_of_cell? w _ q00, h2.1, by simp, fun j hj => ?_⟩
    obtain ⟨cs', k1, k2⟩ := key j hj
    obtain ⟨lj, qj⟩ := cellAt j hj cs' k1
    obtain ⟨xs, n', rfl, hx', _, hl', hfd⟩ := DataW.trod_struct he k2
    simp only [Prod.mk.injEq] at hx'
    refine ⟨cs', xs.map (·.1), n', lj, qj, by rw [List.getElem?_map, List.getElem?_range hj]; simp [hx'.1], fun i f hi h1 ho => ?_⟩
    have hlt : i < fs.size := (Array.getElem?_eq_some_iff.1 hi).1
    have h3 := hfd i f hi
    have h4 : i < xs.length := by omega
    rw [h1, List.getElem?_eq_getElem h4] at h3
    refine ⟨cs'[f.offset]'(by omega), xs[i].1, xs[i].2, List.getElem?_eq_getElem _, by rw [List.getElem?_map, List.getElem?_eq_getElem h4]; rfl, ?_⟩
    rw [← Prod.eta xs[i]] at h3
    rw [← h3]
    congr 1
    apply List.ext_getElem?
    intro k
    rw [List.getElem?_take, List.getElem?_drop]
    cases k with
    | zero => simp [List.getElem?_eq_getElem (show f.offset < cs'.length by omega)]
    | succ k => simp
end
theorem open_struct2 {H : Type} {enc : TypeId × Value → H} {P : Program} {w : World} {b0 base : Nat} {spare : Nat → Bool} {held : Bool} {r : Reach} {t : TypeId} {v : Value} {d : DataW H} {p : List MemPlace} {fs : Array Field} (hs : P.underlying t = some (.struct fs)) (hv : Value.okWide P w r b0 t v) (h : DataW.Trod enc P w base spare held t v d p) :
    ∃ (cs : Array Value) (n : Nat) (ys : List (DataW H)), v = .agg cs ∧ cs.size = P.cellsOf t ∧ d = .agg ys ∧ ∀ (i : Nat) (f : Field), fs[i]? = some f → P.cellsOf f.type = 1 → f.offset < cs.size → ∃ y q, ys[i]? = some y ∧ DataW.trod enc P w base spare held n f.type [cs.getD f.offset default] = some (y, q) := by
  obtain ⟨cs, rfl, hsz⟩ := okWide_struct hs hv
  obtain ⟨fuel, hf⟩ := h
  obtain ⟨xs, n, rfl, q1, q2, hl, hx⟩ := DataW.trod_struct hs hf
  have hd1 : d = .agg (xs.map (·.1)) := by first | exact (Prod.mk.inj q1).1 | exact (Prod.mk.inj q2).1
  refine ⟨cs, n, xs.map (·.1), rfl, hsz, hd1, fun i f hi h1 ho => ?_⟩
  have hlt : i < fs.size := (Array.getElem?_eq_some_iff.1 hi).1
  have h2 := hx i f hi
  have h3 : i < xs.length := by omega
  rw [h1, List.getElem?_eq_getElem h3] at h2
  refine ⟨xs[i].1, xs[i].2, by rw [List.getElem?_map, List.getElem?_eq_getElem h3]; rfl, ?_⟩
  rw [← h2]
  congr 1
  have e : (Value.agg cs).cells.toList = cs.toList := rfl
  rw [e]
  apply List.ext_getElem?
  intro j
  rw [List.getElem?_take, List.getElem?_drop]
  cases j with
  | zero => simp [ho]
  | succ j => simp

section
variable {H : Type} {enc : TypeId × Value → H} {W : World}
/-- A slice of runs that came in. -/
theorem open_runs {c : Value} {d : DataW H} {p : List MemPlace} {n : Nat} (h : DataW.trod enc Try.prog W 0 (fun _ => true) true n 23 [c] = some (d, p)) :
    ∃ l : List Rn, RnArg W c l := by
  obtain ⟨A, len, cap, rfl⟩ : ∃ A len cap, c = .slice A len cap := by
    rcases Go.Deep.open_slice Try.underlying23 h with ⟨h1, h2⟩ | ⟨a, len, cap, m', n, D, Pl, h1, _⟩
    · simp only [List.cons.injEq, and_true] at h1
      exact ⟨_, _, _, h1⟩
    · simp only [List.cons.injEq, and_true] at h1
      exact ⟨_, _, _, h1⟩
  obtain ⟨hlc, hel⟩ := open_rows2 Try.underlying23 Try.underlying48 cells_run (by omega) ⟨n, h⟩
  rcases Nat.eq_zero_or_pos len with h0 | h0
  · subst h0
    exact ⟨[], A, cap, rfl, fun h => absurd h (by simp)⟩
  · obtain ⟨g, o, es, sp, rfl, hg, rfl, hes, hj⟩ := hel h0
    have key : ∀ j, j < len → ∃ t : Rn, ∀ i, i < 2 → W.cell? ⟨g, o + j * 2 + i, none⟩ = (rnC t)[i]? := by
      intro j hjl
      obtain ⟨cs, ys, n, hcl, hcell, hys, hf⟩ := hj j hjl
      obtain ⟨c0, y0, q0, k0, l0, t0⟩ := hf 0 _ rfl (by kernel_rfl) (by decide)
      obtain ⟨c1, y1, q1, k1, l1, t1⟩ := hf 1 _ rfl (by kernel_rfl) (by decide)
      obtain ⟨x0, e0, _, w0⟩ := DataW.trod_int Try.underlying3 t0
      obtain ⟨x1, e1, _, w1⟩ := DataW.trod_int Try.underlying3 t1
      simp only [List.cons.injEq, and_true] at e0 e1
      subst e0 e1
      have k0' : cs[0]? = some (.int .i64 x0) := k0
      have k1' : cs[1]? = some (.int .i64 x1) := k1
      refine ⟨(x0, x1), fun i hi => ?_⟩
      rw [hcell i hi]
      match i, hi with
      | 0, _ => exact k0'
      | 1, _ => exact k1'
    obtain ⟨F, hF⟩ := Go.Deep.choose_lt key
    have hlen : ((List.range len).map F).length = len := by simp
    refine ⟨(List.range len).map F, some ⟨g, o, none⟩, cap, by rw [hlen], fun _ => ⟨g, o, rfl, hg, fun j hj i hi => ?_⟩⟩
    rw [hlen] at hj
    rw [hF j hj i hi]
    simp
/-- A slice of names that came in. -/
theorem open_names {c : Value} {d : DataW H} {p : List MemPlace} {n : Nat} (h : DataW.trod enc Try.prog W 0 (fun _ => true) true n 22 [c] = some (d, p)) :
    ∃ l : List ByteArray, NmArg W c l ∧ szs l := by
  rcases Go.Deep.open_slice1 Try.underlying22 cells_str h with ⟨h1, h2⟩ | ⟨a, len, cap, m, n, V, D, Pl, h1, hb, hl, hm, hmm, h2, hx⟩
  · simp only [List.cons.injEq, and_true] at h1
    subst h1
    exact ⟨[], NmArg.of rfl (Nat.le_refl _) (fun h => absurd h (by simp)), fun s h => absurd h (by simp)⟩
  · simp only [List.cons.injEq, and_true] at h1
    subst h1
    simp only [if_true] at hmm
    have key : ∀ j, j < len → ∃ t : ByteArray, W.cell? (a.add j) = some (.string t) ∧ t.size ≤ 9223372036854775807 := by
      intro j hj
      obtain ⟨k1, k2⟩ := hx j (by omega)
      obtain ⟨x0, e0, _, w0⟩ := DataW.trod_string Try.underlying9 k2
      simp only [List.cons.injEq, and_true] at e0
      exact ⟨x0, by rw [k1, e0], by have e : maxLen = 9223372036854775807 := rfl; omega⟩
    obtain ⟨F, hF⟩ := Go.Deep.choose_lt key
    have hlen : ((List.range len).map F).length = len := by simp
    have hsz : szs ((List.range len).map F) := by
      intro s hs
      obtain ⟨j, hj, rfl⟩ := List.mem_map.1 hs
      exact (hF j (List.mem_range.1 hj)).2
    rcases Nat.eq_zero_or_pos len with h0 | h0
    · subst h0
      exact ⟨[], NmArg.of rfl (by simp) (fun h => absurd h (by simp)), fun s h => absurd h (by simp)⟩
    · have hspot : a.spot = none := by simpa [Addr.add] using World.cell?_spot (hF 0 h0).1
      obtain ⟨g, o, s⟩ := a
      simp only at hspot
      subst hspot
      have h00 := (hF 0 h0).1
      refine ⟨(List.range len).map F, NmArg.of (by rw [hlen]) (by rw [hlen]; exact hl) (fun _ => ⟨g, o, rfl, World.block_lt_of_cell? W _ h00, fun j hj => ?_⟩), hsz⟩
      rw [hlen] at hj
      have hj2 := (hF j hj).1
      rw [Addr.add_lit] at hj2
      rw [hj2]
      simp
/-- A slice of waves that came in. -/
theorem open_waves {c : Value} {d : DataW H} {p : List MemPlace} {n : Nat} (h : DataW.trod enc Try.prog W 0 (fun _ => true) true n 51 [c] = some (d, p)) :
    ∃ ws : List (List Rn), WvArg W c ws := by
  rcases Go.Deep.open_slice1 Try.underlying51 cells_runs h with ⟨h1, h2⟩ | ⟨a, len, cap, m, n, V, D, Pl, h1, hb, hl, hm, hmm, h2, hx⟩
  · simp only [List.cons.injEq, and_true] at h1
    subst h1
    exact ⟨[], [], ⟨none, 0, rfl, fun h => absurd h (by simp)⟩, rfl, fun i h => absurd h (by simp)⟩
  · simp only [List.cons.injEq, and_true] at h1
    subst h1
    simp only [if_true] at hmm
    have key : ∀ j, j < len → ∃ t : Sl × List Rn, W.cell? (a.add j) = some (slV t.1) ∧ RnArg W (slV t.1) t.2 := by
      intro j hj
      obtain ⟨k1, k2⟩ := hx j (by omega)
      obtain ⟨l, hl⟩ := open_runs k2
      obtain ⟨A', c', e', hA'⟩ := id hl
      refine ⟨((A', l.length, c'), l), ?_, ?_⟩
      · rw [k1, e']; rfl
      · rw [e'] at hl; exact hl
    obtain ⟨F, hF⟩ := Go.Deep.choose_lt key
    rcases Nat.eq_zero_or_pos len with h0 | h0
    · subst h0
      exact ⟨[], [], ⟨some a, cap, rfl, fun h => absurd h (by simp)⟩, rfl, fun i h => absurd h (by simp)⟩
    · have hspot : a.spot = none := by simpa [Addr.add] using World.cell?_spot (hF 0 h0).1
      obtain ⟨g, o, s⟩ := a
      simp only at hspot
      subst hspot
      have h00 := (hF 0 h0).1
      refine ⟨(List.range len).map (fun j => (F j).2), (List.range len).map (fun j => (F j).1), ⟨some ⟨g, o, none⟩, cap, by simp, fun _ => ⟨g, o, rfl, World.block_lt_of_cell? W _ h00, fun j hj i hi => ?_⟩⟩, by simp, fun i h h' => ?_⟩
      · obtain rfl : i = 0 := by omega
        have hj' : j < len := by simpa using hj
        have hj2 := (hF j hj').1
        rw [Addr.add_lit] at hj2
        rw [Nat.mul_one, Nat.add_zero, hj2]
        simp [slC, slV]
      · have hi' : i < len := by simpa using h
        have := (hF i hi').2
        simpa using this
set_option maxRecDepth 100000 in
/-- A capture that came in. -/
theorem open_capture {base : Nat} {v : Value} {d : DataW H} {p : List MemPlace} (hv : Value.okWide Try.prog W .any base 25 v) (h : DataW.Trod enc Try.prog W 0 (fun _ => true) true 25 v d p) :
    ∃ (vN vR : Value) (N : List ByteArray) (R : List Rn), v = .agg #[vN, vR] ∧ NmArg W vN N ∧ szs N ∧ RnArg W vR R := by
  obtain ⟨cs, n, ys, rfl, hsz, rfl, hx⟩ := open_struct2 Try.underlying25 hv h
  have h2 : cs.size = 2 := hsz.trans (by kernel_rfl)
  rw [arr2 h2]
  obtain ⟨y0, q0, l0, k0⟩ := hx 0 _ rfl (by kernel_rfl) (by show 0 < cs.size; omega)
  obtain ⟨y1, q1, l1, k1⟩ := hx 1 _ rfl (by kernel_rfl) (by show 1 < cs.size; omega)
  obtain ⟨N, hN, hs⟩ := open_names k0
  obtain ⟨R, hR⟩ := open_runs k1
  exact ⟨_, _, N, R, rfl, hN, hs, hR⟩
set_option maxRecDepth 100000 in
/-- A ratio that came in. -/
theorem open_ratio {base : Nat} {v : Value} {d : DataW H} {p : List MemPlace} (hv : Value.okWide Try.prog W .any base 37 v) (h : DataW.Trod enc Try.prog W 0 (fun _ => true) true 37 v d p) :
    ∃ (n d' : Int), v = .agg #[.int .i64 n, .int .i64 d'] ∧ (-9223372036854775808 ≤ n ∧ n ≤ 9223372036854775807) ∧ (-9223372036854775808 ≤ d' ∧ d' ≤ 9223372036854775807) := by
  obtain ⟨cs, n, ys, rfl, hsz, rfl, hx⟩ := open_struct2 Try.underlying37 hv h
  have h2 : cs.size = 2 := hsz.trans (by kernel_rfl)
  rw [arr2 h2]
  obtain ⟨y0, q0, l0, k0⟩ := hx 0 _ rfl (by kernel_rfl) (by show 0 < cs.size; omega)
  obtain ⟨y1, q1, l1, k1⟩ := hx 1 _ rfl (by kernel_rfl) (by show 1 < cs.size; omega)
  obtain ⟨x0, e0, _, w0⟩ := DataW.trod_int Try.underlying3 k0
  obtain ⟨x1, e1, _, w1⟩ := DataW.trod_int Try.underlying3 k1
  simp only [List.cons.injEq, and_true] at e0 e1
  have b0 := bounds_i64 w0
  have b1 := bounds_i64 w1
  have e0' : cs.getD 0 default = .int .i64 x0 := e0
  have e1' : cs.getD 1 default = .int .i64 x1 := e1
  exact ⟨x0, x1, by rw [e0', e1'], by omega, by omega⟩
end

end Go.Proofs.Yteccafndplaklaa

namespace Go.Proofs.Yteccafndplaklaa
open Go Go.RowKit Go.Joins
set_option linter.unusedVariables false
set_option linter.unusedSimpArgs false

theorem posAt {w : World} {b : Nat} {T : TypeId} {L : List Ps} (h : RowAt w b T (kArr rnC L)) (j : Nat) (hj : j < L.length) : w.cell? ⟨b, j * 2, none⟩ = some (.int .i64 L[j].1) ∧ w.cell? ⟨b, j * 2 + 1, none⟩ = some (.int .i64 L[j].2) ∧ w.frozen? ⟨b, j * 2, none⟩ = false ∧ w.frozen? ⟨b, j * 2 + 1, none⟩ = false :=
  ⟨kArr_cell rnC_size h j hj 0 (by omega), kArr_cell rnC_size h j hj 1 (by omega), h.frozen _, h.frozen _⟩
theorem wrap_bit {x : Int} {k : Nat} (hx : 0 ≤ x ∧ x ≤ 1) (hk : k ≤ 15) : wrap64 (x * 2 ^ k) = x * 2 ^ k := by
  have e : (2 : Int) ^ k = ((2 ^ k : Nat) : Int) := by simp
  have h2 : 2 ^ k ≤ 2 ^ 15 := Nat.pow_le_pow_right (by omega) hk
  have : x = 0 ∨ x = 1 := by omega
  rw [e]
  generalize 2 ^ k = P at *
  rcases this with rfl | rfl
  · simp [wrap64]
  · unfold wrap64; omega
theorem get_app {G Z : List Ps} {i : Nat} (hi : i < G.length) (h : i < (G ++ Z).length) : (G ++ Z)[i] = G[i] := List.getElem_append_left hi

set_option maxRecDepth 20000 in
set_option maxHeartbeats 8000000 in
theorem common_any (ws : List (List Rn)) (V : Value) (T t : Int) (G Z : List Ps) (w : World) (hT : WvArg w V ws) (hw : Wv ws T) (hn0 : 0 < ws.length) (hn : ws.length ≤ 16) (hG : Pa ws t G) (hZ : (G ++ Z).length = 16) (ht0 : 0 ≤ t) (ht : t < T) :
    Calls Try.prog 80 #[V, .agg (kArr rnC (G ++ Z))] w fun e w' => e = .returned (.agg #[.int .i64 (lvl ws t), .int .i64 (mnF 1099511627776 ws G)]) ∧ Below w.heap.size w w' := by
  obtain ⟨A, c, rfl, hA⟩ := hT.form
  have HA := Lib.hid hA
  have HW := Lib.hid hw
  have HPa := Lib.hid hG
  have hGl := hG.1
  have HZ := Lib.hid hZ
  have hn' : (ws.length : Int) ≤ 16 := by omega
  have H01 := Lib.hid (Pa_01 hw ht0 ht)
  have P1 := Lib.hid (((RowAt.new w 98 (kArr rnC (G ++ Z))).alloc (.cells #[.int .i64 0, .int .i64 0] 48)).alloc (.cells #[.int .i64 0, .int .i64 1099511627776] 48))
  have P2 := (RowAt.new (w.alloc (.cells (kArr rnC (G ++ Z)) 98)) 48 #[.int .i64 0, .int .i64 0]).alloc (.cells #[.int .i64 0, .int .i64 1099511627776] 48)
  have P3 := RowAt.new ((w.alloc (.cells (kArr rnC (G ++ Z)) 98)).alloc (.cells #[.int .i64 0, .int .i64 0] 48)) 48 #[.int .i64 0, .int .i64 1099511627776]
  rw [World.size_alloc] at P2
  rw [World.size_alloc, World.size_alloc] at P3
  have HP2 := Lib.hid P2; have HP3 := Lib.hid P3
  have HB0 := Lib.hid (((ba w (.cells (kArr rnC (G ++ Z)) 98)).alloc (by rw [World.size_alloc]; omega) (.cells #[.int .i64 0, .int .i64 0] 48)).alloc (by rw [World.size_alloc, World.size_alloc]; omega) (.cells #[.int .i64 0, .int .i64 1099511627776] 48))
  clear hA hT hw hG P2 P3
  go_enter Try.func80, Try.ntmps80
  go_wp2
  go_loopw [12] (fun i wr => ∃ (k : Nat) (acc m : Int), k ≤ ws.length ∧ i = .int .i64 k ∧ 1 ≤ m ∧ m ≤ 1099511627776 ∧ Hid (acc = lvl (ws.take k) t) ∧ Hid (mnF m (ws.drop k) (G.drop k) = mnF 1099511627776 ws G) ∧ Hid (RowAt wr w.heap.size 98 (kArr rnC (G ++ Z))) ∧ Hid (RowAt wr (w.heap.size + 1) 48 #[.int .i64 0, .int .i64 0]) ∧ Hid (RowAt wr (w.heap.size + 2) 48 #[.int .i64 acc, .int .i64 m]) ∧ Hid (Below w.heap.size w wr)) (fun i _ => ws.length - (intOf i).toNat)
  case atStart => exact ⟨0, 0, 1099511627776, Nat.zero_le _, rfl, by omega, by omega, Lib.hid rfl, Lib.hid rfl, P1, HP2, HP3, HB0⟩
  case round =>
    obtain ⟨k, acc, m, hk, rfl, hm0, hm1, HAc, HM, H1, H2, H3, HB⟩ := hrel
    have hb := HB.out
    by_cases hkl : k < ws.length
    · obtain ⟨g, o, rfl, hg, hcell⟩ := HA.out (by omega)
      obtain ⟨B, d, hc1, hc2⟩ := hcell k hkl
      have hkG : k < G.length := by omega
      obtain ⟨p0, p1, z0, z1⟩ := posAt H1.out k (by rw [HZ.out]; omega)
      rw [get_app hkG] at p0 p1
      obtain ⟨j, hj, e1, e2, e3, e4⟩ := Pz_in (HPa.out.2 k hkl hkG) (by rw [(HW.out k hkl).2.2]; exact ht)
      obtain ⟨B2, d2, he, hrr⟩ := hc2
      simp only [Value.slice.injEq] at he
      obtain ⟨rfl, _, rfl⟩ := he
      obtain ⟨g2, o2, rfl, hg2, hc3⟩ := hrr (by omega)
      obtain ⟨a0, a1⟩ := arg_two hc3 j hj
      have f0 := (hb.cell (p := ⟨g, o + k, none⟩) hg).trans hc1
      have f1 := (hb.cell (p := ⟨g2, o2 + j * 2, none⟩) hg2).trans a0
      have f2 := (hb.cell (p := ⟨g2, o2 + j * 2 + 1, none⟩) hg2).trans a1
      have hx := el_range (HW.out k hkl).2.1 j hj
      have hlen := (HW.out k hkl).1
      have HM2 := Lib.hid ((mnF_drop m ws G k hkl hkG).symm.trans HM.out)
      have hrm : rm ws[k] G[k] = ws[k][j].2 - G[k].2 := by unfold rm; rw [e1]; simp [hj]
      rw [hrm] at HM2
      have hlv := lvl_take ws k hkl t
      rw [Pz_level (HW.out.ps k hkl) (HPa.out.2 k hkl hkG) (by rw [(HW.out k hkl).2.2]; exact ht) (d := 1) (by show (1 : Int) ≤ rm ws[k] G[k]; rw [hrm]; omega) (Int.le_refl _) (by omega), ← HAc.out] at hlv
      have hlr := lvl_range (w01_take H01.out k)
      rw [List.length_take, Nat.min_eq_left hk, ← HAc.out] at hlr
      have hgd : ws[k].getD G[k].1.toNat (0, 0) = ws[k][j] := by rw [e1]; simp [hj]
      rw [hgd] at hlv
      rw [e1] at p0
      have HLV := Lib.hid hlv
      have HOR := Lib.hid (or_step (b := ws[k][j].1) hlr.1 hlr.2 (by omega) (show k ≤ 15 by omega))
      have hjl : (j : Int) < ws[k].length := by omega
      have q0 : wr.cell? ⟨w.heap.size + 2, 0, none⟩ = some (.int .i64 acc) := H3.out.cell 0
      have q1 : wr.cell? ⟨w.heap.size + 2, 1, none⟩ = some (.int .i64 m) := H3.out.cell 1
      have q2 := H3.out.frozen 0
      have q3 := H3.out.frozen 1
      have hs1 := H1.out.lt
      have hs3 := H3.out.lt
      have hk16 : (k : Int) < 16 := by omega
      have hxx := hx.1
      have hx2 := hx.2
      clear hcell hc1 hrr hc3 a0 a1 hgd hlv HM HAc hrm z0 z1 e1 e2 hx
      have HR6 := Lib.hid (fun (X : World) (h : RowAt X (w.heap.size + 2) 48 #[.int .i64 acc, .int .i64 m]) (V2 : Int) (hV : V2 = acc + ws[k][j].1 * 2 ^ k) => show RowAt (X.setCell ⟨w.heap.size + 2, 0, none⟩ (.int .i64 V2)) (w.heap.size + 2) 48 #[.int .i64 (acc + ws[k][j].1 * 2 ^ k), .int .i64 m] from by subst hV; exact h.set 0 _)
      change Hid (lvl (List.take (k + 1) ws) t = acc + ws[k][j].1 * 2 ^ k) at HLV
      generalize ws[k][j].1 = x0 at *
      generalize ws[k][j].2 = x1 at *
      generalize hQ : G[k].2 = Q at *
      have HQ := Lib.hid hQ
      clear hQ
      generalize ws[k].length = nk at *
      go_wp2
      have r1 := Lib.hid (show RowAt (wr.alloc (.cells #[.int .i64 x0, .int .i64 x1] 48)) w.heap.size 98 (kArr rnC (G ++ Z)) from H1.out.alloc _)
      have r2 := Lib.hid (show RowAt (wr.alloc (.cells #[.int .i64 x0, .int .i64 x1] 48)) (w.heap.size + 1) 48 #[.int .i64 0, .int .i64 0] from H2.out.alloc _)
      have r3 := Lib.hid (show RowAt (wr.alloc (.cells #[.int .i64 x0, .int .i64 x1] 48)) (w.heap.size + 2) 48 #[.int .i64 acc, .int .i64 m] from H3.out.alloc _)
      have r4 := Lib.hid (show RowAt (wr.alloc (.cells #[.int .i64 x0, .int .i64 x1] 48)) wr.heap.size 48 #[.int .i64 x0, .int .i64 x1] from RowAt.new wr 48 #[.int .i64 x0, .int .i64 x1])
      have r5 := Lib.hid (show Below w.heap.size w (wr.alloc (.cells #[.int .i64 x0, .int .i64 x1] 48)) from hb.alloc hb.size _)
      clear p0 p1 f0 f1 f2 q0 q1 q2 q3
      generalize (wr.alloc (.cells #[.int .i64 x0, .int .i64 x1] 48)) = W at *
      have t0 : W.cell? ⟨w.heap.size + 2, 0, none⟩ = some (.int .i64 acc) := r3.out.cell 0
      have t1 : W.cell? ⟨wr.heap.size, 0, none⟩ = some (.int .i64 x0) := r4.out.cell 0
      go_still_tail 8, (by kernel_rfl)
      change wpList _ _ _ _ _ W.drew
      clear t0 t1
      have u3 := Lib.hid (show RowAt W.drew (w.heap.size + 2) 48 #[.int .i64 acc, .int .i64 m] from r3.out)
      have u1 := Lib.hid (show RowAt W.drew w.heap.size 98 (kArr rnC (G ++ Z)) from r1.out)
      have u2 := Lib.hid (show RowAt W.drew (w.heap.size + 1) 48 #[.int .i64 0, .int .i64 0] from r2.out)
      have u4 := Lib.hid (show RowAt W.drew wr.heap.size 48 #[.int .i64 x0, .int .i64 x1] from r4.out)
      have u5 := Lib.hid (show Below w.heap.size w W.drew from r5.out.drew)
      clear r1 r2 r3 r4 r5
      have t0 : W.drew.cell? ⟨w.heap.size + 2, 0, none⟩ = some (.int .i64 acc) := u3.out.cell 0
      have t2 : W.drew.frozen? ⟨w.heap.size + 2, 0, none⟩ = false := u3.out.frozen 0
      generalize W.drew = W2 at *
      go_wp2
      have hV : bits BinOp.or .i64 acc (wrap64 (x0 * 2 ^ k)) = acc + x0 * 2 ^ k := by rw [wrap_bit hxx (by omega)]; exact HOR.out
      have v3 := Lib.hid (HR6.out W2 u3.out _ hV)
      have v1 := Lib.hid (u1.out.other ⟨w.heap.size + 2, 0, none⟩ (.int .i64 (bits BinOp.or .i64 acc (wrap64 (x0 * 2 ^ k)))) (by show w.heap.size + 2 ≠ _; omega))
      have v2 := Lib.hid (u2.out.other ⟨w.heap.size + 2, 0, none⟩ (.int .i64 (bits BinOp.or .i64 acc (wrap64 (x0 * 2 ^ k)))) (by show w.heap.size + 2 ≠ _; omega))
      have v4 := Lib.hid (u4.out.other ⟨w.heap.size + 2, 0, none⟩ (.int .i64 (bits BinOp.or .i64 acc (wrap64 (x0 * 2 ^ k)))) (by show w.heap.size + 2 ≠ _; omega))
      have v5 := Lib.hid (show Below w.heap.size w (W2.setCell ⟨w.heap.size + 2, 0, none⟩ (.int .i64 (bits BinOp.or .i64 acc (wrap64 (x0 * 2 ^ k))))) from Below.setCell u5.out (by show w.heap.size ≤ w.heap.size + 2; omega) _)
      clear t0 t2 u1 u2 u3 u4 u5 HR6 hV
      generalize W2.setCell ⟨w.heap.size + 2, 0, none⟩ (.int .i64 (bits BinOp.or .i64 acc (wrap64 (x0 * 2 ^ k)))) = W3 at *
      obtain ⟨p0, p1, _, _⟩ := posAt v1.out k (by rw [HZ.out]; omega)
      rw [get_app hkG] at p0 p1
      rw [HQ.out] at p1
      have t0 : W3.cell? ⟨w.heap.size + 2, 1, none⟩ = some (.int .i64 m) := v3.out.cell 1
      have t1 : W3.cell? ⟨wr.heap.size, 1, none⟩ = some (.int .i64 x1) := v4.out.cell 1
      have w1 : IntKind.i64.wrap (x1 - Q) = x1 - Q := IntWalk.i64_in _ (by omega)
      go_still_tail 11, (by kernel_rfl)
      change wpList _ _ _ _ _ W3.drew
      clear t0 t1 p0 p1
      have u3 := Lib.hid (show RowAt W3.drew (w.heap.size + 2) 48 #[.int .i64 (acc + x0 * 2 ^ k), .int .i64 m] from v3.out)
      have u1 := Lib.hid (show RowAt W3.drew w.heap.size 98 (kArr rnC (G ++ Z)) from v1.out)
      have u2 := Lib.hid (show RowAt W3.drew (w.heap.size + 1) 48 #[.int .i64 0, .int .i64 0] from v2.out)
      have u5 := Lib.hid (show Below w.heap.size w W3.drew from v5.out.drew)
      clear v1 v2 v3 v4 v5
      have t0 : W3.drew.cell? ⟨w.heap.size + 2, 1, none⟩ = some (.int .i64 m) := u3.out.cell 1
      have t2 : W3.drew.frozen? ⟨w.heap.size + 2, 1, none⟩ = false := u3.out.frozen 1
      generalize W3.drew = W4 at *
      have HR7 := Lib.hid (fun (V2 : Int) (hV : V2 = min m (x1 - Q)) => show RowAt (W4.setCell ⟨w.heap.size + 2, 1, none⟩ (.int .i64 V2)) (w.heap.size + 2) 48 #[.int .i64 (acc + x0 * 2 ^ k), .int .i64 (min m (x1 - Q))] from by subst hV; exact u3.out.set 1 _)
      go_wp2
      go_roundw
      case rel =>
        refine ⟨k + 1, acc + x0 * 2 ^ k, min m (x1 - Q), by omega, by go_num, by omega, by omega, Lib.hid HLV.out.symm, HM2, Lib.hid (u1.out.other ⟨w.heap.size + 2, 1, none⟩ _ (by show w.heap.size + 2 ≠ _; omega)), Lib.hid (u2.out.other ⟨w.heap.size + 2, 1, none⟩ _ (by show w.heap.size + 2 ≠ _; omega)), Lib.hid (HR7.out _ (by first | rfl | rw [show wrap64 (x1 - Q) = x1 - Q from w1])), Lib.hid (Below.setCell u5.out (by show w.heap.size ≤ w.heap.size + 2; omega) _)⟩
      case measure => simp [intOf]; omega
    · have hacc := HAc.out
      rw [List.take_of_length_le (by omega)] at hacc
      have hmm := HM.out
      rw [List.drop_eq_nil_of_le (show ws.length ≤ k by omega)] at hmm
      have hmm2 : m = mnF 1099511627776 ws G := by rw [← hmm]; rfl
      have HAc2 := Lib.hid hacc; have HM2 := Lib.hid hmm2
      have q0 : wr.cell? ⟨w.heap.size + 2, 0, none⟩ = some (.int .i64 acc) := H3.out.cell 0
      have q1 : wr.cell? ⟨w.heap.size + 2, 1, none⟩ = some (.int .i64 m) := H3.out.cell 1
      have q2 : wr.cell? ⟨w.heap.size + 1, 0, none⟩ = some (.int .i64 0) := H2.out.cell 0
      have q3 : wr.cell? ⟨w.heap.size + 1, 1, none⟩ = some (.int .i64 0) := H2.out.cell 1
      have q4 := H2.out.frozen 0
      have q5 := H2.out.frozen 1
      have hs2 := H2.out.lt
      clear hmm hmm2 hacc HAc HM
      go_wp2
      have e0 : ((wr.setCell ⟨w.heap.size + 1, 0, none⟩ (.int .i64 acc)).setCell ⟨w.heap.size + 1, 1, none⟩ (.int .i64 m)).cell? ⟨w.heap.size + 1, 0, none⟩ = some (.int .i64 acc) := (two_set q2 q3).1
      have e1 : ((wr.setCell ⟨w.heap.size + 1, 0, none⟩ (.int .i64 acc)).setCell ⟨w.heap.size + 1, 1, none⟩ (.int .i64 m)).cell? ⟨w.heap.size + 1, 1, none⟩ = some (.int .i64 m) := (two_set q2 q3).2
      refine bodyPost_ret (v := .agg #[.int .i64 acc, .int .i64 m]) (by simp [results, Try.results80, go_sem, e0, e1]) rfl ⟨by rw [HAc2.out, HM2.out], Below.setCell (Below.setCell hb (by show w.heap.size ≤ w.heap.size + 1; omega) _) (by show w.heap.size ≤ w.heap.size + 1; omega) _⟩

end Go.Proofs.Yteccafndplaklaa

namespace Go.Proofs.Yteccafndplaklaa
open Go Go.RowKit Go.Joins
set_option linter.unusedVariables false
set_option linter.unusedSimpArgs false

theorem mxZ_at {d : Int} {ws : List (List Rn)} {G Z : List Ps} (h : G.length = ws.length) {k : Nat} (hk : k < ws.length) (hm : k < (mx d ws G k ++ Z).length) : (mx d ws G k ++ Z)[k] = G[k]'(by omega) := by
  have hl := mx_len d ws G h.symm k (by omega)
  rw [List.getElem_append_left (by omega)]
  exact mx_at d ws G h.symm k hk (by omega)
theorem mxZ_set {d : Int} {ws : List (List Rn)} {G Z : List Ps} (h : G.length = ws.length) {k : Nat} (hk : k < ws.length) : (mx d ws G k ++ Z).set k (av ws[k] d (G[k]'(by omega))) = mx d ws G (k + 1) ++ Z := by
  have hl := mx_len d ws G h.symm k (by omega)
  rw [List.set_append_left _ _ (by omega), mx_set d ws G h.symm k hk]
def zero16 : List Ps := List.replicate 16 (0, 0)
theorem pos_info : (Try.prog.info? 98).map (·.size) = some 32 := by kernel_rfl

set_option maxRecDepth 20000 in
set_option maxHeartbeats 8000000 in
theorem advanced_any (ws : List (List Rn)) (V : Value) (T t d : Int) (G Z : List Ps) (w : World) (hT : WvArg w V ws) (hw : Wv ws T) (hn0 : 0 < ws.length) (hn : ws.length ≤ 16) (hG : Pa ws t G) (hZ : (G ++ Z).length = 16) (ht : t < T) (hd1 : 1 ≤ d) (hd : ∀ i (hi : i < ws.length) (hG : i < G.length), d ≤ rm ws[i] G[i]) :
    Calls Try.prog 81 #[V, .agg (kArr rnC (G ++ Z)), .int .i64 d] w fun e w' => e = .returned (.agg (kArr rnC (zw d ws G ++ Z))) ∧ Below w.heap.size w w' := by
  obtain ⟨A, c, rfl, hA⟩ := hT.form
  have HA := Lib.hid hA
  have HW := Lib.hid hw
  have HPa := Lib.hid hG
  have hGl := hG.1
  have HD := Lib.hid hd
  have hn' : (ws.length : Int) ≤ 16 := by omega
  have HZ := Lib.hid (show ∀ k, k ≤ ws.length → (mx d ws G k ++ Z).length = 16 by
    intro k hk
    rw [List.length_append, mx_len d ws G hGl.symm k hk, ← List.length_append]; exact hZ)
  have HMa := Lib.hid (show mx d ws G ws.length = zw d ws G from mx_all d ws G hGl.symm)
  have P1 := (RowAt.new w 98 (kArr rnC (G ++ Z))).alloc (.cells (kArr rnC zero16) 98)
  have P2 := RowAt.new (w.alloc (.cells (kArr rnC (G ++ Z)) 98)) 98 (kArr rnC zero16)
  rw [World.size_alloc] at P2
  have HP1 := Lib.hid P1; have HP2 := Lib.hid P2
  have HB0 := Lib.hid ((ba w (.cells (kArr rnC (G ++ Z)) 98)).alloc (by rw [World.size_alloc]; omega) (.cells (kArr rnC zero16) 98))
  clear hA hT hw hG hd P1 P2
  go_enter Try.func81, Try.ntmps81
  go_wp2
  go_loopw [11] (fun i wr => ∃ (k : Nat), k ≤ ws.length ∧ i = .int .i64 k ∧ Hid (RowAt wr w.heap.size 98 (kArr rnC (mx d ws G k ++ Z))) ∧ Hid (RowAt wr (w.heap.size + 1) 98 (kArr rnC zero16)) ∧ Hid (Below w.heap.size w wr)) (fun i _ => ws.length - (intOf i).toNat)
  case atStart => exact ⟨0, Nat.zero_le _, rfl, Lib.hid (by rw [mx_zero]; exact HP1.out), HP2, HB0⟩
  case round =>
    obtain ⟨k, hk, rfl, H1, H2, HB⟩ := hrel
    have hb := HB.out
    by_cases hkl : k < ws.length
    · obtain ⟨g, o, rfl, hg, hcell⟩ := HA.out (by omega)
      obtain ⟨B, b2, hc1, hc2⟩ := hcell k hkl
      have hkG : k < G.length := by omega
      have hL := HZ.out k hk
      obtain ⟨p0, p1, z0, z1⟩ := posAt H1.out k (by omega)
      have hset := mxZ_set (d := d) (Z := Z) hGl hkl
      have hat := mxZ_at (d := d) (Z := Z) hGl hkl (by omega)
      rw [hat] at p0 p1
      obtain ⟨j, hj, e1, e2, e3, e4⟩ := Pz_in (HPa.out.2 k hkl hkG) (by rw [(HW.out k hkl).2.2]; exact ht)
      obtain ⟨B2, d2, he, hrr⟩ := hc2
      simp only [Value.slice.injEq] at he
      obtain ⟨rfl, _, rfl⟩ := he
      obtain ⟨g2, o2, rfl, hg2, hc3⟩ := hrr (by omega)
      obtain ⟨a0, a1⟩ := arg_two hc3 j hj
      have f0 := (hb.cell (p := ⟨g, o + k, none⟩) hg).trans hc1
      have f2 := (hb.cell (p := ⟨g2, o2 + j * 2 + 1, none⟩) hg2).trans a1
      have hx := (el_range (HW.out k hkl).2.1 j hj).2
      have hlen := (HW.out k hkl).1
      have hrm := HD.out k hkl hkG
      have hgd : ws[k].getD G[k].1.toNat (0, 0) = ws[k][j] := by rw [e1]; simp [hj]
      unfold rm at hrm
      unfold av at hset
      rw [hgd] at hrm hset
      rw [e1] at p0 hset
      have hjl : (j : Int) < ws[k].length := by omega
      have hk16 : (k : Int) < 16 := by omega
      have hs1 := H1.out.lt
      have hs2 := H2.out.lt
      have S1 := Lib.hid (fun (y : Int) => kArr_set rnC_size H1.out k 1 (by omega) (by omega) (.int .i64 y) (G[k].1, y) (by rw [hat]; rfl))
      have S2 := Lib.hid (fun (v : Value) => H2.out.other ⟨w.heap.size, k * 2 + 1, none⟩ v (by show w.heap.size ≠ _; omega))
      have S3 := Lib.hid (fun (v : Value) => show Below w.heap.size w (wr.setCell ⟨w.heap.size, k * 2 + 1, none⟩ v) from Below.setCell hb (Nat.le_refl _) v)
      rw [e1] at S1
      clear hcell hc1 hrr hc3 a0 a1 hgd hat e1 e2
      generalize hy : ws[k][j].2 = x1 at *
      clear hy
      generalize G[k].2 = Q at *
      generalize ws[k].length = nk at *
      have hqd : Q + d ≤ 1099511627776 := by omega
      have HFC := Lib.hid (fun w' (hb' : Below w.heap.size w w') => (hb'.cell (p := ⟨g2, o2 + j * 2 + 1, none⟩) hg2).trans ((hb.cell (p := ⟨g2, o2 + j * 2 + 1, none⟩) hg2).symm.trans f2))
      have hLk := hL
      go_wp2
      have r1 := Lib.hid (S1.out (Q + d)); have r2 := Lib.hid (S2.out (.int .i64 (Q + d))); have r3 := Lib.hid (S3.out (.int .i64 (Q + d)))
      clear p0 p1 z0 z1 f0 f2 S1 S2 S3
      have hLl : ((mx d ws G k ++ Z).set k ((j : Int), Q + d)).length = 16 := by rw [List.length_set]; exact hL
      generalize wr.setCell ⟨w.heap.size, k * 2 + 1, none⟩ (.int .i64 (Q + d)) = W at *
      have q := posAt r1.out k (by omega)
      rw [List.getElem_set_self] at q
      obtain ⟨p0, p1, z0, z1⟩ := q
      simp only at p0 p1
      have f2 := HFC.out W r3.out
      by_cases he : Q + d = x1
      · rw [if_pos he] at hset
        have S1 := Lib.hid (fun m => kArr_set rnC_size (kArr_set rnC_size (show RowAt (W.drewN m) w.heap.size 98 (kArr rnC ((mx d ws G k ++ Z).set k ((j : Int), Q + d))) from r1.out) k 0 (by omega) (by omega) (.int .i64 ((j : Int) + 1)) ((j : Int) + 1, Q + d) (by rw [List.getElem_set_self]; rfl)) k 1 (by rw [List.length_set]; omega) (by omega) (.int .i64 0) ((j : Int) + 1, 0) (by rw [List.getElem_set_self]; rfl))
        rw [List.set_set, List.set_set, hset] at S1
        have S2 := Lib.hid (fun m (v v' : Value) => (((show RowAt (W.drewN m) (w.heap.size + 1) 98 (kArr rnC zero16) from r2.out)).other ⟨w.heap.size, k * 2, none⟩ v (by show w.heap.size ≠ _; omega)).other ⟨w.heap.size, k * 2 + 1, none⟩ v' (by show w.heap.size ≠ _; omega))
        have S3 := Lib.hid (fun m (v v' : Value) => show Below w.heap.size w (((W.drewN m).setCell ⟨w.heap.size, k * 2, none⟩ v).setCell ⟨w.heap.size, k * 2 + 1, none⟩ v') from Below.setCell (Below.setCell (Go.below_drewN r3.out m) (Nat.le_refl _) v) (Nat.le_refl _) v')
        clear hset HFC hLk hLl
        go_wp2
        go_quiet (fail)
        go_wp2
        go_roundw
        case rel => exact ⟨k + 1, by omega, by go_num, Lib.hid (S1.out _), Lib.hid (S2.out _ _ _), Lib.hid (S3.out _ _ _)⟩
        case measure => simp [intOf]; omega
      · rw [if_neg he] at hset
        have hne : (Q + d == x1) = false := by simpa using he
        rw [hset] at r1
        clear hset HFC hLk hLl he
        go_wp2
        go_quiet (fail)
        go_wp2
        go_roundw
        case rel => exact ⟨k + 1, by omega, by go_num, r1, r2, Lib.hid (Go.below_drewN r3.out _)⟩
        case measure => simp [intOf]; omega
    · have hkn : k = ws.length := by omega
      rw [hkn, HMa.out] at H1
      have hsz : (kArr rnC (zw d ws G ++ Z)).size = 32 := by
        rw [kArr_size rnC_size, ← HMa.out, HZ.out _ (Nat.le_refl _)]
      have hone := kArr_one rnC_one (zw d ws G ++ Z)
      go_wp2_with (first
        | (refine wpList_load_row rfl _ _ rfl _ rfl _ _ _ _ H1.out Try.underlying98 rfl (by rw [hsz]; exact pos_info) ?_)
        | (refine wpList_store_at H2.out (Nat.le_succ _) (kArr rnC (zw d ws G ++ Z)) _ _ _ rfl rfl rfl rfl (by rw [hsz]; exact pos_info) (by rw [hsz]; rfl) hone ?_; intro w9 r9 b9))
      exact bodyPost_ret (v := .agg (kArr rnC (zw d ws G ++ Z))) (results_cell_row Try.results81 _ w9 (w.heap.size + 1) _ _ _ _ rfl r9 Try.underlying98 rfl (by rw [hsz]; exact pos_info)) rfl ⟨rfl, hb.trans b9⟩

end Go.Proofs.Yteccafndplaklaa

namespace Go.Proofs.Yteccafndplaklaa
open Go Go.RowKit Go.Joins
set_option linter.unusedVariables false
set_option linter.unusedSimpArgs false

theorem prt_lg_le {R : List Rn} {f t : Int} (h : ps R) : lg (prt R f t) ≤ lg R := by
  have := ps_nonneg h
  unfold prt; rw [jn_lg, sl_lg h]; omega
theorem prt_ps (R : List Rn) (f t : Int) : ps (prt R f t) := jn_ps sl_ps
theorem prt_take_len (R : List Rn) (j : Nat) (f t : Int) : (prt (R.take j) f t).length ≤ R.length := by
  have h1 := prt_len (R.take j) f t
  rw [List.length_take] at h1
  omega

set_option maxRecDepth 20000 in
set_option maxHeartbeats 1000000 in
theorem put_no (o : List Rn) (B : Nat) (V : Value) (X D : Int) (w : World) (hR : RnRow w B V o) (hB : B ≤ w.heap.size) (hD : D < 1) :
    Calls Try.prog 63 #[V, .agg #[.int .i64 X, .int .i64 D]] w fun e w' => ∃ v : Value, e = .returned v ∧ RnRow w' B v o ∧ Below B w w' := by
  have HR := Lib.hid (hR.alloc (.cells #[.int .i64 X, .int .i64 D] 48))
  obtain ⟨A, n, c, rfl, hn0⟩ := hR.form
  clear hR
  go_enter Try.func63, Try.ntmps63
  go_wp2
  go_returns
  exact ⟨_, rfl, HR.out, (ba w _).mono hB⟩

set_option maxRecDepth 20000 in
set_option maxHeartbeats 8000000 in
theorem part_any (m : Int) (R : List Rn) (V : Value) (F T : Int) (w : World) (hT : RnArg w V R) (hn : R.length ≤ 262144) (hv : vr m 0 R = true) (hF0 : 0 ≤ F) (hF1 : F ≤ 1099511627776) (hT0 : 0 ≤ T) (hT1 : T ≤ 1099511627776) :
    Calls Try.prog 55 #[V, .int .i64 F, .int .i64 T] w fun e w' => ∃ v : Value, e = .returned v ∧ RnRow w' w.heap.size v (prt R F T) ∧ Below w.heap.size w w' := by
  obtain ⟨A, c, rfl, hA⟩ := hT
  have HA := Lib.hid hA
  have HV := Lib.hid hv
  have hps := ((vr_iff m R 0 (by omega)).1 hv).2.1
  have HPS := Lib.hid hps
  have hn' : (R.length : Int) ≤ 262144 := by omega
  clear hA hv hps
  go_enter Try.func55, Try.ntmps55
  go_wp2
  go_loopw [16, 7, 8] (fun i r s wr => ∃ j : Nat, j ≤ R.length ∧ i = .int .i64 j ∧ s = .int .i64 (lg (R.take j)) ∧ Hid (RnRow wr w.heap.size r (prt (R.take j) F T)) ∧ Hid (Below w.heap.size w wr)) (fun i _ _ _ => R.length - (intOf i).toNat)
  case atStart => exact ⟨0, Nat.zero_le _, rfl, rfl, Lib.hid (KRow.nil _ _), Lib.hid (Below.refl _ _)⟩
  case round =>
    obtain ⟨j, hj, rfl, rfl, HR, HB⟩ := hrel
    have hb := HB.out
    by_cases hjl : j < R.length
    · obtain ⟨g, o, rfl, hg, hc⟩ := HA.out (by omega)
      obtain ⟨a0, a1⟩ := arg_two hc j hjl
      have f0 := (hb.cell (p := ⟨g, o + j * 2, none⟩) hg).trans a0
      have f1 := (hb.cell (p := ⟨g, o + j * 2 + 1, none⟩) hg).trans a1
      have hr := lg_take_range HV.out j
      have hx := el_range HV.out j hjl
      have hle := prt_lg_le (f := F) (t := T) (ps_take HPS.out (j + 1))
      have hr2 := lg_take_range HV.out (j + 1)
      have htk := Lib.hid (lg_take R j hjl)
      have hsl := prt_take_len R j F T
      have hpe := prt_ps (R.take j) F T
      have hY : max (lg (R.take j)) F < min (lg (R.take j) + R[j].2) T → prt (R.take (j + 1)) F T = pt (prt (R.take j) F T) (R[j].1, min (lg (R.take j) + R[j].2) T - max (lg (R.take j)) F) := fun h => prt_yes hjl h
      have hN : ¬ max (lg (R.take j)) F < min (lg (R.take j) + R[j].2) T → prt (R.take (j + 1)) F T = prt (R.take j) F T := fun h => prt_no hjl h
      have HB2 := Lib.hid (show Below w.heap.size w (wr.alloc (.cells #[.int .i64 R[j].1, .int .i64 R[j].2] 48)) from hb.alloc hb.size _)
      have HR2 := Lib.hid (show RnRow (wr.alloc (.cells #[.int .i64 R[j].1, .int .i64 R[j].2] 48)) w.heap.size _ (prt (R.take j) F T) from HR.out.alloc _)
      clear a0 a1 hc
      generalize R[j].1 = x0 at *
      generalize R[j].2 = x1 at *
      generalize lg (R.take j) = S at *
      generalize prt (R.take j) F T = E at *
      obtain ⟨_, hx1, hx2⟩ := hx
      have hS1 : ∀ lo hi : Int, max S F = lo → min (S + x1) T = hi → (lo < hi → Hid (prt (R.take (j + 1)) F T = pt E (x0, hi - lo)) ∧ lg E + (hi - lo) ≤ 1099511627776) ∧ (¬ lo < hi → Hid (prt (R.take (j + 1)) F T = E)) := by
        intro lo hi e1 e2
        rw [e1, e2] at hY hN
        refine ⟨fun h => ⟨Lib.hid (hY h), ?_⟩, fun h => Lib.hid (hN h)⟩
        have := hY h
        rw [this, pt_lg] at hle
        simp only at hle
        omega
      clear hY hN hle
      obtain ⟨UA, UN, UC, rfl, hUN⟩ := HR.out.form
      clear hUN
      have HE := Lib.hid hpe
      have CL : Hid (∀ X D w', RnRow w' w.heap.size (.slice UA UN UC) E → w.heap.size ≤ w'.heap.size → 0 ≤ D → lg E + D ≤ 1099511627776 → Calls Try.prog 78 #[.slice UA UN UC, .int .i64 X, .int .i64 D] w' fun e w'' => ∃ v : Value, e = .returned v ∧ RnRow w'' w.heap.size v (pt E (X, D)) ∧ Below w.heap.size w' w'') := Lib.hid (fun X D w' h1 h2 h3 h4 => lengthened_any E w.heap.size _ X D w' h1 h2 HE.out h3 h4 (by omega))
      clear hpe hr2
      obtain ⟨hy, hz⟩ := hS1 _ _ rfl rfl
      clear hS1
      have hm0 : 0 ≤ max S F ∧ max S F ≤ 1099511627776 := by omega
      have hm1 : 0 ≤ min (S + x1) T ∧ min (S + x1) T ≤ 1099511627776 := by omega
      by_cases hlt : max S F < min (S + x1) T
      · obtain ⟨HST, hld⟩ := hy hlt
        have HLD := Lib.hid hld
        have HD := Lib.hid (show 0 ≤ min (S + x1) T - max S F by omega)
        clear hy hz hld
        go_wp2_with (first
          | (go_at_call 78; go_must (refine (CL.out _ _ _ HR2.out HB2.out.size HD.out HLD.out).mono ?_; rintro e5 w5 ⟨v5, rfl, r5, b5⟩; have R5 := Lib.hid r5; have B5 := Lib.hid (HB2.out.trans b5); clear r5 b5)))
        go_roundw
        case rel => exact ⟨j + 1, by omega, val_int (by omega), val_int (by rw [htk.out]), Lib.hid (by rw [HST.out]; exact R5.out), B5⟩
        case measure => simp [intOf]; omega
      · have HST := hz hlt
        clear hy hz
        go_wp2
        go_roundw
        case rel => exact ⟨j + 1, by omega, val_int (by omega), val_int (by rw [htk.out]), Lib.hid (by rw [HST.out]; exact HR2.out), HB2⟩
        case measure => simp [intOf]; omega
    · have he : R.take j = R := List.take_of_length_le (by omega)
      rw [he] at HR
      clear he
      go_wp2
      go_returns
      exact ⟨_, rfl, HR.out, hb⟩

set_option maxRecDepth 20000 in
set_option maxHeartbeats 4000000 in
theorem rclean_any (m : Int) (R : List Rn) (V : Value) (w : World) (hT : RnArg w V R) (hn : R.length ≤ 262144) (hv : vr m 0 R = true) :
    Calls Try.prog 32 #[V] w fun e w' => ∃ v : Value, e = .returned v ∧ RnRow w' w.heap.size v (jn R) ∧ Below w.heap.size w w' := by
  obtain ⟨A, c, rfl, hA⟩ := hT
  have HA := Lib.hid hA
  have HV := Lib.hid hv
  have hps := ((vr_iff m R 0 (by omega)).1 hv).2.1
  have HPS := Lib.hid hps
  have hn' : (R.length : Int) ≤ 262144 := by omega
  clear hA hv hps
  have R0 := Lib.hid (KRow.lit (T := 48) rnC_size w w.heap.size (Nat.le_refl _) [] #[] rfl 0 rfl (by decide))
  have B0 := Lib.hid (ba w (.cells #[] 48))
  go_enter Try.func32, Try.ntmps32
  go_wp2
  go_loopw [4, 3] (fun i r wr => ∃ j : Nat, j ≤ R.length ∧ i = .int .i64 j ∧ Hid (RnRow wr w.heap.size r (jn (R.take j))) ∧ Hid (Below w.heap.size w wr)) (fun i _ _ => R.length - (intOf i).toNat)
  case atStart => exact ⟨0, Nat.zero_le _, rfl, R0, B0⟩
  case round =>
    obtain ⟨j, hj, rfl, HR, HB⟩ := hrel
    have hb := HB.out
    by_cases hjl : j < R.length
    · obtain ⟨g, o, rfl, hg, hc⟩ := HA.out (by omega)
      obtain ⟨a0, a1⟩ := arg_two hc j hjl
      have f0 := (hb.cell (p := ⟨g, o + j * 2, none⟩) hg).trans a0
      have f1 := (hb.cell (p := ⟨g, o + j * 2 + 1, none⟩) hg).trans a1
      have hx := el_range HV.out j hjl
      have hr2 := lg_take_range HV.out (j + 1)
      have HST : Hid (jn (R.take (j + 1)) = pt (jn (R.take j)) (R[j].1, R[j].2)) := Lib.hid (jn_take R j hjl)
      have hl : lg (jn (R.take j)) + R[j].2 ≤ 1099511627776 := by
        have h1 := jn_lg (R.take (j + 1))
        rw [jn_take R j hjl, pt_lg] at h1
        omega
      have hlen := jn_len (R.take j)
      rw [List.length_take] at hlen
      have CL : Hid (∀ V w', RnRow w' w.heap.size V (jn (R.take j)) → w.heap.size ≤ w'.heap.size → Calls Try.prog 63 #[V, .agg #[.int .i64 R[j].1, .int .i64 R[j].2]] w' fun e w'' => ∃ v : Value, e = .returned v ∧ RnRow w'' w.heap.size v (pt (jn (R.take j)) (R[j].1, R[j].2)) ∧ Below w.heap.size w' w'') := Lib.hid (fun V w' h1 h2 => put_any _ w.heap.size V _ _ w' h1 h2 (jn_ps (ps_take HPS.out j)) hx.2.1 hl (by omega))
      clear a0 a1 hc hl hlen hr2
      generalize R[j].1 = x0 at *
      generalize R[j].2 = x1 at *
      obtain ⟨_, hx1, hx2⟩ := hx
      obtain ⟨UA, UN, UC, rfl, hUN⟩ := HR.out.form
      clear hUN
      go_wp2_with (first
        | (go_at_call 63; go_must (refine (CL.out _ _ HR.out HB.out.size).mono ?_; rintro e5 w5 ⟨v5, rfl, r5, b5⟩; have R5 := Lib.hid r5; have B5 := Lib.hid (HB.out.trans b5); clear r5 b5)))
      go_roundw
      case rel => exact ⟨j + 1, by omega, val_int (by omega), Lib.hid (by rw [HST.out]; exact R5.out), B5⟩
      case measure => simp [intOf]; omega
    · have he : R.take j = R := List.take_of_length_le (by omega)
      rw [he] at HR
      clear he
      go_wp2
      go_returns
      exact ⟨_, rfl, HR.out, hb⟩

end Go.Proofs.Yteccafndplaklaa

namespace Go.Proofs.Yteccafndplaklaa
open Go Go.RowKit Go.Joins
set_option linter.unusedVariables false
set_option linter.unusedSimpArgs false

def fl1 (l : List Rn) : List Rn := l.filter fun r => decide (1 ≤ r.2)
theorem fl1_take (l : List Rn) (j : Nat) (hj : j < l.length) : fl1 (l.take (j + 1)) = fl1 (l.take j) ++ (if 1 ≤ l[j].2 then [l[j]] else []) := by
  unfold fl1
  rw [List.take_succ_eq_append_getElem hj, List.filter_append]
  by_cases h : 1 ≤ l[j].2
  · rw [if_pos h]; simp [h]
  · rw [if_neg h]; simp [h]
theorem fl1_ps (l : List Rn) : ps (fl1 l) := fun r hr => by simpa using (List.mem_filter.1 hr).2
theorem fl1_len (l : List Rn) : (fl1 l).length ≤ l.length := List.length_filter_le _ _
theorem lg_nn {l : List Rn} (h : ∀ r ∈ l, 0 ≤ r.2) : 0 ≤ lg l := by
  induction l with
  | nil => exact Int.le_refl _
  | cons r l ih =>
    have h1 := h r (by simp)
    have h2 := ih (fun x hx => h x (by simp [hx]))
    show 0 ≤ r.2 + lg l
    omega
theorem lg_nn_take {l : List Rn} (h : ∀ r ∈ l, 0 ≤ r.2) (j : Nat) : 0 ≤ lg (l.take j) ∧ lg (l.take j) ≤ lg l := by
  have h1 := lg_nn (l := l.take j) (fun r hr => h r (List.mem_of_mem_take hr))
  have h2 := lg_nn (l := l.drop j) (fun r hr => h r (List.mem_of_mem_drop hr))
  have h3 := lg_split l j
  omega
theorem fl1_lg {l : List Rn} (h : ∀ r ∈ l, 0 ≤ r.2) : lg (fl1 l) = lg l := by
  induction l with
  | nil => rfl
  | cons r l ih =>
    have h1 := h r (by simp)
    have h2 := ih (fun x hx => h x (by simp [hx]))
    unfold fl1 at h2 ⊢
    by_cases c : 1 ≤ r.2
    · rw [List.filter_cons_of_pos (by simp [c])]
      show r.2 + lg _ = r.2 + lg l
      rw [h2]
    · rw [List.filter_cons_of_neg (by simp [c])]
      show lg _ = r.2 + lg l
      rw [h2]
      omega

set_option maxRecDepth 20000 in
set_option maxHeartbeats 4000000 in
theorem rclean0_any (R : List Rn) (V : Value) (w : World) (hT : RnArg w V R) (hn : R.length ≤ 262144) (h0 : ∀ r ∈ R, 0 ≤ r.2) (hl : lg R ≤ 1099511627776) :
    Calls Try.prog 32 #[V] w fun e w' => ∃ v : Value, e = .returned v ∧ RnRow w' w.heap.size v (jn (fl1 R)) ∧ Below w.heap.size w w' := by
  obtain ⟨A, c, rfl, hA⟩ := hT
  have HA := Lib.hid hA
  have H0 := Lib.hid h0
  have HL := Lib.hid hl
  have hn' : (R.length : Int) ≤ 262144 := by omega
  clear hA h0 hl
  have R0 := Lib.hid (KRow.lit (T := 48) rnC_size w w.heap.size (Nat.le_refl _) [] #[] rfl 0 rfl (by decide))
  have B0 := Lib.hid (ba w (.cells #[] 48))
  go_enter Try.func32, Try.ntmps32
  go_wp2
  go_loopw [4, 3] (fun i r wr => ∃ j : Nat, j ≤ R.length ∧ i = .int .i64 j ∧ Hid (RnRow wr w.heap.size r (jn (fl1 (R.take j)))) ∧ Hid (Below w.heap.size w wr)) (fun i _ _ => R.length - (intOf i).toNat)
  case atStart => exact ⟨0, Nat.zero_le _, rfl, R0, B0⟩
  case round =>
    obtain ⟨j, hj, rfl, HR, HB⟩ := hrel
    have hb := HB.out
    by_cases hjl : j < R.length
    · obtain ⟨g, o, rfl, hg, hc⟩ := HA.out (by omega)
      obtain ⟨a0, a1⟩ := arg_two hc j hjl
      have f0 := (hb.cell (p := ⟨g, o + j * 2, none⟩) hg).trans a0
      have f1 := (hb.cell (p := ⟨g, o + j * 2 + 1, none⟩) hg).trans a1
      have hr2 := lg_nn_take H0.out (j + 1)
      have hr1 := lg_nn_take H0.out j
      have hlt := lg_take R j hjl
      have hL := HL.out
      have hst := fl1_take R j hjl
      have hlen := jn_len (fl1 (R.take j))
      have hlen2 := fl1_len (R.take j)
      rw [List.length_take] at hlen2
      have hjl2 : lg (jn (fl1 (R.take j))) = lg (R.take j) := by rw [jn_lg, fl1_lg (fun r hr => H0.out r (List.mem_of_mem_take hr))]
      have hps := jn_ps (fl1_ps (R.take j))
      obtain ⟨UA, UN, UC, rfl, hUN⟩ := HR.out.form
      clear hUN
      by_cases hx : 1 ≤ R[j].2
      · rw [if_pos hx] at hst
        have HST := Lib.hid (show jn (fl1 (R.take (j + 1))) = pt (jn (fl1 (R.take j))) (R[j].1, R[j].2) by rw [hst, jn_snoc])
        have CL : Hid (∀ V w', RnRow w' w.heap.size V (jn (fl1 (R.take j))) → w.heap.size ≤ w'.heap.size → Calls Try.prog 63 #[V, .agg #[.int .i64 R[j].1, .int .i64 R[j].2]] w' fun e w'' => ∃ v : Value, e = .returned v ∧ RnRow w'' w.heap.size v (pt (jn (fl1 (R.take j))) (R[j].1, R[j].2)) ∧ Below w.heap.size w' w'') := Lib.hid (fun V w' h1 h2 => put_any _ w.heap.size V _ _ w' h1 h2 hps hx (by omega) (by omega))
        clear a0 a1 hc hlen hlen2 hr2 hr1 hlt hL hst hjl2 hps
        generalize R[j].1 = x0 at *
        generalize R[j].2 = x1 at *
        go_wp2_with (first
          | (go_at_call 63; go_must (refine (CL.out _ _ HR.out HB.out.size).mono ?_; rintro e5 w5 ⟨v5, rfl, r5, b5⟩; have R5 := Lib.hid r5; have B5 := Lib.hid (HB.out.trans b5); clear r5 b5)))
        go_roundw
        case rel => exact ⟨j + 1, by omega, val_int (by omega), Lib.hid (by rw [HST.out]; exact R5.out), B5⟩
        case measure => simp [intOf]; omega
      · rw [if_neg hx, List.append_nil] at hst
        have HST := Lib.hid hst
        have CL : Hid (∀ V w', RnRow w' w.heap.size V (jn (fl1 (R.take j))) → w.heap.size ≤ w'.heap.size → Calls Try.prog 63 #[V, .agg #[.int .i64 R[j].1, .int .i64 R[j].2]] w' fun e w'' => ∃ v : Value, e = .returned v ∧ RnRow w'' w.heap.size v (jn (fl1 (R.take j))) ∧ Below w.heap.size w' w'') := Lib.hid (fun V w' h1 h2 => put_no _ w.heap.size V _ _ w' h1 h2 (by omega))
        clear a0 a1 hc hlen hlen2 hr2 hr1 hlt hL hst hjl2 hps
        generalize R[j].1 = x0 at *
        generalize R[j].2 = x1 at *
        go_wp2_with (first
          | (go_at_call 63; go_must (refine (CL.out _ _ HR.out HB.out.size).mono ?_; rintro e5 w5 ⟨v5, rfl, r5, b5⟩; have R5 := Lib.hid r5; have B5 := Lib.hid (HB.out.trans b5); clear r5 b5)))
        go_roundw
        case rel => exact ⟨j + 1, by omega, val_int (by omega), Lib.hid (by rw [HST.out]; exact R5.out), B5⟩
        case measure => simp [intOf]; omega
    · have he : R.take j = R := List.take_of_length_le (by omega)
      rw [he] at HR
      clear he
      go_wp2
      go_returns
      exact ⟨_, rfl, HR.out, hb⟩
end Go.Proofs.Yteccafndplaklaa
