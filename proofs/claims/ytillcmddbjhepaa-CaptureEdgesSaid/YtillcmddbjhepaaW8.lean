/-
  levelOf, lengthened, put, copied.
-/
import Derived.Test.YtillcmddbjhepaaW7
import Derived.Test.YtillcmddbjhepaaM2
import Derived.Test.YtillcmddbjhepaaShelf
import Derived.StillTailTactics
namespace Go.Proofs.Ytillcmddbjhepaa
open Go Go.RowKit Go.Joins
set_option linter.unusedVariables false
set_option linter.unusedSimpArgs false

set_option maxRecDepth 20000 in
set_option maxHeartbeats 1000000 in
theorem levelOf_any (x y : Int) (k : Nat) (w : World) (h0 : 0 ≤ x) (h1 : x ≤ 9223372036854775807) (hk : k ≤ 15) : Calls Try.prog 20 #[.agg #[.int .i64 x, .int .i64 y], .int .i64 k] w fun e w' => e = .returned (.int .i64 (bt x k)) ∧ Below w.heap.size w w' := by
  have H := Lib.hid (shr_and x k h0 h1); have H2 := Lib.hid (shr_and2 x k h0 h1)
  generalize bt x k = r at *
  go_enter Try.func20, Try.ntmps20
  go_wp2
  go_returns
  exact ⟨ret_int (by exact H2.out), ba w _⟩

/-- A run appended, out of its literal. -/
theorem wpList_append_rn {w : World} {ops : Array Oper} {rest : List Oper} {o : Oper} {a : Act} {Q : Exit → Act → World → Prop} (hgd : o.guard = none) (s x : Operand)
    (ho : o.op = .call { callee := .builtin .append, args := #[s, x], argTypes := #[23, 23] })
    {B c : Nat} {v : Value} {l : List Rn} {g : Nat} {X Y : Int} {ya : Array Value} (hya : ya = #[.int .i64 X, .int .i64 Y]) (hs : a.eval s = v) (hx : a.eval x = .slice (some ⟨g, 0, none⟩) 1 c) (hg : g = w.heap.size) (hf : RnRow w B v l) (hB : B ≤ w.heap.size) (hn : l.length + 1 ≤ 4398046511104)
    (h : ∀ v' w', RnRow w' B v' (l ++ [(X, Y)]) → Below B w w' → wpList Try.prog ops Q rest (a.put o.dst v') w') : wpList Try.prog ops Q (o :: rest) a (w.alloc (.cells ya 41)) :=
  wpList_append_k (P := Try.prog) Try.underlying23 run_info rfl (by omega) rnC_size hgd s x ho (X, Y) hya hs hx hg hf hB (by subst hya; rfl) (by omega) (by omega) h
theorem wpList_append_rn2 {w : World} {ops : Array Oper} {rest : List Oper} {o : Oper} {a : Act} {Q : Exit → Act → World → Prop} (hgd : o.guard = none) (s x : Operand)
    (ho : o.op = .call { callee := .builtin .append, args := #[s, x], argTypes := #[23, 23] })
    {B c : Nat} {v : Value} {l : List Rn} {g : Nat} {X Y : Int} {ya : Array Value} (hya : ya = #[.int .i64 X, .int .i64 Y]) (hs : a.eval s = v) (hx : a.eval x = .slice (some ⟨g, 0, none⟩) 1 c) (hg : g = w.heap.size) (hf : RnRow w B v l) (hB : B ≤ w.heap.size) (hn : l.length + 1 ≤ 4398046511104)
    (h : ∀ v' w', RnRow w' B v' (l ++ [(X, Y)]) → Below B w w' → (∀ k, k < w.heap.size → some k ≠ v.ownBlock → w'.heap[k]? = w.heap[k]?) → wpList Try.prog ops Q rest (a.put o.dst v') w') : wpList Try.prog ops Q (o :: rest) a (w.alloc (.cells ya 41)) :=
  wpList_append_k2 (P := Try.prog) Try.underlying23 run_info rfl (by omega) rnC_size hgd s x ho (X, Y) hya hs hx hg hf hB (by subst hya; rfl) (by omega) (by omega) h
theorem heap_setCell_other (w : World) (a : Addr) (v : Value) (k : Nat) (h : ¬ k = a.block) : (w.setCell a v).heap[k]? = w.heap[k]? := by
  simp only [World.setCell]
  rw [Array.getElem?_modify, if_neg (fun e => h e.symm)]
theorem RnRow.set1 {w : World} {B g n c : Nat} {l : List Rn} (h : RnRow w B (.slice (some ⟨g, 0, none⟩) n c) l) (j : Nat) (hj : j < l.length) (x y : Int) (hx : l[j].1 = x) :
    RnRow (w.setCell ⟨g, j * 2 + 1, none⟩ (.int .i64 y)) B (.slice (some ⟨g, 0, none⟩) n c) (l.set j (x, y)) :=
  KRow.cellSet rnC_size h j 1 hj (by omega) (.int .i64 y) (x, y) (by subst hx; rfl)
/-- The two cells of an element of a row. -/
theorem RnRow.two {w : World} {B g n c : Nat} {l : List Rn} (h : RnRow w B (.slice (some ⟨g, 0, none⟩) n c) l) (j : Nat) (hj : j < l.length) : w.cell? ⟨g, j * 2, none⟩ = some (.int .i64 l[j].1) ∧ w.cell? ⟨g, j * 2 + 1, none⟩ = some (.int .i64 l[j].2) ∧ w.frozen? ⟨g, j * 2, none⟩ = false ∧ w.frozen? ⟨g, j * 2 + 1, none⟩ = false :=
  ⟨h.cell rnC_size j hj 0 (by omega), h.cell rnC_size j hj 1 (by omega), h.frozen _, h.frozen _⟩
theorem snoc_get (o : List Rn) (x : Rn) (h : o.length < (o ++ [x]).length) : (o ++ [x])[o.length] = x := by simp
theorem snoc_set (o : List Rn) (x y : Rn) : (o ++ [x]).set o.length y = o ++ [y] := by simp

set_option maxRecDepth 20000 in
set_option maxHeartbeats 4000000 in
theorem lengthened_any2 (o : List Rn) (B : Nat) (V : Value) (X D : Int) (w : World) (hR : RnRow w B V o) (hB : B ≤ w.heap.size) (hp : ps o) (hD : 0 ≤ D) (hl : lg o + D ≤ 1099511627776) (hn : o.length ≤ 4294967296) :
    Calls Try.prog 23 #[V, .int .i64 X, .int .i64 D] w fun e w' => ∃ v : Value, e = .returned v ∧ RnRow w' B v (pt o (X, D)) ∧ Below B w w' ∧ (∀ k, k < w.heap.size → some k ≠ V.ownBlock → w'.heap[k]? = w.heap[k]?) := by
  rcases nil_or_snoc o with rfl | ⟨o, ⟨y0, y1⟩, rfl⟩
  · have HR := Lib.hid (fun o => hR.alloc o)
    have HR0 := Lib.hid hR
    obtain ⟨A, n, c, rfl, hn0⟩ := hR.form
    obtain rfl : n = 0 := hn0
    clear hR hp hl hn
    go_enter Try.func23, Try.ntmps23
    go_wp2_with (first
      | (at_builtin; go_must (refine wpList_append_rn2 rfl _ _ rfl rfl rfl rfl rfl HR0.out hB (by show (0:Nat) + 1 ≤ _; omega) ?_; intro v' w' r b kp)))
    go_returns
    exact ⟨_, rfl, r, b, kp⟩
  · rw [pt_snoc]
    have hp2 := ps_append.1 hp
    have hy := ps_one.1 hp2.2
    have h0 := ps_nonneg hp2.1
    rw [lg_append, lg_one] at hl
    simp only at hy hl
    have hlen : (o ++ [(y0, y1)]).length = o.length + 1 := by simp
    obtain ⟨g, c, rfl⟩ := hR.full (by omega)
    obtain ⟨hN, hNc, hBg, hgw⟩ := hR.len
    obtain ⟨f0, f1, z0, z1⟩ := RnRow.two hR o.length (by omega)
    rw [snoc_get] at f0 f1
    simp only at f0 f1
    have HR0 := Lib.hid hR
    rw [hlen] at hN hNc hn
    have hK0 : decide ((0 : Int) ≤ (o.length : Int)) = true := decide_eq_true (by omega)
    by_cases hyx : y0 = X
    · subst hyx
      have HS := Lib.hid (RnRow.set1 hR o.length (by omega) y0 (y1 + D) (by rw [snoc_get]))
      rw [snoc_set] at HS
      rw [if_pos rfl]
      have hs1 : y1 + D ≤ 1099511627776 := by omega
      rw [hlen] at HS ⊢
      clear hR hp hp2 hlen HR0
      generalize o.length = K at *
      go_enter Try.func23, Try.ntmps23
      go_wp2
      go_returns
      exact ⟨_, rfl, HS.out, (Below.refl _ _).setCell hBg _, fun k hk hne => heap_setCell_other _ _ _ _ (fun e => hne (by rw [e]; rfl))⟩
    · rw [if_neg hyx]
      have hne : (y0 == X) = false := by simpa using hyx
      have hn2 : (o ++ [(y0, y1)]).length + 1 ≤ 4398046511104 := by omega
      have HN2 := Lib.hid hn2
      rw [hlen] at HR0 ⊢
      clear hR hp hp2 hn2 hyx
      go_enter Try.func23, Try.ntmps23
      go_wp2_with (first
        | (at_builtin; go_must (refine wpList_append_rn2 rfl _ _ rfl rfl rfl rfl rfl HR0.out hB HN2.out ?_; intro v' w' r b kp; rw [List.append_assoc] at r)))
      go_returns
      exact ⟨_, rfl, r, b, kp⟩

theorem lengthened_any (o : List Rn) (B : Nat) (V : Value) (X D : Int) (w : World) (hR : RnRow w B V o) (hB : B ≤ w.heap.size) (hp : ps o) (hD : 0 ≤ D) (hl : lg o + D ≤ 1099511627776) (hn : o.length ≤ 4294967296) :
    Calls Try.prog 23 #[V, .int .i64 X, .int .i64 D] w fun e w' => ∃ v : Value, e = .returned v ∧ RnRow w' B v (pt o (X, D)) ∧ Below B w w' :=
  (lengthened_any2 o B V X D w hR hB hp hD hl hn).mono fun e w' ⟨v, h1, h2, h3, _⟩ => ⟨v, h1, h2, h3⟩

theorem clone_any (s : ByteArray) (w : World) (hs : s.size ≤ 140737488351232) :
    Calls Try.prog 25 #[.string s] w fun e w' => e = .returned (.string s) ∧ Below w.heap.size w w' := by
  have H1 := Lib.hid (fun w => Try.stringslite_Clone s w (by omega))
  go_enter Try.func25, Try.ntmps25
  go_wp2_with (first
    | (go_at_call 30; go_must (refine (H1.out _).mono ?_; rintro e w1 ⟨rfl, b1⟩)))
  go_returns
  exact ⟨rfl, b1⟩
theorem NmRow.set {w : World} {B g n c : Nat} {l : List ByteArray} (h : NmRow w B (.slice (some ⟨g, 0, none⟩) n c) l) (j : Nat) (hj : j < l.length) (s : ByteArray) :
    NmRow (w.setCell ⟨g, j, none⟩ (.string s)) B (.slice (some ⟨g, 0, none⟩) n c) (l.set j s) := by
  have := KRow.cellSet nmC_size h j 0 hj (by omega) (.string s) s rfl
  rwa [Nat.mul_one, Nat.add_zero] at this
theorem NmRow.one {w : World} {B g n c : Nat} {l : List ByteArray} (h : NmRow w B (.slice (some ⟨g, 0, none⟩) n c) l) (j : Nat) (hj : j < l.length) : w.cell? ⟨g, j, none⟩ = some (.string l[j]) ∧ w.frozen? ⟨g, j, none⟩ = false := by
  have := h.cell nmC_size j hj 0 (by omega)
  rw [Nat.mul_one, Nat.add_zero] at this
  exact ⟨this, h.frozen _⟩
/-- The first j of a list stand already. -/
def Fil (X l : List ByteArray) (j : Nat) : Prop := X.length = l.length ∧ X.take j = l.take j
theorem Fil.step {X l : List ByteArray} {j : Nat} (h : Fil X l j) (hj : j < l.length) : Fil (X.set j l[j]) l (j + 1) := by
  obtain ⟨h1, h2⟩ := h
  refine ⟨by rw [List.length_set]; exact h1, ?_⟩
  rw [List.take_succ_eq_append_getElem (by rw [List.length_set, h1]; exact hj), List.take_set_of_le (Nat.le_refl _), h2, List.getElem_set_self, List.take_succ_eq_append_getElem hj]
theorem Fil.done {X l : List ByteArray} {j : Nat} (h : Fil X l j) (hj : l.length ≤ j) : X = l := by
  have := h.2
  rwa [List.take_of_length_le (by rw [h.1]; exact hj), List.take_of_length_le hj] at this

set_option maxRecDepth 20000 in
set_option maxHeartbeats 4000000 in
theorem copied_any (l : List ByteArray) (v : Value) (w : World) (hT : NmArg w v l) (hn : l.length ≤ 65536) (hs : ∀ j (h : j < l.length), l[j].size ≤ 140737488351232) : Calls Try.prog 17 #[v] w fun e w' => ∃ v' : Value, e = .returned v' ∧ NmRow w' w.heap.size v' l ∧ Below w.heap.size w w' := by
  obtain ⟨A, c, rfl, hc, hA⟩ := hT.form
  have HA := Lib.hid hA
  have HS := Lib.hid hs
  have hn' : (l.length : Int) ≤ 65536 := by omega
  clear hA hT hs hc
  go_enter Try.func17, Try.ntmps17
  go_wp2_with (first
    | (at_make; go_must (refine wpList_make_k (enc := nmC) Try.underlying22 name_info (⟨#[]⟩ : ByteArray) rfl rfl rfl _ _ rfl rfl rfl rfl rfl (by omega) (by omega) (Nat.le_refl _) ?_; intro w1 r1 b1; have R1 := Lib.hid r1; have B1 := Lib.hid b1; clear r1 b1)))
  go_loopw [11] (fun i wr => ∃ (j : Nat) (X : List ByteArray), j ≤ l.length ∧ i = .int .i64 j ∧ Hid (Fil X l j) ∧ Hid (NmRow wr w.heap.size (.slice (some ⟨w.heap.size, 0, none⟩) l.length l.length) X) ∧ Hid (Below w.heap.size w wr)) (fun i _ => l.length - (intOf i).toNat)
  case atStart => exact ⟨0, List.replicate l.length ⟨#[]⟩, Nat.zero_le _, rfl, Lib.hid ⟨by simp, rfl⟩, R1, B1⟩
  case round =>
    obtain ⟨j, X, hj, rfl, HF, HR, HB⟩ := hrel
    have hb := HB.out
    by_cases hjl : j < l.length
    · obtain ⟨g, o, rfl, hg, hcell⟩ := HA.out (by omega)
      have f0 := (hb.cell (p := ⟨g, o + j, none⟩) hg).trans (hcell j hjl)
      have hXl := HF.out.1
      have HF2 := Lib.hid (HF.out.step hjl)
      have C1 := Lib.hid (fun w => clone_any l[j] w (HS.out j hjl))
      clear hcell HF
      generalize l[j] = s at *
      go_wp2_with (first
        | (go_at_call 25; go_must (refine (C1.out _).mono ?_; rintro e2 w2 ⟨rfl, b2⟩; have r2 := HR.out.keep b2; have HB2 := Lib.hid (hb.trans (b2.mono hb.size)); clear b2; obtain ⟨z0, z1⟩ := NmRow.one r2 j (by omega); have HS2 := Lib.hid (NmRow.set r2 j (by omega) s); clear r2)))
      go_roundw
      case rel => exact ⟨j + 1, X.set j s, by omega, val_int (by omega), HF2, HS2, Lib.hid (HB2.out.setCell (Nat.le_refl _) _)⟩
      case measure => simp [intOf]; omega
    · have hX := HF.out.done (show l.length ≤ j by omega)
      rw [hX] at HR
      clear hX HF
      go_wp2
      go_returns
      exact ⟨_, rfl, HR.out, hb⟩

end Go.Proofs.Ytillcmddbjhepaa
