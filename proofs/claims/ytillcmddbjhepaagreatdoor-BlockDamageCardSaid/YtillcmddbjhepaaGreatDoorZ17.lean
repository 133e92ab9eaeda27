/-
  levelOf, lengthened, put, copied.
  Channel (both).
  part, the specification's Part and Clean.
  The specification's Clean.
  Slice (both).
-/
import Derived.Test.YtillcmddbjhepaaGreatDoorZ11
import Derived.Test.YtillcmddbjhepaaGreatDoorZ03
import Derived.Test.YtillcmddbjhepaaGreatDoorShelf
import Derived.StillTailTactics
import Derived.Deep.RegionHeld3
import Derived.Test.YtillcmddbjhepaaGreatDoorZ06
import Derived.BigQuiet
namespace Go.Proofs.YtillcmddbjhepaaGreatDoor
namespace Si
open Go Go.RowKit Go.Joins
set_option linter.unusedVariables false
set_option linter.unusedSimpArgs false

/-- A run appended, out of its literal. -/
theorem wpList_append_rn {w : World} {ops : Array Oper} {rest : List Oper} {o : Oper} {a : Act} {Q : Exit → Act → World → Prop} (hgd : o.guard = none) (s x : Operand)
    (ho : o.op = .call { callee := .builtin .append, args := #[s, x], argTypes := #[23, 23] })
    {B c : Nat} {v : Value} {l : List Rn} {g : Nat} {X Y : Int} {ya : Array Value} (hya : ya = #[.int .i64 X, .int .i64 Y]) (hs : a.eval s = v) (hx : a.eval x = .slice (some ⟨g, 0, none⟩) 1 c) (hg : g = w.heap.size) (hf : RnRow w B v l) (hB : B ≤ w.heap.size) (hn : l.length + 1 ≤ 4398046511104)
    (h : ∀ v' w', RnRow w' B v' (l ++ [(X, Y)]) → Below B w w' → wpList Tryz.prog ops Q rest (a.put o.dst v') w') : wpList Tryz.prog ops Q (o :: rest) a (w.alloc (.cells ya 54)) :=
  wpList_append_k (P := Tryz.prog) Tryz.underlying23 run_info rfl (by omega) rnC_size hgd s x ho (X, Y) hya hs hx hg hf hB (by subst hya; rfl) (by omega) (by omega) h
theorem wpList_append_rn2 {w : World} {ops : Array Oper} {rest : List Oper} {o : Oper} {a : Act} {Q : Exit → Act → World → Prop} (hgd : o.guard = none) (s x : Operand)
    (ho : o.op = .call { callee := .builtin .append, args := #[s, x], argTypes := #[23, 23] })
    {B c : Nat} {v : Value} {l : List Rn} {g : Nat} {X Y : Int} {ya : Array Value} (hya : ya = #[.int .i64 X, .int .i64 Y]) (hs : a.eval s = v) (hx : a.eval x = .slice (some ⟨g, 0, none⟩) 1 c) (hg : g = w.heap.size) (hf : RnRow w B v l) (hB : B ≤ w.heap.size) (hn : l.length + 1 ≤ 4398046511104)
    (h : ∀ v' w', RnRow w' B v' (l ++ [(X, Y)]) → Below B w w' → (∀ k, k < w.heap.size → some k ≠ v.ownBlock → w'.heap[k]? = w.heap[k]?) → wpList Tryz.prog ops Q rest (a.put o.dst v') w') : wpList Tryz.prog ops Q (o :: rest) a (w.alloc (.cells ya 54)) :=
  wpList_append_k2 (P := Tryz.prog) Tryz.underlying23 run_info rfl (by omega) rnC_size hgd s x ho (X, Y) hya hs hx hg hf hB (by subst hya; rfl) (by omega) (by omega) h
theorem heap_setCell_other (w : World) (a : Addr) (v : Value) (k : Nat) (h : ¬ k = a.block) : (w.setCell a v).heap[k]? = w.heap[k]? := by
  simp only [World.setCell]
  rw [Array.getElem?_modify, if_neg (fun e => h e.symm)]
theorem RnRow.set1 {w : World} {B g n c : Nat} {l : List Rn} (h : RnRow w B (.slice (some ⟨g, 0, none⟩) n c) l) (j : Nat) (hj : j < l.length) (x y : Int) (hx : l[j].1 = x) :
    RnRow (w.setCell ⟨g, j * 2 + 1, none⟩ (.int .i64 y)) B (.slice (some ⟨g, 0, none⟩) n c) (l.set j (x, y)) :=
  KRow.cellSet rnC_size h j 1 hj (by omega) (.int .i64 y) (x, y) (by subst hx; rfl)
/-- The two cells of an element of a row. -/
theorem RnRow.two {w : World} {B g n c : Nat} {l : List Rn} (h : RnRow w B (.slice (some ⟨g, 0, none⟩) n c) l) (j : Nat) (hj : j < l.length) : w.cell? ⟨g, j * 2, none⟩ = some (.int .i64 l[j].1) ∧ w.cell? ⟨g, j * 2 + 1, none⟩ = some (.int .i64 l[j].2) ∧ w.frozen? ⟨g, j * 2, none⟩ = false ∧ w.frozen? ⟨g, j * 2 + 1, none⟩ = false :=
  ⟨h.cell rnC_size j hj 0 (by omega), h.cell rnC_size j hj 1 (by omega), h.frozen _, h.frozen _⟩
theorem snoc_get (o : List Rn) (x : Rn) (h : o.length < (o ++ [x]).length) : (o ++ [x])[o.length] = x := by simp
theorem snoc_set (o : List Rn) (x y : Rn) : (o ++ [x]).set o.length y = o ++ [y] := by simp

set_option maxRecDepth 20000 in
set_option maxHeartbeats 4000000 in
theorem lengthened_any2 (o : List Rn) (B : Nat) (V : Value) (X D : Int) (w : World) (hR : RnRow w B V o) (hB : B ≤ w.heap.size) (hp : ps o) (hD : 0 ≤ D) (hl : lg o + D ≤ 1099511627776) (hn : o.length ≤ 4294967296) :
    Calls Tryz.prog 90 #[V, .int .i64 X, .int .i64 D] w fun e w' => ∃ v : Value, e = .returned v ∧ RnRow w' B v (pt o (X, D)) ∧ Below B w w' ∧ (∀ k, k < w.heap.size → some k ≠ V.ownBlock → w'.heap[k]? = w.heap[k]?) := by
  rcases nil_or_snoc o with rfl | ⟨o, ⟨y0, y1⟩, rfl⟩
  · have HR := Lib.hid (fun o => hR.alloc o)
    have HR0 := Lib.hid hR
    obtain ⟨A, n, c, rfl, hn0⟩ := hR.form
    obtain rfl : n = 0 := hn0
    clear hR hp hl hn
    go_enter Tryz.func90, Tryz.ntmps90
    go_wp2_with (first
      | (at_builtin; go_must (refine wpList_append_rn2 rfl _ _ rfl rfl rfl rfl rfl HR0.out hB (by show (0:Nat) + 1 ≤ _; omega) ?_; intro v' w' r b kp)))
    go_returns
    exact ⟨_, rfl, r, b, kp⟩
  · rw [pt_snoc]
    have hp2 := ps_append.1 hp
    have hy := ps_one.1 hp2.2
    have h0 := ps_nonneg hp2.1
    rw [lg_append, lg_one] at hl
    simp only at hy hl
    have hlen : (o ++ [(y0, y1)]).length = o.length + 1 := by simp
    obtain ⟨g, c, rfl⟩ := hR.full (by omega)
    obtain ⟨hN, hNc, hBg, hgw⟩ := hR.len
    obtain ⟨f0, f1, z0, z1⟩ := RnRow.two hR o.length (by omega)
    rw [snoc_get] at f0 f1
    simp only at f0 f1
    have HR0 := Lib.hid hR
    rw [hlen] at hN hNc hn
    have hK0 : decide ((0 : Int) ≤ (o.length : Int)) = true := decide_eq_true (by omega)
    by_cases hyx : y0 = X
    · subst hyx
      have HS := Lib.hid (RnRow.set1 hR o.length (by omega) y0 (y1 + D) (by rw [snoc_get]))
      rw [snoc_set] at HS
      rw [if_pos rfl]
      have hs1 : y1 + D ≤ 1099511627776 := by omega
      rw [hlen] at HS ⊢
      clear hR hp hp2 hlen HR0
      generalize o.length = K at *
      go_enter Tryz.func90, Tryz.ntmps90
      go_wp2
      go_returns
      exact ⟨_, rfl, HS.out, (Below.refl _ _).setCell hBg _, fun k hk hne => heap_setCell_other _ _ _ _ (fun e => hne (by rw [e]; rfl))⟩
    · rw [if_neg hyx]
      have hne : (y0 == X) = false := by simpa using hyx
      have hn2 : (o ++ [(y0, y1)]).length + 1 ≤ 4398046511104 := by omega
      have HN2 := Lib.hid hn2
      rw [hlen] at HR0 ⊢
      clear hR hp hp2 hn2 hyx
      go_enter Tryz.func90, Tryz.ntmps90
      go_wp2_with (first
        | (at_builtin; go_must (refine wpList_append_rn2 rfl _ _ rfl rfl rfl rfl rfl HR0.out hB HN2.out ?_; intro v' w' r b kp; rw [List.append_assoc] at r)))
      go_returns
      exact ⟨_, rfl, r, b, kp⟩

theorem lengthened_any (o : List Rn) (B : Nat) (V : Value) (X D : Int) (w : World) (hR : RnRow w B V o) (hB : B ≤ w.heap.size) (hp : ps o) (hD : 0 ≤ D) (hl : lg o + D ≤ 1099511627776) (hn : o.length ≤ 4294967296) :
    Calls Tryz.prog 90 #[V, .int .i64 X, .int .i64 D] w fun e w' => ∃ v : Value, e = .returned v ∧ RnRow w' B v (pt o (X, D)) ∧ Below B w w' :=
  (lengthened_any2 o B V X D w hR hB hp hD hl hn).mono fun e w' ⟨v, h1, h2, h3, _⟩ => ⟨v, h1, h2, h3⟩

theorem clone_any (s : ByteArray) (w : World) (hs : s.size ≤ 140737488351232) :
    Calls Tryz.prog 89 #[.string s] w fun e w' => e = .returned (.string s) ∧ Below w.heap.size w w' := by
  have H1 := Lib.hid (fun w => Tryz.stringslite_Clone s w (by omega))
  go_enter Tryz.func89, Tryz.ntmps89
  go_wp2_with (first
    | (go_at_call 110; go_must (refine (H1.out _).mono ?_; rintro e w1 ⟨rfl, b1⟩)))
  go_returns
  exact ⟨rfl, b1⟩
theorem NmRow.set {w : World} {B g n c : Nat} {l : List ByteArray} (h : NmRow w B (.slice (some ⟨g, 0, none⟩) n c) l) (j : Nat) (hj : j < l.length) (s : ByteArray) :
    NmRow (w.setCell ⟨g, j, none⟩ (.string s)) B (.slice (some ⟨g, 0, none⟩) n c) (l.set j s) := by
  have := KRow.cellSet nmC_size h j 0 hj (by omega) (.string s) s rfl
  rwa [Nat.mul_one, Nat.add_zero] at this
theorem NmRow.one {w : World} {B g n c : Nat} {l : List ByteArray} (h : NmRow w B (.slice (some ⟨g, 0, none⟩) n c) l) (j : Nat) (hj : j < l.length) : w.cell? ⟨g, j, none⟩ = some (.string l[j]) ∧ w.frozen? ⟨g, j, none⟩ = false := by
  have := h.cell nmC_size j hj 0 (by omega)
  rw [Nat.mul_one, Nat.add_zero] at this
  exact ⟨this, h.frozen _⟩
/-- The first j of a list stand already. -/
def Fil (X l : List ByteArray) (j : Nat) : Prop := X.length = l.length ∧ X.take j = l.take j
theorem Fil.step {X l : List ByteArray} {j : Nat} (h : Fil X l j) (hj : j < l.length) : Fil (X.set j l[j]) l (j + 1) := by
  obtain ⟨h1, h2⟩ := h
  refine ⟨by rw [List.length_set]; exact h1, ?_⟩
  rw [List.take_succ_eq_append_getElem (by rw [List.length_set, h1]; exact hj), List.take_set_of_le (Nat.le_refl _), h2, List.getElem_set_self, List.take_succ_eq_append_getElem hj]
theorem Fil.done {X l : List ByteArray} {j : Nat} (h : Fil X l j) (hj : l.length ≤ j) : X = l := by
  have := h.2
  rwa [List.take_of_length_le (by rw [h.1]; exact hj), List.take_of_length_le hj] at this

set_option maxRecDepth 20000 in
set_option maxHeartbeats 4000000 in
theorem copied_any (l : List ByteArray) (v : Value) (w : World) (hT : NmArg w v l) (hn : l.length ≤ 65536) (hs : ∀ j (h : j < l.length), l[j].size ≤ 140737488351232) : Calls Tryz.prog 52 #[v] w fun e w' => ∃ v' : Value, e = .returned v' ∧ NmRow w' w.heap.size v' l ∧ Below w.heap.size w w' := by
  obtain ⟨A, c, rfl, hc, hA⟩ := hT.form
  have HA := Lib.hid hA
  have HS := Lib.hid hs
  have hn' : (l.length : Int) ≤ 65536 := by omega
  clear hA hT hs hc
  go_enter Tryz.func52, Tryz.ntmps52
  go_wp2_with (first
    | (at_make; go_must (refine wpList_make_k (enc := nmC) Tryz.underlying22 name_info (⟨#[]⟩ : ByteArray) rfl rfl rfl _ _ rfl rfl rfl rfl rfl (by omega) (by omega) (Nat.le_refl _) ?_; intro w1 r1 b1; have R1 := Lib.hid r1; have B1 := Lib.hid b1; clear r1 b1)))
  go_loopw [11] (fun i wr => ∃ (j : Nat) (X : List ByteArray), j ≤ l.length ∧ i = .int .i64 j ∧ Hid (Fil X l j) ∧ Hid (NmRow wr w.heap.size (.slice (some ⟨w.heap.size, 0, none⟩) l.length l.length) X) ∧ Hid (Below w.heap.size w wr)) (fun i _ => l.length - (intOf i).toNat)
  case atStart => exact ⟨0, List.replicate l.length ⟨#[]⟩, Nat.zero_le _, rfl, Lib.hid ⟨by simp, rfl⟩, R1, B1⟩
  case round =>
    obtain ⟨j, X, hj, rfl, HF, HR, HB⟩ := hrel
    have hb := HB.out
    by_cases hjl : j < l.length
    · obtain ⟨g, o, rfl, hg, hcell⟩ := HA.out (by omega)
      have f0 := (hb.cell (p := ⟨g, o + j, none⟩) hg).trans (hcell j hjl)
      have hXl := HF.out.1
      have HF2 := Lib.hid (HF.out.step hjl)
      have C1 := Lib.hid (fun w => clone_any l[j] w (HS.out j hjl))
      clear hcell HF
      generalize l[j] = s at *
      go_wp2_with (first
        | (go_at_call 89; go_must (refine (C1.out _).mono ?_; rintro e2 w2 ⟨rfl, b2⟩; have r2 := HR.out.keep b2; have HB2 := Lib.hid (hb.trans (b2.mono hb.size)); clear b2; obtain ⟨z0, z1⟩ := NmRow.one r2 j (by omega); have HS2 := Lib.hid (NmRow.set r2 j (by omega) s); clear r2)))
      go_roundw
      case rel => exact ⟨j + 1, X.set j s, by omega, val_int (by omega), HF2, HS2, Lib.hid (HB2.out.setCell (Nat.le_refl _) _)⟩
      case measure => simp [intOf]; omega
    · have hX := HF.out.done (show l.length ≤ j by omega)
      rw [hX] at HR
      clear hX HF
      go_wp2
      go_returns
      exact ⟨_, rfl, HR.out, hb⟩

end Si
end Go.Proofs.YtillcmddbjhepaaGreatDoor

namespace Go.Proofs.YtillcmddbjhepaaGreatDoor
namespace Si
open Go Go.RowKit Go.Joins
set_option linter.unusedVariables false
set_option linter.unusedSimpArgs false

def chR (N : List ByteArray) (R : List Rn) (s : ByteArray) : List Rn × Int := if ckC N R ≠ 0 then ([], ckC N R) else if ix N s < 0 then ([], 8) else (chn R (ix N s).toNat, 0)
theorem chR_n {N : List ByteArray} {R : List Rn} {s : ByteArray} (h : ¬ ckC N R = 0) : chR N R s = ([], ckC N R) := by unfold chR; rw [if_pos h]
theorem chR_8 {N : List ByteArray} {R : List Rn} {s : ByteArray} (h : ckC N R = 0) (h1 : ix N s < 0) : chR N R s = ([], 8) := by unfold chR; rw [if_neg (fun x => x h), if_pos h1]
theorem chR_0 {N : List ByteArray} {R : List Rn} {s : ByteArray} (h : ckC N R = 0) (h1 : ¬ ix N s < 0) : chR N R s = (chn R (ix N s).toNat, 0) := by unfold chR; rw [if_neg (fun x => x h), if_neg h1]
theorem ix_range (l : List ByteArray) (s : ByteArray) : ix l s = -1 ∨ (0 ≤ ix l s ∧ ix l s < l.length) := by
  have := ixF_range l s 0
  unfold ix
  omega
/-- Two cells of a block, behind what only makes memory. -/
theorem held2 {w W W' : World} {b : Nat} {x0 x1 : Value} (h : W.cell? ⟨b, 0, none⟩ = some x0 ∧ W.cell? ⟨b, 1, none⟩ = some x1 ∧ Below w.heap.size w W ∧ b < W.heap.size) (hb : Below W.heap.size W W') : W'.cell? ⟨b, 0, none⟩ = some x0 ∧ W'.cell? ⟨b, 1, none⟩ = some x1 ∧ Below w.heap.size w W' ∧ b < W'.heap.size := by
  obtain ⟨h0, h1, h2, h3⟩ := h
  have := hb.size
  exact ⟨(hb.cell (p := ⟨b, 0, none⟩) h3).trans h0, (hb.cell (p := ⟨b, 1, none⟩) h3).trans h1, h2.trans (hb.mono h2.size), by omega⟩
/-- The same, behind what changes one other block besides. -/
theorem held2k {w W W' : World} {b : Nat} {v : Value} {x0 x1 : Value} (h : W.cell? ⟨b, 0, none⟩ = some x0 ∧ W.cell? ⟨b, 1, none⟩ = some x1 ∧ Below w.heap.size w W ∧ b < W.heap.size) (hb : Below w.heap.size W W') (hk : ∀ k, k < W.heap.size → some k ≠ v.ownBlock → W'.heap[k]? = W.heap[k]?) (hv : some b ≠ v.ownBlock) : W'.cell? ⟨b, 0, none⟩ = some x0 ∧ W'.cell? ⟨b, 1, none⟩ = some x1 ∧ Below w.heap.size w W' ∧ b < W'.heap.size := by
  obtain ⟨h0, h1, h2, h3⟩ := h
  have := hb.size
  exact ⟨(kept_at hk ⟨b, 0, none⟩ h3 hv).trans h0, (kept_at hk ⟨b, 1, none⟩ h3 hv).trans h1, h2.trans hb, by omega⟩

end Si
end Go.Proofs.YtillcmddbjhepaaGreatDoor

namespace Go.Proofs.YtillcmddbjhepaaGreatDoor
namespace Si
open Go Go.RowKit Go.Joins
set_option linter.unusedVariables false
set_option linter.unusedSimpArgs false

theorem prt_lg_le {R : List Rn} {f t : Int} (h : ps R) : lg (prt R f t) ≤ lg R := by
  have := ps_nonneg h
  unfold prt; rw [jn_lg, sl_lg h]; omega
theorem prt_ps (R : List Rn) (f t : Int) : ps (prt R f t) := jn_ps sl_ps
theorem prt_take_len (R : List Rn) (j : Nat) (f t : Int) : (prt (R.take j) f t).length ≤ R.length := by
  have h1 := prt_len (R.take j) f t
  rw [List.length_take] at h1
  omega

set_option maxRecDepth 20000 in
set_option maxHeartbeats 8000000 in
theorem part_any (m : Int) (R : List Rn) (V : Value) (F T : Int) (w : World) (hT : RnArg w V R) (hn : R.length ≤ 262144) (hv : vr m 0 R = true) (hF0 : 0 ≤ F) (hF1 : F ≤ 1099511627776) (hT0 : 0 ≤ T) (hT1 : T ≤ 1099511627776) :
    Calls Tryz.prog 53 #[V, .int .i64 F, .int .i64 T] w fun e w' => ∃ v : Value, e = .returned v ∧ RnRow w' w.heap.size v (prt R F T) ∧ Below w.heap.size w w' := by
  obtain ⟨A, c, rfl, hA⟩ := hT
  have HA := Lib.hid hA
  have HV := Lib.hid hv
  have hps := ((vr_iff m R 0 (by omega)).1 hv).2.1
  have HPS := Lib.hid hps
  have hn' : (R.length : Int) ≤ 262144 := by omega
  clear hA hv hps
  go_enter Tryz.func53, Tryz.ntmps53
  go_wp2
  go_loopw [16, 7, 8] (fun i r s wr => ∃ j : Nat, j ≤ R.length ∧ i = .int .i64 j ∧ s = .int .i64 (lg (R.take j)) ∧ Hid (RnRow wr w.heap.size r (prt (R.take j) F T)) ∧ Hid (Below w.heap.size w wr)) (fun i _ _ _ => R.length - (intOf i).toNat)
  case atStart => exact ⟨0, Nat.zero_le _, rfl, rfl, Lib.hid (KRow.nil _ _), Lib.hid (Below.refl _ _)⟩
  case round =>
    obtain ⟨j, hj, rfl, rfl, HR, HB⟩ := hrel
    have hb := HB.out
    by_cases hjl : j < R.length
    · obtain ⟨g, o, rfl, hg, hc⟩ := HA.out (by omega)
      obtain ⟨a0, a1⟩ := arg_two hc j hjl
      have f0 := (hb.cell (p := ⟨g, o + j * 2, none⟩) hg).trans a0
      have f1 := (hb.cell (p := ⟨g, o + j * 2 + 1, none⟩) hg).trans a1
      have hr := lg_take_range HV.out j
      have hx := el_range HV.out j hjl
      have hle := prt_lg_le (f := F) (t := T) (ps_take HPS.out (j + 1))
      have hr2 := lg_take_range HV.out (j + 1)
      have htk := Lib.hid (lg_take R j hjl)
      have hsl := prt_take_len R j F T
      have hpe := prt_ps (R.take j) F T
      have hY : max (lg (R.take j)) F < min (lg (R.take j) + R[j].2) T → prt (R.take (j + 1)) F T = pt (prt (R.take j) F T) (R[j].1, min (lg (R.take j) + R[j].2) T - max (lg (R.take j)) F) := fun h => prt_yes hjl h
      have hN : ¬ max (lg (R.take j)) F < min (lg (R.take j) + R[j].2) T → prt (R.take (j + 1)) F T = prt (R.take j) F T := fun h => prt_no hjl h
      have HB2 := Lib.hid (show Below w.heap.size w (wr.alloc (.cells #[.int .i64 R[j].1, .int .i64 R[j].2] 54)) from hb.alloc hb.size _)
      have HR2 := Lib.hid (show RnRow (wr.alloc (.cells #[.int .i64 R[j].1, .int .i64 R[j].2] 54)) w.heap.size _ (prt (R.take j) F T) from HR.out.alloc _)
      clear a0 a1 hc
      generalize R[j].1 = x0 at *
      generalize R[j].2 = x1 at *
      generalize lg (R.take j) = S at *
      generalize prt (R.take j) F T = E at *
      obtain ⟨_, hx1, hx2⟩ := hx
      have hS1 : ∀ lo hi : Int, max S F = lo → min (S + x1) T = hi → (lo < hi → Hid (prt (R.take (j + 1)) F T = pt E (x0, hi - lo)) ∧ lg E + (hi - lo) ≤ 1099511627776) ∧ (¬ lo < hi → Hid (prt (R.take (j + 1)) F T = E)) := by
        intro lo hi e1 e2
        rw [e1, e2] at hY hN
        refine ⟨fun h => ⟨Lib.hid (hY h), ?_⟩, fun h => Lib.hid (hN h)⟩
        have := hY h
        rw [this, pt_lg] at hle
        simp only at hle
        omega
      clear hY hN hle
      obtain ⟨UA, UN, UC, rfl, hUN⟩ := HR.out.form
      clear hUN
      have HE := Lib.hid hpe
      have CL : Hid (∀ X D w', RnRow w' w.heap.size (.slice UA UN UC) E → w.heap.size ≤ w'.heap.size → 0 ≤ D → lg E + D ≤ 1099511627776 → Calls Tryz.prog 90 #[.slice UA UN UC, .int .i64 X, .int .i64 D] w' fun e w'' => ∃ v : Value, e = .returned v ∧ RnRow w'' w.heap.size v (pt E (X, D)) ∧ Below w.heap.size w' w'') := Lib.hid (fun X D w' h1 h2 h3 h4 => lengthened_any E w.heap.size _ X D w' h1 h2 HE.out h3 h4 (by omega))
      clear hpe hr2
      obtain ⟨hy, hz⟩ := hS1 _ _ rfl rfl
      clear hS1
      have hm0 : 0 ≤ max S F ∧ max S F ≤ 1099511627776 := by omega
      have hm1 : 0 ≤ min (S + x1) T ∧ min (S + x1) T ≤ 1099511627776 := by omega
      by_cases hlt : max S F < min (S + x1) T
      · obtain ⟨HST, hld⟩ := hy hlt
        have HLD := Lib.hid hld
        have HD := Lib.hid (show 0 ≤ min (S + x1) T - max S F by omega)
        clear hy hz hld
        go_wp2_with (first
          | (go_at_call 90; go_must (refine (CL.out _ _ _ HR2.out HB2.out.size HD.out HLD.out).mono ?_; rintro e5 w5 ⟨v5, rfl, r5, b5⟩; have R5 := Lib.hid r5; have B5 := Lib.hid (HB2.out.trans b5); clear r5 b5)))
        go_roundw
        case rel => exact ⟨j + 1, by omega, val_int (by omega), val_int (by rw [htk.out]), Lib.hid (by rw [HST.out]; exact R5.out), B5⟩
        case measure => simp [intOf]; omega
      · have HST := hz hlt
        clear hy hz
        go_wp2
        go_roundw
        case rel => exact ⟨j + 1, by omega, val_int (by omega), val_int (by rw [htk.out]), Lib.hid (by rw [HST.out]; exact HR2.out), HB2⟩
        case measure => simp [intOf]; omega
    · have he : R.take j = R := List.take_of_length_le (by omega)
      rw [he] at HR
      clear he
      go_wp2
      go_returns
      exact ⟨_, rfl, HR.out, hb⟩

end Si
end Go.Proofs.YtillcmddbjhepaaGreatDoor

namespace Go.Proofs.YtillcmddbjhepaaGreatDoor
open Go Go.RowKit Go.Joins Si
set_option linter.unusedVariables false
set_option linter.unusedSimpArgs false

set_option maxRecDepth 100000 in
set_option maxHeartbeats 8000000 in
theorem rclean10_any (m : Int) (l : List Rn) (V : Value) (w : World) (hT : RnArg w V l) (hn : l.length ≤ 1099511627776) (hv : vr m 0 l = true) :
    Calls Tryz.prog 31 #[V] w fun e w' => ∃ v : Value, e = .returned v ∧ RnRow w' w.heap.size v (jn l) ∧ Below w.heap.size w w' := by
  obtain ⟨A, c, rfl, hA⟩ := hT
  have HA := Lib.hid hA
  obtain ⟨hv1, hv2, hv3⟩ := (vr_iff m l 0 (by omega)).1 hv
  have HPS := Lib.hid hv2
  have HV := Lib.hid hv
  have HR1 : Hid (RnRow (w.alloc (.cells #[] 54)) w.heap.size (.slice (some ⟨w.heap.size, 0, none⟩) 0 0) []) := Lib.hid (KRow.lit rnC_size w w.heap.size (Nat.le_refl _) [] #[] rfl 0 rfl (by simp))
  clear hA hv hv1 hv2 hv3
  go_enter Tryz.func31, Tryz.ntmps31
  go_wp2
  go_loopw [4, 3] (fun i r wr => ∃ j : Nat, j ≤ l.length ∧ i = .int .i64 j ∧ Hid (RnRow wr w.heap.size r (jn (l.take j))) ∧ Hid (Below w.heap.size w wr)) (fun i _ _ => l.length - (intOf i).toNat)
  case atStart => exact ⟨0, Nat.zero_le _, rfl, HR1, Lib.hid (ba w _)⟩
  case round =>
    obtain ⟨j, hj, rfl, HR, HB⟩ := hrel
    have hb := HB.out
    by_cases hjl : j < l.length
    · obtain ⟨g, o, rfl, hg, hc⟩ := HA.out (by omega)
      obtain ⟨a0, a1⟩ := arg_two hc j hjl
      have f0 := (hb.cell (p := ⟨g, o + j * 2, none⟩) hg).trans a0
      have f1 := (hb.cell (p := ⟨g, o + j * 2 + 1, none⟩) hg).trans a1
      have hx := el_range HV.out j hjl
      have htk := jn_take l j hjl
      have hM : lg (jn (l.take (j + 1))) ≤ 1099511627776 := by rw [jn_lg]; exact Int.le_trans (lg_take_range HV.out (j + 1)).2.1 (lg_take_range HV.out (j + 1)).2.2
      have hgJ := jn_ps (ps_take HPS.out j)
      have hjlen : (jn (l.take j)).length ≤ j := Nat.le_trans (jn_len _) (by rw [List.length_take]; omega)
      clear a0 a1 hc
      have hjl2 : (l[j].1, l[j].2) = l[j] := rfl
      rw [← hjl2] at htk
      have HJ : ∀ J, jn (l.take j) = J → Hid (jn (l.take (j + 1)) = pt J (l[j].1, l[j].2)) := fun J h => Lib.hid (by rw [← h]; exact htk)
      clear hjl2 htk
      generalize l[j].1 = x0 at *
      generalize l[j].2 = x1 at *
      obtain ⟨hx0, hx1, hx2⟩ := hx
      rcases nil_or_snoc (jn (l.take j)) with hJ | ⟨q, y, hJ⟩
      · have HP := Lib.hid (show jn (l.take (j + 1)) = [(x0, x1)] by rw [(HJ _ hJ).out]; rfl)
        rw [hJ] at HR
        obtain ⟨UA, UN, UC, rfl, hUN⟩ := HR.out.form
        obtain rfl : UN = 0 := hUN
        clear HJ hM hgJ hJ hjlen
        go_wp2
        go_big_quiet (fail)
        go_wp2_with (first
          | (at_builtin; go_must (refine wpList_append_rn rfl _ _ rfl rfl rfl rfl rfl (HR.out.drewN _) (le_drewN hb.size _) (by simp) ?_; intro v5 w5 R5 b5)))
        go_roundw
        case rel => exact ⟨j + 1, by omega, val_int (by omega), Lib.hid (by rw [HP.out]; exact R5), Lib.hid (by repeat' (first | with_reducible exact Below.refl _ _ | with_reducible exact Nat.le_refl _ | with_reducible assumption | with_reducible refine below_drewN ?_ _ | with_reducible refine Below.drew ?_ | with_reducible refine Below.trans ?_ (Below.mono (by assumption) ?_) | with_reducible refine Below.alloc ?_ ?_ _ | with_reducible refine Below.setCell ?_ ?_ _ | with_reducible refine le_setCell ?_ _ _ | with_reducible refine le_alloc ?_ _ | with_reducible refine le_drewN ?_ _ | with_reducible refine le_drew ?_ | with_reducible refine Nat.le_trans ?_ (Below.size (by assumption)) | (simp only [World.size_alloc, World.size_setCell]; omega)))⟩
        case measure => simp [intOf]; omega
      · obtain ⟨y0, y1⟩ := y
        rw [hJ] at HR hjlen
        obtain ⟨G, C, rfl⟩ := HR.out.full (by simp)
        have hK : (q ++ [(y0, y1)]).length = q.length + 1 := by simp
        have HR0 := HR
        rw [hK] at HR hjlen
        obtain ⟨c0, c1, z0, z1⟩ := RnRow.two HR.out q.length (by simp)
        simp only [List.getElem_concat_length] at c0 c1
        rw [hJ, ps_append] at hgJ
        have hy1 : 1 ≤ y1 := hgJ.2 (y0, y1) (by simp)
        have ho := ps_nonneg hgJ.1
        have hp := (HJ _ hJ).out
        rw [pt_snoc] at hp
        have hG := HR.out.len
        have hG1 := hG.2.2.1
        have hGl := hG.2.2.2
        have hqc : (q.length : Int) ≤ C := by have := hG.2.1; omega
        have hqc2 : q.length ≤ C := by omega
        have HF := Lib.hid (KRow.first rnC_size HR.out (n := q.length) (by simp))
        have htq : (q ++ [(y0, y1)]).take q.length = q := by simp
        rw [htq] at HF
        clear hgJ HJ hG hK htq hJ
        by_cases hxy : y0 = x0
        · rw [if_pos hxy] at hp
          simp only at hp
          rw [hp, lg_append, lg_one] at hM
          simp only at hM
          have HP := Lib.hid hp
          have hsum : y1 + x1 ≤ 1099511627776 := by omega
          subst hxy
          clear hM hp ho
          have v1 : IntKind.i64.wrap (q.length : Int) = q.length := IntWalk.i64_in _ (by omega)
          have v2 : IntKind.i64.wrap (y1 + x1) = y1 + x1 := IntWalk.i64_in _ (by omega)
          go_wp2
          go_big_quiet (fail)
          have HBW := Lib.hid (below_drewN HB.out nq)
          have e0 : (wr.drewN nq).cell? ⟨G, q.length * 2, none⟩ = some (.int .i64 y0) := c0
          have e1 : (wr.drewN nq).cell? ⟨G, q.length * 2 + 1, none⟩ = some (.int .i64 y1) := c1
          have e3 : (wr.drewN nq).cell? ⟨g, o + j * 2, none⟩ = some (.int .i64 y0) := f0
          have e4 : (wr.drewN nq).cell? ⟨g, o + j * 2 + 1, none⟩ = some (.int .i64 x1) := f1
          have HFW := Lib.hid (HF.out.drewN nq)
          have hGW : G < (wr.drewN nq).heap.size := by simpa using hGl
          clear c0 c1 z0 z1 f0 f1 hb HR HB HF HR0
          generalize wr.drewN nq = W at *
          have HL := Lib.hid (RowAt.new W 54 #[.int .i64 y0, .int .i64 y1])
          have HB1 := Lib.hid (HBW.out.alloc HBW.out.size (.cells #[.int .i64 y0, .int .i64 y1] 54))
          have HF1 := Lib.hid (fun v => HFW.out.keep (Below.setCell (p := ⟨W.heap.size, 1, none⟩) (ba W (.cells #[.int .i64 y0, .int .i64 y1] 54)) (Nat.le_refl _) v))
          have e5 := ((ba W (.cells #[.int .i64 y0, .int .i64 y1] 54)).cell (p := ⟨g, o + j * 2 + 1, none⟩) (Nat.lt_of_lt_of_le hg HBW.out.size)).trans e4
          have hBs := HBW.out.size
          go_wp2
          clear e0 e1 e3 e4 HBW HFW
          generalize W.alloc (.cells #[.int .i64 y0, .int .i64 y1] 54) = W1 at *
          generalize W.heap.size = B at *
          have k0 : W1.cell? ⟨B, 0, none⟩ = some (.int .i64 y0) := HL.out.cell 0
          have k1 : W1.cell? ⟨B, 1, none⟩ = some (.int .i64 y1) := HL.out.cell 1
          go_still_tail 9, (by kernel_rfl)
          change wpList _ _ _ _ _ W1.drew
          have l0 : W1.drew.cell? ⟨B, 0, none⟩ = some (.int .i64 y0) := HL.out.cell 0
          have l1 : W1.drew.cell? ⟨B, 1, none⟩ = some (.int .i64 y1) := HL.out.cell 1
          have l2 : W1.drew.frozen? ⟨B, 1, none⟩ = false := HL.out.frozen 1
          have l3 : W1.drew.cell? ⟨g, o + j * 2 + 1, none⟩ = some (.int .i64 x1) := e5
          have HL2 := Lib.hid (RowAt.set HL.out 1 (.int .i64 (y1 + x1)))
          have HB2 := Lib.hid (Below.setCell (p := ⟨B, 1, none⟩) HB1.out hBs (.int .i64 (y1 + x1)))
          have HF2 := Lib.hid (HF1.out (.int .i64 (y1 + x1)))
          clear k0 k1 e5 HL HB1 HF1
          go_wp2
          clear l0 l1 l2 l3
          have E2 : ((W1.setCell ⟨B, 1, none⟩ (.int .i64 (y1 + x1))).drew).heap = (W1.setCell ⟨B, 1, none⟩ (.int .i64 (y1 + x1))).heap := rfl
          have HL3 := Lib.hid (show RowAt (W1.setCell ⟨B, 1, none⟩ (.int .i64 (y1 + x1))).drew B 54 #[.int .i64 y0, .int .i64 (y1 + x1)] from HL2.out)
          have HB3 := Lib.hid (HB2.out.drew)
          have HF3 := Lib.hid (HF2.out.drewN 1)
          clear HL2 HB2 HF2 E2
          have m0 : (W1.setCell ⟨B, 1, none⟩ (.int .i64 (y1 + x1))).drew.cell? ⟨B, 0, none⟩ = some (.int .i64 y0) := HL3.out.cell 0
          have m1 : (W1.setCell ⟨B, 1, none⟩ (.int .i64 (y1 + x1))).drew.cell? ⟨B, 1, none⟩ = some (.int .i64 (y1 + x1)) := HL3.out.cell 1
          change RnRow (W1.setCell ⟨B, 1, none⟩ (.int .i64 (y1 + x1))).drew _ _ _ at HF3
          generalize (W1.setCell ⟨B, 1, none⟩ (.int .i64 (y1 + x1))).drew = W2 at *
          have n0 : W2.drew.cell? ⟨B, 0, none⟩ = some (.int .i64 y0) := m0
          have n1 : W2.drew.cell? ⟨B, 1, none⟩ = some (.int .i64 (y1 + x1)) := m1
          have HRd := Lib.hid (show RnRow W2.drew w.heap.size (.slice (some ⟨G, 0, none⟩) q.length C) q from HF3)
          have hdr := Lib.hid (show Below w.heap.size w W2.drew from HB3.out.drew)
          have hM1 : q.length + 1 ≤ 140737488355328 := by omega
          have hM2 : (q.length + 1) * 16 ≤ 140737488355328 := by omega
          have HN := Lib.hid (show W2.drew.cell? ⟨B, 0, none⟩ = some (.int .i64 y0) ∧ W2.drew.cell? ⟨B, 1, none⟩ = some (.int .i64 (y1 + x1)) ∧ Below w.heap.size w W2.drew from ⟨n0, n1, hdr.out⟩)
          have hBl : B < W2.drew.heap.size := RowAt.lt HL3.out
          have hBn : some B ≠ (Value.slice (some ⟨G, 0, none⟩) q.length C).ownBlock := by intro e; cases e; exact Nat.lt_irrefl _ hGW
          have HNA := Lib.hid (show (W2.alloc (.cells #[.int .i64 y0, .int .i64 (y1 + x1)] 54)).drew.cell? ⟨B, 0, none⟩ = some (.int .i64 y0) ∧ (W2.alloc (.cells #[.int .i64 y0, .int .i64 (y1 + x1)] 54)).drew.cell? ⟨B, 1, none⟩ = some (.int .i64 (y1 + x1)) ∧ Below w.heap.size w (W2.alloc (.cells #[.int .i64 y0, .int .i64 (y1 + x1)] 54)).drew from ⟨(HL3.out.alloc _).cell 0, (HL3.out.alloc _).cell 1, (HB3.out.alloc HB3.out.size _).drew⟩)
          go_region_held3 (fun w' => w'.cell? ⟨B, 0, none⟩ = some (.int .i64 y0) ∧ w'.cell? ⟨B, 1, none⟩ = some (.int .i64 (y1 + x1)) ∧ Below w.heap.size w w') (first | exact HN.out | exact HNA.out | assumption | go_keep)
            ((refine step_append_ks2 (P := Tryz.prog) Tryz.underlying23 run_info rfl (by decide) rnC_size (by rfl) (.tmp 50) (.tmp 52) (by rfl) (by rfl) (by rfl) (by rfl) HRd.out hdr.out.size [(y0, y1 + x1)] (by rfl) (by decide) (by rfl) (by rfl) hM1 hM2 ?_; intro v3 w3 r3 b3 n3; have hw3 : w3.cell? ⟨B, 0, none⟩ = some (.int .i64 y0) ∧ w3.cell? ⟨B, 1, none⟩ = some (.int .i64 (y1 + x1)) ∧ Below w.heap.size w w3 := ⟨(kept_at n3 ⟨B, 0, none⟩ hBl hBn).trans HN.out.1, (kept_at n3 ⟨B, 1, none⟩ hBl hBn).trans HN.out.2.1, hdr.out.trans b3⟩))
          all_goals
            go_wp2
            go_roundw
            case rel => exact ⟨j + 1, by omega, val_int (by omega), Lib.hid (by rw [HP.out]; exact r3), Lib.hid (hdr.out.trans b3)⟩
            case measure => simp [intOf]; omega
        · rw [if_neg hxy] at hp
          have HP := Lib.hid hp
          have hne : (y0 == x0) = false := by simpa using hxy
          have hqn := Lib.hid (show (q ++ [(y0, y1)]).length + 1 ≤ 4398046511104 by rw [List.length_append]; simp only [List.length_cons, List.length_nil]; omega)
          clear hM hp ho hxy HF
          have v1 : IntKind.i64.wrap (q.length : Int) = q.length := IntWalk.i64_in _ (by omega)
          go_wp2
          go_big_quiet (fail)
          go_wp2_with (first
            | (at_builtin; go_must (refine wpList_append_rn (l := q ++ [(y0, y1)]) rfl _ _ rfl rfl rfl rfl rfl (by first | exact HR0.out.drewN _ | exact HR.out.drewN _) (le_drewN (Below.size HB.out) _) hqn.out ?_; intro v5 w5 R5 b5)))
          go_roundw
          case rel => exact ⟨j + 1, by omega, val_int (by omega), Lib.hid (by rw [HP.out]; exact R5), Lib.hid (by repeat' (first | with_reducible exact Below.refl _ _ | with_reducible exact Nat.le_refl _ | with_reducible assumption | with_reducible refine below_drewN ?_ _ | with_reducible refine Below.drew ?_ | with_reducible refine Below.trans ?_ (Below.mono (by assumption) ?_) | with_reducible refine Below.alloc ?_ ?_ _ | with_reducible refine Below.setCell ?_ ?_ _ | with_reducible refine le_setCell ?_ _ _ | with_reducible refine le_alloc ?_ _ | with_reducible refine le_drewN ?_ _ | with_reducible refine le_drew ?_ | with_reducible refine Nat.le_trans ?_ (Below.size (by assumption)) | (simp only [World.size_alloc, World.size_setCell]; omega)))⟩
          case measure => simp [intOf]; omega
    · have he : l.take j = l := List.take_of_length_le (by omega)
      rw [he] at HR
      clear he
      go_wp2
      go_returns
      exact ⟨_, rfl, HR.out, hb⟩

end Go.Proofs.YtillcmddbjhepaaGreatDoor

namespace Go.Proofs.YtillcmddbjhepaaGreatDoor
namespace Si
open Go Go.RowKit Go.Joins
set_option linter.unusedVariables false
set_option linter.unusedSimpArgs false

def slE (N : List ByteArray) (R : List Rn) (f t : Int) : Int := if ckC N R ≠ 0 then ckC N R else if f < 0 ∨ t ≤ f ∨ lg R < t then 2 else 0
theorem slE_n {N : List ByteArray} {R : List Rn} {f t : Int} (h : ¬ ckC N R = 0) : slE N R f t = ckC N R := by unfold slE; rw [if_pos h]
theorem slE_2 {N : List ByteArray} {R : List Rn} {f t : Int} (h : ckC N R = 0) (h1 : f < 0 ∨ t ≤ f ∨ lg R < t) : slE N R f t = 2 := by unfold slE; rw [if_neg (fun x => x h), if_pos h1]
theorem slE_0 {N : List ByteArray} {R : List Rn} {f t : Int} (h : ckC N R = 0) (h1 : ¬ (f < 0 ∨ t ≤ f ∨ lg R < t)) : slE N R f t = 0 := by unfold slE; rw [if_neg (fun x => x h), if_neg h1]
def slN (N : List ByteArray) (R : List Rn) (f t : Int) : List ByteArray := if slE N R f t = 0 then N else []
def slR (N : List ByteArray) (R : List Rn) (f t : Int) : List Rn := if slE N R f t = 0 then prt R f t else []
theorem slN_0 {N : List ByteArray} {R : List Rn} {f t : Int} (h : slE N R f t = 0) : slN N R f t = N ∧ slR N R f t = prt R f t := by unfold slN slR; rw [if_pos h, if_pos h]; exact ⟨rfl, rfl⟩
theorem slN_n {N : List ByteArray} {R : List Rn} {f t : Int} (h : ¬ slE N R f t = 0) : slN N R f t = [] ∧ slR N R f t = [] := by unfold slN slR; rw [if_neg h, if_neg h]; exact ⟨rfl, rfl⟩

theorem setRow_other (w : World) (g : Nat) (cells : Array Value) (k : Nat) (h : k ≠ g) : (w.setRow g cells).heap[k]? = w.heap[k]? := by
  unfold World.setRow
  rw [Array.getElem?_modify, if_neg (fun e => h e.symm)]
theorem _root_.Go.Proofs.YtillcmddbjhepaaGreatDoor.KRow.others {α : Type} {enc : α → Array Value} {k : Nat} {T : TypeId} {w w' : World} {B b : Nat} {v : Value} {l : List α} (h : KRow enc k T w B v l) (hk : ∀ q, q ≠ b → w'.heap[q]? = w.heap[q]?) (hb : b < B) : KRow enc k T w' B v l := by
  refine ⟨h.1, h.2.imp id fun ⟨g, cap, cur, e, h1, h2, h3⟩ => ⟨g, cap, cur, e, h1, ?_, h3⟩⟩
  rw [hk g (by omega)]; exact h2
theorem nm_small {N : List ByteArray} (h : N.all nmB = true) (j : Nat) (hj : j < N.length) : N[j].size ≤ 140737488351232 := by
  have := nm_le (all_at h j hj)
  rw [size_len]
  omega
/-- Two cells of an old block, behind calls and a store into the next one. -/
theorem heldP {w W W' : World} {b : Nat} {x0 x1 : Value} (h : W.cell? ⟨b, 0, none⟩ = some x0 ∧ W.cell? ⟨b, 1, none⟩ = some x1 ∧ Below w.heap.size w W ∧ b < W.heap.size) (hb : Below W.heap.size W W') : W'.cell? ⟨b, 0, none⟩ = some x0 ∧ W'.cell? ⟨b, 1, none⟩ = some x1 ∧ Below w.heap.size w W' ∧ b < W'.heap.size := held2 h hb
theorem heldPS {w W : World} {b : Nat} {x0 x1 : Value} (h : W.cell? ⟨b, 0, none⟩ = some x0 ∧ W.cell? ⟨b, 1, none⟩ = some x1 ∧ Below w.heap.size w W ∧ b < W.heap.size) (hw : w.heap.size ≤ b + 1) (u v : Value) :
    ((W.setCell ⟨b + 1, 0, none⟩ u).setCell ⟨b + 1, 1, none⟩ v).cell? ⟨b, 0, none⟩ = some x0 ∧ ((W.setCell ⟨b + 1, 0, none⟩ u).setCell ⟨b + 1, 1, none⟩ v).cell? ⟨b, 1, none⟩ = some x1 ∧ Below w.heap.size w ((W.setCell ⟨b + 1, 0, none⟩ u).setCell ⟨b + 1, 1, none⟩ v) ∧ b < ((W.setCell ⟨b + 1, 0, none⟩ u).setCell ⟨b + 1, 1, none⟩ v).heap.size := by
  obtain ⟨h0, h1, h2, h3⟩ := h
  have e : ∀ (X : World) (i j : Nat) (y : Value), (X.setCell ⟨b + 1, i, none⟩ y).cell? ⟨b, j, none⟩ = X.cell? ⟨b, j, none⟩ := fun X i j y => World.cell?_setCell_other _ _ _ _ (fun e => by have := congrArg Addr.block e; simp only at this; omega)
  refine ⟨by rw [e, e]; exact h0, by rw [e, e]; exact h1, Below.setCell (Below.setCell h2 hw _) hw _, by rw [World.size_setCell, World.size_setCell]; exact h3⟩

theorem step_store_at2 {P : Program} {ops : Array Oper} {o : Oper} {a : Act} {w : World} {K : Act → World → Prop} {Q : Exit → Act → World → Prop} {E : Prop} {b : Nat} {T : TypeId} {old : Array Value} (h : RowAt w b T old)
    (cells : Array Value) (x y : Operand) (ty : TypeId) (hgd : o.guard = none) (ho : o.op = .store ty x y) (hx : a.eval x = .pointer (some ⟨b, 0, none⟩)) (hy : a.eval y = .agg cells)
    (hi : (P.info? ty).map (·.size) = some cells.size) (hold : old.size = cells.size) (h1 : cells.toList.all (·.oneCell') = true)
    (hk : ∀ w', RowAt w' b T cells → Below b w w' → (∀ k, k ≠ b → w'.heap[k]? = w.heap[k]?) → K (a.put o.dst undef) w') : if Region.wanted o (yielded ops a.tmps) = true then Oper.wp P o a w K Q else E := by
  have hw : Region.wanted o (yielded ops a.tmps) = true := by simp [Region.wanted, hgd]
  rw [if_pos hw]
  exact wp_store_row ty x y ho b cells hx hy T old h hi hold (by simpa using h1) (hk _ (setRow_heap w b old cells T (0, 0) h) (below_setRow (Below.refl _ _) (Nat.le_refl _) cells) (fun k hk => setRow_other w b cells k hk))
theorem heldQ {w W W' : World} {b : Nat} {x0 x1 : Value} (h : W.cell? ⟨b, 0, none⟩ = some x0 ∧ W.cell? ⟨b, 1, none⟩ = some x1 ∧ Below w.heap.size w W ∧ b < W.heap.size) (hk : ∀ k, k ≠ b + 1 → W'.heap[k]? = W.heap[k]?) (hb : Below (b + 1) W W') (hw : w.heap.size ≤ b + 1 := by omega) :
    W'.cell? ⟨b, 0, none⟩ = some x0 ∧ W'.cell? ⟨b, 1, none⟩ = some x1 ∧ Below w.heap.size w W' ∧ b < W'.heap.size := by
  obtain ⟨h0, h1, h2, h3⟩ := h
  have := hb.size
  exact ⟨(World.cell?_of_block (hk b (by omega))).trans h0, (World.cell?_of_block (hk b (by omega))).trans h1, h2.trans (hb.mono hw), by omega⟩

set_option maxRecDepth 20000 in
set_option maxHeartbeats 8000000 in
theorem slice_any (N : List ByteArray) (R : List Rn) (vN vR : Value) (F T : Int) (w : World) (hN : NmArg w vN N) (hs : szs N) (hR : RnArg w vR R) (hn : R.length ≤ 1099511627776) :
    Calls Tryz.prog 26 #[.agg #[vN, vR], .int .i64 F, .int .i64 T] w fun e w' => ∃ v1 v2 : Value, e = .returned (.tuple #[.agg #[v1, v2], .int .i64 (slE N R F T)]) ∧ NmRow w' w.heap.size v1 (slN N R F T) ∧ RnRow w' w.heap.size v2 (slR N R F T) ∧ Below w.heap.size w w' := by
  have HK := Lib.hid (fun w' (hb : Below w.heap.size w w') => check_any N R vN vR w' (hN.keep hb) hs (hR.keep hb) hn)
  have HL := Lib.hid (fun h w' (hb : Below w.heap.size w w') => long_any (mk N.length) R vR w' (hR.keep hb) hn (ckC_ok h).2.2.2.2.2)
  have HP := Lib.hid (fun h w' (hb : Below w.heap.size w w') h1 h2 h3 h4 => part_any (mk N.length) R vR F T w' (hR.keep hb) (ckC_ok h).1 (ckC_ok h).2.2.2.2.2 h1 h2 h3 h4)
  have HCp := Lib.hid (fun w' (hb : Below w.heap.size w w') h1 h2 => copied_any N vN w' (hN.keep hb) h1 h2)
  obtain ⟨A1, c1, rfl, hA1, hA1'⟩ := hN.form
  obtain ⟨A2, c2, rfl⟩ := hR.form
  clear hA1' hN hR hA1 hs
  have B0 := Lib.hid ((ba w (.cells #[.slice A1 N.length c1, .slice A2 R.length c2] 25)).alloc (ba w _).size (.cells #[.slice none 0 0, .slice none 0 0] 25))
  have P0 := Lib.hid ((RowAt.new w 25 #[.slice A1 N.length c1, .slice A2 R.length c2]).alloc (.cells #[.slice none 0 0, .slice none 0 0] 25))
  have Q0' := RowAt.new (w.alloc (.cells #[.slice A1 N.length c1, .slice A2 R.length c2] 25)) 25 #[.slice none 0 0, .slice none 0 0]
  rw [World.size_alloc] at Q0'
  have Q0 := Lib.hid Q0'
  clear Q0'
  by_cases hz : ckC N R = 0
  · have hck := ckC_ok hz
    have HL2 := Lib.hid (HL.out hz)
    have HP2 := Lib.hid (HP.out hz)
    have HCp2 := Lib.hid (fun w' hb => HCp.out w' hb (by omega) (fun j h => nm_small hck.2.2.2.2.1 j h))
    have hrg := vr_range hck.2.2.2.2.2
    have E2 := Lib.hid (fun h => slE_2 (f := F) (t := T) hz h); have E0 := Lib.hid (fun h => slE_0 (f := F) (t := T) hz h)
    rw [hz] at HK
    clear hz HL HP HCp hck
    by_cases hbad : F < 0 ∨ T ≤ F ∨ lg R < T
    · have he := E2.out hbad
      have hs := slN_n (N := N) (R := R) (f := F) (t := T) (by rw [he]; decide)
      have HE := Lib.hid he; have HS1 := Lib.hid hs.1; have HS2 := Lib.hid hs.2
      clear he hs E0 E2 HP2 HCp2
      generalize lg R = S at *
      by_cases d1 : F < 0
      · clear hbad
        go_enter Tryz.func26, Tryz.ntmps26
        go_wp2_with (first
          | (go_at_call 25; go_must (refine (HK.out _ B0.out).mono ?_; rintro e1 w1 ⟨rfl, b1⟩; have B1 := Lib.hid (B0.out.trans (b1.mono B0.out.size)); have P1 := Lib.hid (P0.out.keep b1); have Q1 := Lib.hid (Q0.out.keep b1); have g0 := P1.out.cell 0; have g1 := P1.out.cell 1; have k0 := Q1.out.cell 0; have k1 := Q1.out.cell 1; have z0 := Q1.out.frozen 0; have z1 := Q1.out.frozen 1; clear b1)))
        have e0 : ((w1.setCell ⟨w.heap.size + 1, 0, none⟩ (.slice none 0 0)).setCell ⟨w.heap.size + 1, 1, none⟩ (.slice none 0 0)).cell? ⟨w.heap.size + 1, 0, none⟩ = some (.slice none 0 0) := (two_set k0 k1).1
        have e1 : ((w1.setCell ⟨w.heap.size + 1, 0, none⟩ (.slice none 0 0)).setCell ⟨w.heap.size + 1, 1, none⟩ (.slice none 0 0)).cell? ⟨w.heap.size + 1, 1, none⟩ = some (.slice none 0 0) := (two_set k0 k1).2
        refine bodyPost_ret (v := .tuple #[.agg #[.slice none 0 0, .slice none 0 0], .int .i64 2]) (by simp [results, Tryz.results26, go_sem, e0, e1]) rfl ⟨_, _, by rw [HE.out], by rw [HS1.out]; exact KRow.nil _ _, by rw [HS2.out]; exact KRow.nil _ _, Below.setCell (Below.setCell B1.out (Nat.le_succ _) _) (Nat.le_succ _) _⟩
      by_cases d2 : T ≤ F
      · have d1' : decide (T ≤ F) = true := decide_eq_true d2
        clear hbad
        go_enter Tryz.func26, Tryz.ntmps26
        go_wp2_with (first
          | (go_at_call 25; go_must (refine (HK.out _ B0.out).mono ?_; rintro e1 w1 ⟨rfl, b1⟩; have B1 := Lib.hid (B0.out.trans (b1.mono B0.out.size)); have P1 := Lib.hid (P0.out.keep b1); have Q1 := Lib.hid (Q0.out.keep b1); have g0 := P1.out.cell 0; have g1 := P1.out.cell 1; have k0 := Q1.out.cell 0; have k1 := Q1.out.cell 1; have z0 := Q1.out.frozen 0; have z1 := Q1.out.frozen 1; clear b1)))
        have e0 : ((w1.setCell ⟨w.heap.size + 1, 0, none⟩ (.slice none 0 0)).setCell ⟨w.heap.size + 1, 1, none⟩ (.slice none 0 0)).cell? ⟨w.heap.size + 1, 0, none⟩ = some (.slice none 0 0) := (two_set k0 k1).1
        have e1 : ((w1.setCell ⟨w.heap.size + 1, 0, none⟩ (.slice none 0 0)).setCell ⟨w.heap.size + 1, 1, none⟩ (.slice none 0 0)).cell? ⟨w.heap.size + 1, 1, none⟩ = some (.slice none 0 0) := (two_set k0 k1).2
        refine bodyPost_ret (v := .tuple #[.agg #[.slice none 0 0, .slice none 0 0], .int .i64 2]) (by simp [results, Tryz.results26, go_sem, e0, e1]) rfl ⟨_, _, by rw [HE.out], by rw [HS1.out]; exact KRow.nil _ _, by rw [HS2.out]; exact KRow.nil _ _, Below.setCell (Below.setCell B1.out (Nat.le_succ _) _) (Nat.le_succ _) _⟩
      · have d1' : decide (T ≤ F) = false := decide_eq_false d2
        have d3 : S < T := by omega
        clear hbad
        go_enter Tryz.func26, Tryz.ntmps26
        go_wp2_with (first
          | (go_at_call 25; go_must (refine (HK.out _ B0.out).mono ?_; rintro e1 w1 ⟨rfl, b1⟩; have B1 := Lib.hid (B0.out.trans (b1.mono B0.out.size)); have P1 := Lib.hid (P0.out.keep b1); have Q1 := Lib.hid (Q0.out.keep b1); have g0 := P1.out.cell 0; have g1 := P1.out.cell 1; clear b1))
          | (go_at_call 51; go_must (refine (HL2.out _ B1.out).mono ?_; rintro e2 w2 ⟨rfl, b2⟩; have B2 := Lib.hid (B1.out.trans (b2.mono B1.out.size)); have Q2 := Lib.hid (Q1.out.keep b2); have k0 := Q2.out.cell 0; have k1 := Q2.out.cell 1; have z0 := Q2.out.frozen 0; have z1 := Q2.out.frozen 1; clear b2)))
        have e0 : ((w2.setCell ⟨w.heap.size + 1, 0, none⟩ (.slice none 0 0)).setCell ⟨w.heap.size + 1, 1, none⟩ (.slice none 0 0)).cell? ⟨w.heap.size + 1, 0, none⟩ = some (.slice none 0 0) := (two_set k0 k1).1
        have e1 : ((w2.setCell ⟨w.heap.size + 1, 0, none⟩ (.slice none 0 0)).setCell ⟨w.heap.size + 1, 1, none⟩ (.slice none 0 0)).cell? ⟨w.heap.size + 1, 1, none⟩ = some (.slice none 0 0) := (two_set k0 k1).2
        refine bodyPost_ret (v := .tuple #[.agg #[.slice none 0 0, .slice none 0 0], .int .i64 2]) (by simp [results, Tryz.results26, go_sem, e0, e1]) rfl ⟨_, _, by rw [HE.out], by rw [HS1.out]; exact KRow.nil _ _, by rw [HS2.out]; exact KRow.nil _ _, Below.setCell (Below.setCell B2.out (Nat.le_succ _) _) (Nat.le_succ _) _⟩
    · have he := E0.out hbad
      have hs := slN_0 (N := N) (R := R) (f := F) (t := T) he
      have HE := Lib.hid he; have HS1 := Lib.hid hs.1; have HS2 := Lib.hid hs.2
      have HP3 := Lib.hid (fun w' hb => HP2.out w' hb (by omega) (by omega) (by omega) (by omega))
      clear he hs E0 E2 HP2
      generalize lg R = S at *
      have d0 : ¬ F < 0 := by omega
      have d1 : decide (T ≤ F) = false := decide_eq_false (by omega)
      have d3 : ¬ S < T := by omega
      clear hbad
      go_enter Tryz.func26, Tryz.ntmps26
      go_wp2_with (first
        | (go_at_call 25; go_must (refine (HK.out _ B0.out).mono ?_; rintro e1 w1 ⟨rfl, b1⟩; have B1 := Lib.hid (B0.out.trans (b1.mono B0.out.size)); have P1 := Lib.hid (P0.out.keep b1); have Q1 := Lib.hid (Q0.out.keep b1); have g0 := P1.out.cell 0; have g1 := P1.out.cell 1; clear b1))
        | (go_at_call 51; go_must (refine (HL2.out _ B1.out).mono ?_; rintro e2 w2 ⟨rfl, b2⟩; have B2 := Lib.hid (B1.out.trans (b2.mono B1.out.size)); have P2 := Lib.hid (P1.out.keep b2); have Q2 := Lib.hid (Q1.out.keep b2); clear b2 g0 g1)))
      have S0 := Lib.hid (show w2.drew.cell? ⟨w.heap.size, 0, none⟩ = some (.slice A1 N.length c1) ∧ w2.drew.cell? ⟨w.heap.size, 1, none⟩ = some (.slice A2 R.length c2) ∧ Below w.heap.size w w2.drew ∧ w.heap.size < w2.drew.heap.size from ⟨P2.out.cell 0, P2.out.cell 1, B2.out.drew, P2.out.lt⟩)
      have q2 := Lib.hid (show RowAt w2.drew (w.heap.size + 1) 25 #[.slice none 0 0, .slice none 0 0] from Q2.out)
      have s2 := Lib.hid (show w.heap.size + 2 ≤ w2.drew.heap.size from Q2.out.lt)
      have HCX := Lib.hid (fun w' (h : w'.cell? ⟨w.heap.size, 0, none⟩ = some (.slice A1 N.length c1) ∧ w'.cell? ⟨w.heap.size, 1, none⟩ = some (.slice A2 R.length c2) ∧ Below w.heap.size w w' ∧ w.heap.size < w'.heap.size) => HCp2.out w' h.2.2.1)
      have HPX := Lib.hid (fun w' (h : w'.cell? ⟨w.heap.size, 0, none⟩ = some (.slice A1 N.length c1) ∧ w'.cell? ⟨w.heap.size, 1, none⟩ = some (.slice A2 R.length c2) ∧ Below w.heap.size w w' ∧ w.heap.size < w'.heap.size) => HP3.out w' h.2.2.1)
      refine wp_region_held_drew (S := fun w' => w'.cell? ⟨w.heap.size, 0, none⟩ = some (.slice A1 N.length c1) ∧ w'.cell? ⟨w.heap.size, 1, none⟩ = some (.slice A2 R.length c2) ∧ Below w.heap.size w w' ∧ w.heap.size < w'.heap.size) (by kernel_rfl) ?_ (fun hH => ?_)
      · exact S0.out
      refine wpAnyH_take (i := 0) (oi := { dst := some 30, op := Go.Op.fieldAddr 25 (Go.Operand.tmp 3) 0, type := 0, pos := "capture.go:108", after := #[], guard := none }) (v := ?_) rfl ?_ ?_ ?_ ?_ (Or.inl ⟨?_, ?_⟩) hH ?_
      rotate_left
      · kernel_rfl
      · kernel_rfl
      · kernel_rfl
      · exact fun _ _ _ h => h
      · kernel_rfl
      · intro wS hSw
        try dsimp only at hSw
        go_simp
        try with_reducible rfl
      try simp only [Act.put, List.setIfInBounds_toArray, List.set_cons_zero, List.set_cons_succ]
      refine wpAnyH_take (i := 1) (oi := { dst := some 31, op := Go.Op.load 22 (Go.Operand.tmp 30), type := 22, pos := "capture.go:108", after := #[{ on := 0, ground := Go.Ground.data }], guard := none }) (v := ?_) rfl ?_ ?_ ?_ ?_ (Or.inl ⟨?_, ?_⟩) hH ?_
      rotate_left
      · kernel_rfl
      · kernel_rfl
      · kernel_rfl
      · exact fun _ _ _ h => h
      · kernel_rfl
      · intro wS hSw
        try dsimp only at hSw
        go_simp
        try with_reducible rfl
      try simp only [Act.put, List.setIfInBounds_toArray, List.set_cons_zero, List.set_cons_succ]
      refine wpAnyH_take (i := 3) (oi := { dst := some 33, op := Go.Op.fieldAddr 25 (Go.Operand.tmp 3) 1, type := 0, pos := "capture.go:108", after := #[], guard := none }) (v := ?_) rfl ?_ ?_ ?_ ?_ (Or.inl ⟨?_, ?_⟩) hH ?_
      rotate_left
      · kernel_rfl
      · kernel_rfl
      · kernel_rfl
      · exact fun _ _ _ h => h
      · kernel_rfl
      · intro wS hSw
        try dsimp only at hSw
        go_simp
        try with_reducible rfl
      try simp only [Act.put, List.setIfInBounds_toArray, List.set_cons_zero, List.set_cons_succ]
      refine wpAnyH_take (i := 4) (oi := { dst := some 34, op := Go.Op.load 23 (Go.Operand.tmp 33), type := 23, pos := "capture.go:108", after := #[{ on := 3, ground := Go.Ground.data }], guard := none }) (v := ?_) rfl ?_ ?_ ?_ ?_ (Or.inl ⟨?_, ?_⟩) hH ?_
      rotate_left
      · kernel_rfl
      · kernel_rfl
      · kernel_rfl
      · exact fun _ _ _ h => h
      · kernel_rfl
      · intro wS hSw
        try dsimp only at hSw
        go_simp
        try with_reducible rfl
      try simp only [Act.put, List.setIfInBounds_toArray, List.set_cons_zero, List.set_cons_succ]
      refine wpAnyH_take (i := 5) (oi := { dst := some 35, op := Go.Op.move (Go.Operand.tmp 1), type := 3, pos := "capture.go:108", after := #[], guard := none }) (v := ?_) rfl ?_ ?_ ?_ ?_ (Or.inl ⟨?_, ?_⟩) hH ?_
      rotate_left
      · kernel_rfl
      · kernel_rfl
      · kernel_rfl
      · exact fun _ _ _ h => h
      · kernel_rfl
      · intro wS hSw
        try dsimp only at hSw
        go_simp
        try with_reducible rfl
      try simp only [Act.put, List.setIfInBounds_toArray, List.set_cons_zero, List.set_cons_succ]
      refine wpAnyH_take (i := 6) (oi := { dst := some 36, op := Go.Op.move (Go.Operand.tmp 2), type := 3, pos := "capture.go:108", after := #[], guard := none }) (v := ?_) rfl ?_ ?_ ?_ ?_ (Or.inl ⟨?_, ?_⟩) hH ?_
      rotate_left
      · kernel_rfl
      · kernel_rfl
      · kernel_rfl
      · exact fun _ _ _ h => h
      · kernel_rfl
      · intro wS hSw
        try dsimp only at hSw
        go_simp
        try with_reducible rfl
      try simp only [Act.put, List.setIfInBounds_toArray, List.set_cons_zero, List.set_cons_succ]
      refine wpAnyH_ready (rs := [2]) (by kernel_rfl) (by simp) ?_
      refine AllReadyH.cons (o := { dst := some 32, op := Go.Op.call { callee := Go.Callee.value (Go.Operand.func 52), args := #[Go.Operand.tmp 31], argTypes := #[22] }, type := 22, pos := "capture.go:108", after := #[{ on := 1, ground := Go.Ground.data }], guard := none }) rfl (fun K hK => ?_) AllReadyH.nil
      go_simp
      refine (HCX.out _ S0.out).mono ?_
      rintro e5 w5 ⟨v5, rfl, r5, b5⟩
      obtain ⟨NA, NN, NC, rfl, rfl⟩ := KRow.form r5
      try go_wp2_with fail
      have h5 := Lib.hid (heldP S0.out b5)
      have q5 := Lib.hid (q2.out.keep b5)
      have R5 := Lib.hid (KRow.mono r5 s2.out)
      have s5 := Lib.hid (Nat.le_trans s2.out b5.size)
      refine hK.out _ _ ?_ (fun hH1 => ?_)
      · exact h5.out
      clear hK K hH r5 b5
      try simp only [Act.put, List.setIfInBounds_toArray, List.set_cons_zero, List.set_cons_succ]
      refine wpAnyH_ready (rs := [7]) (by kernel_rfl) (by simp) ?_
      refine AllReadyH.cons (o := { dst := some 37, op := Go.Op.call { callee := Go.Callee.value (Go.Operand.func 53), args := #[Go.Operand.tmp 34, Go.Operand.tmp 35, Go.Operand.tmp 36], argTypes := #[23, 3, 3] }, type := 23, pos := "capture.go:108", after := #[{ on := 4, ground := Go.Ground.data }, { on := 5, ground := Go.Ground.data }, { on := 6, ground := Go.Ground.data }, { on := 2, ground := Go.Ground.chain }], guard := none }) rfl (fun K hK => ?_) AllReadyH.nil
      go_simp
      refine (HPX.out _ h5.out).mono ?_
      rintro e6 w6 ⟨v6, rfl, r6, b6⟩
      obtain ⟨RA, RN, RC, rfl, rfl⟩ := KRow.form r6
      try go_wp2_with fail
      have h6 := Lib.hid (heldP h5.out b6)
      have q6 := Lib.hid (q5.out.keep b6)
      have R5' := Lib.hid (KRow.keep R5.out b6)
      have R6 := Lib.hid (KRow.mono r6 s5.out)
      refine hK.out _ _ ?_ (fun hH2 => ?_)
      · exact h6.out
      clear hK K hH1 r6 b6
      try simp only [Act.put, List.setIfInBounds_toArray, List.set_cons_zero, List.set_cons_succ]
      refine wpAnyH_take (i := 8) (oi := { dst := some 38, op := Go.Op.build 25 #[(0, Go.Operand.tmp 32), (1, Go.Operand.tmp 37)], type := 25, pos := "capture.go:108", after := #[{ on := 2, ground := Go.Ground.data }, { on := 7, ground := Go.Ground.data }], guard := none }) (v := ?_) rfl ?_ ?_ ?_ ?_ (Or.inl ⟨?_, ?_⟩) hH2 ?_
      rotate_left
      · kernel_rfl
      · kernel_rfl
      · kernel_rfl
      · exact fun _ _ _ h => h
      · kernel_rfl
      · intro wS hSw
        try dsimp only at hSw
        go_simp
        try with_reducible rfl
      try simp only [Act.put, List.setIfInBounds_toArray, List.set_cons_zero, List.set_cons_succ]
      refine wpAnyH_ready (rs := [9]) (by kernel_rfl) (by simp) ?_
      refine AllReadyH.cons (o := { dst := none, op := Go.Op.store 25 (Go.Operand.tmp 6) (Go.Operand.tmp 38), type := 0, pos := "capture.go:108", after := #[{ on := 8, ground := Go.Ground.data }, { on := 7, ground := Go.Ground.chain }, { on := 0, ground := Go.Ground.phase }, { on := 1, ground := Go.Ground.phase }, { on := 2, ground := Go.Ground.phase }, { on := 3, ground := Go.Ground.phase }, { on := 4, ground := Go.Ground.phase }, { on := 5, ground := Go.Ground.phase }, { on := 6, ground := Go.Ground.phase }, { on := 7, ground := Go.Ground.phase }, { on := 8, ground := Go.Ground.phase }], guard := none }) rfl (fun K hK => ?_) AllReadyH.nil
      refine step_store_at2 q6.out #[.slice NA N.length NC, .slice RA (prt R F T).length RC] (.tmp 6) (.tmp 38) 25 rfl rfl rfl rfl (by kernel_rfl) rfl rfl ?_
      intro w8 r8 b8 k8
      have h8 := Lib.hid (heldQ h6.out k8 b8)
      refine hK.out _ _ ?_ (fun hH3 => ?_)
      · exact h8.out
      have X8 := Lib.hid r8
      have N8 := Lib.hid (KRow.others R5'.out k8 (Nat.lt_succ_self _))
      have P8 := Lib.hid (KRow.others R6.out k8 (Nat.lt_succ_self _))
      clear hK K hH2 r8 b8 k8
      try simp only [Act.put, List.setIfInBounds_toArray, List.set_cons_zero, List.set_cons_succ]
      refine wpAnyH_take (i := 10) (oi := { dst := some 7, op := Go.Op.assign (Go.Operand.const (Go.Value.int Go.IntKind.i64 0)), type := 28, pos := "capture.go:108", after := #[{ on := 9, ground := Go.Ground.chain }, { on := 0, ground := Go.Ground.phase }, { on := 1, ground := Go.Ground.phase }, { on := 2, ground := Go.Ground.phase }, { on := 3, ground := Go.Ground.phase }, { on := 4, ground := Go.Ground.phase }, { on := 5, ground := Go.Ground.phase }, { on := 6, ground := Go.Ground.phase }, { on := 7, ground := Go.Ground.phase }, { on := 8, ground := Go.Ground.phase }, { on := 9, ground := Go.Ground.phase }], guard := none }) (v := ?_) rfl ?_ ?_ ?_ ?_ (Or.inl ⟨?_, ?_⟩) hH3 ?_
      rotate_left
      · kernel_rfl
      · kernel_rfl
      · kernel_rfl
      · exact fun _ _ _ h => h
      · kernel_rfl
      · intro wS hSw
        try dsimp only at hSw
        go_simp
        try with_reducible rfl
      try simp only [Act.put, List.setIfInBounds_toArray, List.set_cons_zero, List.set_cons_succ]
      refine wpAnyH_done (by kernel_rfl) ?_ _
      have e0 : w8.cell? ⟨w.heap.size + 1, 0, none⟩ = some (.slice NA N.length NC) := X8.out.cell 0
      have e1 : w8.cell? ⟨w.heap.size + 1, 1, none⟩ = some (.slice RA (prt R F T).length RC) := X8.out.cell 1
      go_wp2
      refine bodyPost_ret (v := .tuple #[.agg #[.slice NA N.length NC, .slice RA (prt R F T).length RC], .int .i64 0]) (by simp [results, Tryz.results26, go_sem, e0, e1]) rfl ⟨_, _, by rw [HE.out], by rw [HS1.out]; exact N8.out.mono (Nat.le_trans (Nat.le_succ _) (Nat.le_succ _)), by rw [HS2.out]; exact P8.out.mono (Nat.le_trans (Nat.le_succ _) (Nat.le_succ _)), h8.out.2.2.1⟩
  · have he := slE_n (f := F) (t := T) hz
    have hs := slN_n (N := N) (R := R) (f := F) (t := T) (by rw [he]; exact hz)
    have HE := Lib.hid he; have HS1 := Lib.hid hs.1; have HS2 := Lib.hid hs.2
    have hz' : (ckC N R == 0) = false := by simpa using hz
    clear hz he hs HL HP HCp
    generalize ckC N R = r at *
    go_enter Tryz.func26, Tryz.ntmps26
    go_wp2_with (first
      | (go_at_call 25; go_must (refine (HK.out _ B0.out).mono ?_; rintro e1 w1 ⟨rfl, b1⟩; have B1 := Lib.hid (B0.out.trans (b1.mono B0.out.size)); have Q1 := Lib.hid (Q0.out.keep b1); have k0 := Q1.out.cell 0; have k1 := Q1.out.cell 1; have z0 := Q1.out.frozen 0; have z1 := Q1.out.frozen 1; clear b1)))
    have e0 : ((w1.setCell ⟨w.heap.size + 1, 0, none⟩ (.slice none 0 0)).setCell ⟨w.heap.size + 1, 1, none⟩ (.slice none 0 0)).cell? ⟨w.heap.size + 1, 0, none⟩ = some (.slice none 0 0) := (two_set k0 k1).1
    have e1 : ((w1.setCell ⟨w.heap.size + 1, 0, none⟩ (.slice none 0 0)).setCell ⟨w.heap.size + 1, 1, none⟩ (.slice none 0 0)).cell? ⟨w.heap.size + 1, 1, none⟩ = some (.slice none 0 0) := (two_set k0 k1).2
    refine bodyPost_ret (v := .tuple #[.agg #[.slice none 0 0, .slice none 0 0], .int .i64 r]) (by simp [results, Tryz.results26, go_sem, e0, e1]) rfl ⟨_, _, by rw [HE.out], by rw [HS1.out]; exact KRow.nil _ _, by rw [HS2.out]; exact KRow.nil _ _, Below.setCell (Below.setCell B1.out (Nat.le_succ _) _) (Nat.le_succ _) _⟩

end Si
end Go.Proofs.YtillcmddbjhepaaGreatDoor
