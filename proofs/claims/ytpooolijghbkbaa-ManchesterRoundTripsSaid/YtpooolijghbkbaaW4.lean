/-
  Layer 17: what 'found' finds.
-/
import Derived.Test.YtpooolijghbkbaaR2
import Derived.Test.YtpooolijghbkbaaZ26
namespace Go.Proofs.Ytpooolijghbkbaa
open Go Go.RowKit Go.Joins
open Sw (Rn RnRow RnArg rnC lg)
set_option linter.unusedVariables false
set_option linter.unusedSimpArgs false

set_option maxRecDepth 20000 in
set_option maxHeartbeats 4000000 in
theorem found_none (m : List Ev) (a : Nat) (g v x : Int) (d : ByteArray) (V : Value) (w : World) (hT : EvArg w V m) (hl : (m.length : Int) ≤ 140737488351232) (hd : (d.size : Int) ≤ 140737488351232) (han : a + d.size ≤ m.length)
    (H1 : ∀ i (hi : i < d.size) (hm : a + i < m.length), m[a + i].k = 2 ∧ m[a + i].v = (d[i].toNat : Int) - 48 ∧ m[a + i].u = 0 ∧ m[a + i].f < m[a + i].t) :
    Calls Try.prog 50 #[V, .int .i64 a, .agg (itA g v x d 0)] w fun e w' => e = .returned (.int .i64 d.size) ∧ Below w.heap.size w w' := by
  have HH := Lib.hid H1
  obtain ⟨A, c, rfl, hA⟩ := hT
  have HA := Lib.hid hA
  obtain ⟨W, b, eW, eb, lb, r5, B0⟩ : ∃ W b, W = w.alloc (.cells (itA g v x d 0) 32) ∧ b = w.heap.size ∧ b < W.heap.size ∧ RowAt W b 32 (itA g v x d 0) ∧ Below w.heap.size w W := ⟨_, _, rfl, rfl, by rw [World.size_alloc]; omega, RowAt.new w _ _, ba w _⟩
  have i2 : W.cell? ⟨b, 2, none⟩ = some (.int .i64 x) := r5.cell 2
  have i3 : W.cell? ⟨b, 3, none⟩ = some (.string d) := r5.cell 3
  have i4 : W.cell? ⟨b, 4, none⟩ = some (.int .i64 0) := r5.cell 4
  have HI := Lib.hid (And.intro i3 i4)
  have HB0 := Lib.hid B0
  clear hA H1 r5 B0
  go_enter Try.func50, Try.ntmps50
  go_wp2
  rw [← eW, ← eb]
  clear eW eb i2 i3 i4
  go_loopw [8] (fun i wr => ∃ (k : Nat), k ≤ d.size ∧ i = .int .i64 k ∧ Hid (Below W.heap.size W wr)) (fun i _ => d.size - (intOf i).toNat)
  case atStart => exact ⟨0, Nat.zero_le _, rfl, Lib.hid (Below.refl _ _)⟩
  case round =>
    obtain ⟨k, hk, rfl, HW⟩ := hrel
    have hb := HW.out
    have hw0 : Below w.heap.size w wr := HB0.out.trans (hb.mono HB0.out.size)
    have i3 := (hb.cell (p := ⟨b, 3, none⟩) lb).trans HI.out.1
    have i4 := (hb.cell (p := ⟨b, 4, none⟩) lb).trans HI.out.2
    by_cases hkn : k < d.size
    · have hkd : k < d.size := by omega
      obtain ⟨g', o, rfl, hg', hc⟩ := HA.out (by omega)
      obtain ⟨q, hq⟩ : ∃ q, q = a + k := ⟨_, rfl⟩
      have hqm : q < m.length := by omega
      obtain ⟨a0, a1, a2, a3, a4, a5, a6⟩ := arg_seven hc q hqm
      obtain ⟨e0, e1, e2, e3⟩ := HH.out k hkd (by omega)
      simp only [← hq] at e0 e1 e2 e3
      have f0 := (hw0.cell (p := ⟨g', o + q * 7, none⟩) hg').trans a0
      have f1 := (hw0.cell (p := ⟨g', o + q * 7 + 1, none⟩) hg').trans a1
      have f2 := (hw0.cell (p := ⟨g', o + q * 7 + 2, none⟩) hg').trans a2
      have f3 := (hw0.cell (p := ⟨g', o + q * 7 + 3, none⟩) hg').trans a3
      have f6 := (hw0.cell (p := ⟨g', o + q * 7 + 6, none⟩) hg').trans a6
      rw [e0] at f0; rw [e1] at f3; rw [e2] at f6
      clear a0 a1 a2 a3 a4 a5 a6 hc e0 e1 e2
      generalize m[q].f = y1 at *
      generalize m[q].t = y2 at *
      have hw : IntKind.i64.wrap ((a : Int) + k) = (q : Int) := by rw [IntWalk.i64_in _ (by omega)]; omega
      have hw1 : decide ((m.length : Int) ≤ q) = false := decide_eq_false (by omega)
      have hw1n : decide (m.length ≤ q) = false := decide_eq_false (by omega)
      have hw1m : ¬ m.length ≤ q := by omega
      have hw2 : (0 : Int) ≤ q := by omega
      have hw3 : (q : Int) < m.length := by omega
      have hw4 : decide (y2 ≤ y1) = false := decide_eq_false (by omega)
      have hb1 := UInt8.toNat_lt d[k]
      have hw5 : IntKind.i64.wrap ((d[k].toNat : Int) - 48) = (d[k].toNat : Int) - 48 := IntWalk.i64_in _ (by omega)
      have hw6 : IntKind.i64.wrap (d[k].toNat : Int) = (d[k].toNat : Int) := IntWalk.i64_in _ (by omega)
      have B1 := Lib.hid hb.drew
      clear hq
      go_wp2
      go_region
      go_wp2
      go_roundw
      case rel => exact ⟨k + 1, by omega, val_int (by omega), B1⟩
      case measure => simp [intOf]; omega
    · obtain rfl : k = d.size := by omega
      go_wp2
      go_returns
      exact ⟨rfl, hw0⟩

set_option maxRecDepth 20000 in
set_option maxHeartbeats 4000000 in
theorem found_code (m : List Ev) (a : Nat) (g v : Int) (n : Nat) (d : ByteArray) (V : Value) (w : World) (hT : EvArg w V m) (hl : (m.length : Int) ≤ 140737488351232) (hd : (d.size : Int) ≤ 140737488351232) (hnd : n ≤ d.size) (han : a + n < m.length)
    (H1 : ∀ i (hi : i < d.size) (hm : a + i < m.length), i < n → m[a + i].k = 2 ∧ m[a + i].v = (d[i].toNat : Int) - 48 ∧ m[a + i].u = 0 ∧ m[a + i].f < m[a + i].t)
    (H2 : ∀ h : a + n < m.length, m[a + n].k = 2 ∧ m[a + n].v = 0 ∧ m[a + n].u = 5) :
    Calls Try.prog 50 #[V, .int .i64 a, .agg (itA g v n d 5)] w fun e w' => e = .returned (.int .i64 ((n + 1 : Nat) : Int)) ∧ Below w.heap.size w w' := by
  have HH := Lib.hid H1
  have HL := Lib.hid H2
  clear H2
  have hnd' : (n : Int) ≤ d.size := by omega
  obtain ⟨A, c, rfl, hA⟩ := hT
  have HA := Lib.hid hA
  obtain ⟨W, b, eW, eb, lb, r5, B0⟩ : ∃ W b, W = w.alloc (.cells (itA g v n d 5) 32) ∧ b = w.heap.size ∧ b < W.heap.size ∧ RowAt W b 32 (itA g v n d 5) ∧ Below w.heap.size w W := ⟨_, _, rfl, rfl, by rw [World.size_alloc]; omega, RowAt.new w _ _, ba w _⟩
  have i2 : W.cell? ⟨b, 2, none⟩ = some (.int .i64 n) := r5.cell 2
  have i3 : W.cell? ⟨b, 3, none⟩ = some (.string d) := r5.cell 3
  have i4 : W.cell? ⟨b, 4, none⟩ = some (.int .i64 5) := r5.cell 4
  have HI := Lib.hid (And.intro i3 i4)
  have HB0 := Lib.hid B0
  clear hA H1 r5 B0
  go_enter Try.func50, Try.ntmps50
  go_wp2
  rw [← eW, ← eb]
  clear eW eb i2 i3 i4
  go_loopw [8] (fun i wr => ∃ (k : Nat), k ≤ n ∧ i = .int .i64 k ∧ Hid (Below W.heap.size W wr)) (fun i _ => n - (intOf i).toNat)
  case atStart => exact ⟨0, Nat.zero_le _, rfl, Lib.hid (Below.refl _ _)⟩
  case round =>
    obtain ⟨k, hk, rfl, HW⟩ := hrel
    have hb := HW.out
    have hw0 : Below w.heap.size w wr := HB0.out.trans (hb.mono HB0.out.size)
    have i3 := (hb.cell (p := ⟨b, 3, none⟩) lb).trans HI.out.1
    have i4 := (hb.cell (p := ⟨b, 4, none⟩) lb).trans HI.out.2
    by_cases hkn : k < n
    · have hkd : k < d.size := by omega
      obtain ⟨g', o, rfl, hg', hc⟩ := HA.out (by omega)
      obtain ⟨q, hq⟩ : ∃ q, q = a + k := ⟨_, rfl⟩
      have hqm : q < m.length := by omega
      obtain ⟨a0, a1, a2, a3, a4, a5, a6⟩ := arg_seven hc q hqm
      obtain ⟨e0, e1, e2, e3⟩ := HH.out k hkd (by omega) hkn
      simp only [← hq] at e0 e1 e2 e3
      have f0 := (hw0.cell (p := ⟨g', o + q * 7, none⟩) hg').trans a0
      have f1 := (hw0.cell (p := ⟨g', o + q * 7 + 1, none⟩) hg').trans a1
      have f2 := (hw0.cell (p := ⟨g', o + q * 7 + 2, none⟩) hg').trans a2
      have f3 := (hw0.cell (p := ⟨g', o + q * 7 + 3, none⟩) hg').trans a3
      have f6 := (hw0.cell (p := ⟨g', o + q * 7 + 6, none⟩) hg').trans a6
      rw [e0] at f0; rw [e1] at f3; rw [e2] at f6
      clear a0 a1 a2 a3 a4 a5 a6 hc e0 e1 e2
      generalize m[q].f = y1 at *
      generalize m[q].t = y2 at *
      have hw : IntKind.i64.wrap ((a : Int) + k) = (q : Int) := by rw [IntWalk.i64_in _ (by omega)]; omega
      have hw1 : decide ((m.length : Int) ≤ q) = false := decide_eq_false (by omega)
      have hw1n : decide (m.length ≤ q) = false := decide_eq_false (by omega)
      have hw1m : ¬ m.length ≤ q := by omega
      have hw2 : (0 : Int) ≤ q := by omega
      have hw3 : (q : Int) < m.length := by omega
      have hw4 : decide (y2 ≤ y1) = false := decide_eq_false (by omega)
      have hb1 := UInt8.toNat_lt d[k]
      have hw5 : IntKind.i64.wrap ((d[k].toNat : Int) - 48) = (d[k].toNat : Int) - 48 := IntWalk.i64_in _ (by omega)
      have hw6 : IntKind.i64.wrap (d[k].toNat : Int) = (d[k].toNat : Int) := IntWalk.i64_in _ (by omega)
      have B1 := Lib.hid hb.drew
      clear hq
      go_wp2
      go_region
      go_wp2
      go_roundw
      case rel => exact ⟨k + 1, by omega, val_int (by omega), B1⟩
      case measure => simp [intOf]; omega
    · obtain rfl : k = n := by omega
      obtain ⟨g', o, rfl, hg', hc⟩ := HA.out (by omega)
      obtain ⟨q, hq⟩ : ∃ q, q = a + k := ⟨_, rfl⟩
      have hqm : q < m.length := by omega
      obtain ⟨a0, a1, a2, a3, a4, a5, a6⟩ := arg_seven hc q hqm
      obtain ⟨e0, e1, e2⟩ := HL.out (by omega)
      simp only [← hq] at e0 e1 e2
      have f0 := (hw0.cell (p := ⟨g', o + q * 7, none⟩) hg').trans a0
      have f1 := (hw0.cell (p := ⟨g', o + q * 7 + 1, none⟩) hg').trans a1
      have f2 := (hw0.cell (p := ⟨g', o + q * 7 + 2, none⟩) hg').trans a2
      have f3 := (hw0.cell (p := ⟨g', o + q * 7 + 3, none⟩) hg').trans a3
      have f6 := (hw0.cell (p := ⟨g', o + q * 7 + 6, none⟩) hg').trans a6
      rw [e0] at f0; rw [e1] at f3; rw [e2] at f6
      clear a0 a1 a2 a3 a4 a5 a6 hc e0 e1 e2
      have hw : IntKind.i64.wrap ((a : Int) + k) = (q : Int) := by rw [IntWalk.i64_in _ (by omega)]; omega
      have hw1 : decide ((m.length : Int) ≤ q) = false := decide_eq_false (by omega)
      have hw1n : decide (m.length ≤ q) = false := decide_eq_false (by omega)
      have hw1m : ¬ m.length ≤ q := by omega
      have hw2 : (0 : Int) ≤ q := by omega
      have hw3 : (q : Int) < m.length := by omega
      clear hq
      go_wp2
      go_returns
      exact ⟨ret_int (by omega), hw0⟩

end Go.Proofs.Ytpooolijghbkbaa
