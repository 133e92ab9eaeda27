/-
  The chapter's example.
-/
import Derived.Test.YtillcmddbjhepaaW17
import Derived.Test.YtillcmddbjhepaaW7
namespace Go.Proofs.Ytillcmddbjhepaa
open Go Go.RowKit Go.Joins
set_option linter.unusedVariables false
set_option linter.unusedSimpArgs false

def exN : List ByteArray := [⟨#[97]⟩, ⟨#[98]⟩]
def exW0 : List Rn := [(1, 3), (0, 2)]
def exW1 : List Rn := [(0, 1), (1, 4)]
def exW : List (List Rn) := [exW0, exW1]
def exR : List Rn := [(1, 1), (3, 2), (2, 2)]
theorem ex_ck : ckN exN = 0 := by decide +kernel
theorem ex_bd : bdE exN exW = 0 := by decide +kernel
theorem ex_ckC : ckC exN exR = 0 := by decide +kernel
theorem ex_sz : szs exN := by
  intro s hs
  simp only [exN, List.mem_cons, List.mem_nil_iff, or_false] at hs
  rcases hs with rfl | rfl <;> decide +kernel
theorem ex_sl : sl2 exW ≤ 262144 := by decide +kernel
theorem ex_lg : lg (exW.getD 0 []) = 5 := by decide +kernel
theorem ex_cb : Cb exW 5 exR := by
  refine ⟨?_, ?_, by decide +kernel, fun k h0 h1 => ?_⟩
  · intro i h
    have : i + 1 < 3 := h
    have : i < 2 := by omega
    match i, this with
    | 0, _ => exact (by decide +kernel : (1 : Int) ≠ 3)
    | 1, _ => exact (by decide +kernel : (3 : Int) ≠ 2)
  · intro r hr
    simp only [exR, List.mem_cons, List.mem_nil_iff, or_false] at hr
    rcases hr with rfl | rfl | rfl <;> decide +kernel
  · have : k = 0 ∨ k = 1 ∨ k = 2 ∨ k = 3 ∨ k = 4 := by omega
    rcases this with rfl | rfl | rfl | rfl | rfl <;> decide +kernel
theorem ex_waves (w : World) (g0 g1 g2 : Nat) (h0 : g0 < w.heap.size) (h1 : g1 < w.heap.size) (h2 : g2 < w.heap.size)
    (c0 : ∀ j (hj : j < exW0.length) i, i < 2 → w.cell? ⟨g0, 0 + j * 2 + i, none⟩ = (rnC exW0[j])[i]?)
    (c1 : ∀ j (hj : j < exW1.length) i, i < 2 → w.cell? ⟨g1, 0 + j * 2 + i, none⟩ = (rnC exW1[j])[i]?)
    (c2 : w.cell? ⟨g2, 0, none⟩ = some (.slice (some ⟨g0, 0, none⟩) 2 2)) (c3 : w.cell? ⟨g2, 1, none⟩ = some (.slice (some ⟨g1, 0, none⟩) 2 2)) : WvArg w (.slice (some ⟨g2, 0, none⟩) 2 2) exW := by
  refine ⟨[(some ⟨g0, 0, none⟩, 2, 2), (some ⟨g1, 0, none⟩, 2, 2)], ⟨some ⟨g2, 0, none⟩, 2, rfl, fun _ => ⟨g2, 0, rfl, h2, fun j hj i hi => ?_⟩⟩, rfl, fun i h h' => ?_⟩
  · obtain rfl : i = 0 := by omega
    have : j < 2 := hj
    match j, this with
    | 0, _ => exact c2
    | 1, _ => exact c3
  · have : i < 2 := h
    match i, this with
    | 0, _ => exact ⟨some ⟨g0, 0, none⟩, 2, rfl, fun _ => ⟨g0, 0, rfl, h0, c0⟩⟩
    | 1, _ => exact ⟨some ⟨g1, 0, none⟩, 2, rfl, fun _ => ⟨g1, 0, rfl, h1, c1⟩⟩


theorem ex_build (w : World) : Calls Try.prog 10 #[.slice (some ⟨w.heap.size, 0, none⟩) 2 2, .slice (some ⟨w.heap.size + 1 + 1 + 1, 0, none⟩) 2 2]
    ((((w.alloc (.cells #[.string ⟨#[97]⟩, .string ⟨#[98]⟩] 9)).alloc (.cells #[.int .i64 1, .int .i64 3, .int .i64 0, .int .i64 2] 41)).alloc (.cells #[.int .i64 0, .int .i64 1, .int .i64 1, .int .i64 4] 41)).alloc
      (.cells #[.slice (some ⟨w.heap.size + 1, 0, none⟩) 2 2, .slice (some ⟨w.heap.size + 1 + 1, 0, none⟩) 2 2] 23))
    fun e w' => ∃ (g1 c1 g2 c2 : Nat), e = .returned (.tuple #[.agg #[.slice (some ⟨g1, 0, none⟩) 2 c1, .slice (some ⟨g2, 0, none⟩) 3 c2], .int .i64 0]) ∧
      w'.cell? ⟨g1, 1, none⟩ = some (.string ⟨#[98]⟩) ∧ w'.cell? ⟨g2, 2, none⟩ = some (.int .i64 3) ∧ w'.cell? ⟨g2, 3, none⟩ = some (.int .i64 2) ∧ g1 < w'.heap.size ∧ g2 < w'.heap.size ∧
      NmArg w' (.slice (some ⟨g1, 0, none⟩) 2 c1) exN ∧ RnArg w' (.slice (some ⟨g2, 0, none⟩) 3 c2) exR ∧ Below w.heap.size w w' := by
  generalize hA : (Obj.cells #[.string ⟨#[97]⟩, .string ⟨#[98]⟩] 9) = A
  have bA := ba w A
  have sA : (w.alloc A).heap.size = w.heap.size + 1 := by rw [World.size_alloc]
  have rN : NmRow (w.alloc A) w.heap.size (.slice (some ⟨w.heap.size, 0, none⟩) 2 2) exN := by rw [← hA]; exact KRow.lit nmC_size w w.heap.size (Nat.le_refl _) exN _ rfl 2 rfl (by decide)
  have nN := rN.name
  generalize w.alloc A = w1 at *
  generalize hB : (Obj.cells #[.int .i64 1, .int .i64 3, .int .i64 0, .int .i64 2] 41) = B
  have bB := ba w1 B
  have sB : (w1.alloc B).heap.size = w.heap.size + 1 + 1 := by rw [← sA, World.size_alloc]
  have r0 : RnRow (w1.alloc B) w1.heap.size (.slice (some ⟨w.heap.size + 1, 0, none⟩) 2 2) exW0 := by rw [← hB, ← sA]; exact KRow.lit rnC_size w1 w1.heap.size (Nat.le_refl _) exW0 _ rfl 2 rfl (by decide)
  generalize w1.alloc B = w2 at *
  generalize hC : (Obj.cells #[.int .i64 0, .int .i64 1, .int .i64 1, .int .i64 4] 41) = C
  have bC := ba w2 C
  have sC : (w2.alloc C).heap.size = w.heap.size + 1 + 1 + 1 := by rw [← sB, World.size_alloc]
  have r1 : RnRow (w2.alloc C) w2.heap.size (.slice (some ⟨w.heap.size + 1 + 1, 0, none⟩) 2 2) exW1 := by rw [← hC, ← sB]; exact KRow.lit rnC_size w2 w2.heap.size (Nat.le_refl _) exW1 _ rfl 2 rfl (by decide)
  generalize w2.alloc C = w3 at *
  generalize hD : (Obj.cells #[.slice (some ⟨w.heap.size + 1, 0, none⟩) 2 2, .slice (some ⟨w.heap.size + 1 + 1, 0, none⟩) 2 2] 23) = D
  have bD := ba w3 D
  have sD : (w3.alloc D).heap.size = w3.heap.size + 1 := by rw [World.size_alloc]
  have cD : (w3.alloc D).cell? ⟨w.heap.size + 1 + 1 + 1, 0, none⟩ = some (.slice (some ⟨w.heap.size + 1, 0, none⟩) 2 2) ∧ (w3.alloc D).cell? ⟨w.heap.size + 1 + 1 + 1, 1, none⟩ = some (.slice (some ⟨w.heap.size + 1 + 1, 0, none⟩) 2 2) := by
    rw [← hD, ← sC]
    have := RowAt.new w3 23 #[.slice (some ⟨w.heap.size + 1, 0, none⟩) 2 2, .slice (some ⟨w.heap.size + 1 + 1, 0, none⟩) 2 2]
    exact ⟨this.cell 0, this.cell 1⟩
  generalize w3.alloc D = w4 at *
  have b34 : Below w3.heap.size w3 w4 := bD
  have b24 : Below w2.heap.size w2 w4 := bC.trans (bD.mono bC.size)
  have b14 : Below w1.heap.size w1 w4 := bB.trans (b24.mono bB.size)
  have b04 : Below w.heap.size w w4 := bA.trans (b14.mono bA.size)
  have q0 : RnArg w4 _ exW0 := (KRow.arg rnC_size r0).keep b24
  have q1 : RnArg w4 _ exW1 := (KRow.arg rnC_size r1).keep b34
  have hW : WvArg w4 (.slice (some ⟨w.heap.size + 1 + 1 + 1, 0, none⟩) 2 2) exW := by
    refine ⟨[(some ⟨w.heap.size + 1, 0, none⟩, 2, 2), (some ⟨w.heap.size + 1 + 1, 0, none⟩, 2, 2)], ⟨some ⟨w.heap.size + 1 + 1 + 1, 0, none⟩, 2, rfl, fun _ => ⟨w.heap.size + 1 + 1 + 1, 0, rfl, by omega, fun j hj i hi => ?_⟩⟩, rfl, fun i h h' => ?_⟩
    · obtain rfl : i = 0 := by omega
      have : j < 2 := hj
      match j, this with
      | 0, _ => exact cD.1
      | 1, _ => exact cD.2
    · have : i < 2 := h
      match i, this with
      | 0, _ => exact q0
      | 1, _ => exact q1
  refine (build_any exN exW _ _ w4 (nN.keep b14) ex_sz hW (fun _ _ => ex_sl)).mono fun e w' ⟨v1, v2, N', out, he, hb, hbe⟩ => ?_
  rw [ex_bd] at he
  obtain ⟨z1, z2, z3, _, _⟩ := hb
  obtain ⟨rfl, z4⟩ := z3 ex_bd
  rw [ex_lg] at z4
  obtain rfl := Cb_unique z4 ex_cb
  obtain ⟨g1, c1, e1⟩ := z1.full (by decide)
  obtain ⟨g2, c2, e2⟩ := z2.full (by decide)
  subst e1 e2
  refine ⟨g1, c1, g2, c2, he, z1.cell nmC_size 1 (by decide) 0 (by decide), z2.cell rnC_size 1 (by decide) 0 (by decide), z2.cell rnC_size 1 (by decide) 1 (by decide), (z1.lt g1 rfl).2, (z2.lt g2 rfl).2, z1.name, KRow.arg rnC_size z2, b04.trans (hbe.mono b04.size)⟩
theorem ex_at : atC exN exR 2 = (3, true) := by decide +kernel
theorem ex_lgC : lgC exN exR = 5 := by decide +kernel

end Go.Proofs.Ytillcmddbjhepaa
