/-
  Channel (both).
-/
import Derived.Test.YtillcmddbjhepaaW8
import Derived.Deep.RegionHeld3
namespace Go.Proofs.Ytillcmddbjhepaa
open Go Go.RowKit Go.Joins
set_option linter.unusedVariables false
set_option linter.unusedSimpArgs false

def chR (N : List ByteArray) (R : List Rn) (s : ByteArray) : List Rn × Int := if ckC N R ≠ 0 then ([], ckC N R) else if ix N s < 0 then ([], 8) else (chn R (ix N s).toNat, 0)
theorem chR_n {N : List ByteArray} {R : List Rn} {s : ByteArray} (h : ¬ ckC N R = 0) : chR N R s = ([], ckC N R) := by unfold chR; rw [if_pos h]
theorem chR_8 {N : List ByteArray} {R : List Rn} {s : ByteArray} (h : ckC N R = 0) (h1 : ix N s < 0) : chR N R s = ([], 8) := by unfold chR; rw [if_neg (fun x => x h), if_pos h1]
theorem chR_0 {N : List ByteArray} {R : List Rn} {s : ByteArray} (h : ckC N R = 0) (h1 : ¬ ix N s < 0) : chR N R s = (chn R (ix N s).toNat, 0) := by unfold chR; rw [if_neg (fun x => x h), if_neg h1]
theorem ix_range (l : List ByteArray) (s : ByteArray) : ix l s = -1 ∨ (0 ≤ ix l s ∧ ix l s < l.length) := by
  have := ixF_range l s 0
  unfold ix
  omega
/-- Two cells of a block, behind what only makes memory. -/
theorem held2 {w W W' : World} {b : Nat} {x0 x1 : Value} (h : W.cell? ⟨b, 0, none⟩ = some x0 ∧ W.cell? ⟨b, 1, none⟩ = some x1 ∧ Below w.heap.size w W ∧ b < W.heap.size) (hb : Below W.heap.size W W') : W'.cell? ⟨b, 0, none⟩ = some x0 ∧ W'.cell? ⟨b, 1, none⟩ = some x1 ∧ Below w.heap.size w W' ∧ b < W'.heap.size := by
  obtain ⟨h0, h1, h2, h3⟩ := h
  have := hb.size
  exact ⟨(hb.cell (p := ⟨b, 0, none⟩) h3).trans h0, (hb.cell (p := ⟨b, 1, none⟩) h3).trans h1, h2.trans (hb.mono h2.size), by omega⟩
/-- The same, behind what changes one other block besides. -/
theorem held2k {w W W' : World} {b : Nat} {v : Value} {x0 x1 : Value} (h : W.cell? ⟨b, 0, none⟩ = some x0 ∧ W.cell? ⟨b, 1, none⟩ = some x1 ∧ Below w.heap.size w W ∧ b < W.heap.size) (hb : Below w.heap.size W W') (hk : ∀ k, k < W.heap.size → some k ≠ v.ownBlock → W'.heap[k]? = W.heap[k]?) (hv : some b ≠ v.ownBlock) : W'.cell? ⟨b, 0, none⟩ = some x0 ∧ W'.cell? ⟨b, 1, none⟩ = some x1 ∧ Below w.heap.size w W' ∧ b < W'.heap.size := by
  obtain ⟨h0, h1, h2, h3⟩ := h
  have := hb.size
  exact ⟨(kept_at hk ⟨b, 0, none⟩ h3 hv).trans h0, (kept_at hk ⟨b, 1, none⟩ h3 hv).trans h1, h2.trans hb, by omega⟩

end Go.Proofs.Ytillcmddbjhepaa
