/-
  The chapter's examples: the walk of awake.
-/
import Derived.Test.YtiimdkamgehioaaDoorA13
import Derived.Test.YtiimdkamgehioaaDoorA14
import Derived.Test.YtiimdkamgehioaaDoorA15
namespace Go.Proofs.YtiimdkamgehioaaDoor
open Go Go.RowKit Go.Joins
set_option linter.unusedVariables false
set_option linter.unusedSimpArgs false

def ev0 : Ev := ⟨3, 10, 20, 65, 0, [], 0⟩
def ev1 : Ev := ⟨3, 15, 25, 65, 0, [], 0⟩
theorem itoa_of (l : List UInt8) (v : Int) (h : n7 l = some v) (h1 : -9007199254740992 ≤ v) (h2 : v ≤ 9007199254740992) : Lib.itoa v = l := n7_back l v h h1 h2
theorem line0 : ln7 ev0 = [98, 121, 116, 101, 32, 49, 48, 32, 50, 48, 32, 54, 53, 32, 48, 32, 48, 32, 34, 34] := by
  unfold ln7 ev0
  simp only
  rw [itoa_of [49, 48] 10 (by decide) (by omega) (by omega), itoa_of [50, 48] 20 (by decide) (by omega) (by omega), itoa_of [54, 53] 65 (by decide) (by omega) (by omega), itoa_of [48] 0 (by decide) (by omega) (by omega)]
  rfl
theorem valid0 : vE ev0 = true := by decide
theorem lnV0 : lnV ev0 = .tuple #[.string ⟨#[98, 121, 116, 101, 32, 49, 48, 32, 50, 48, 32, 54, 53, 32, 48, 32, 48, 32, 34, 34]⟩, .int .i64 0] := by
  unfold lnV
  rw [valid0, line0]
  rfl
theorem prV0 : prV [98, 121, 116, 101, 32, 49, 48, 32, 50, 48, 32, 54, 53, 32, 48, 32, 48, 32, 34, 34] = .tuple #[.agg (evA 3 10 20 65 0 ⟨#[]⟩ 0), .int .i64 0] := by
  have h : p7 [98, 121, 116, 101, 32, 49, 48, 32, 50, 48, 32, 54, 53, 32, 48, 32, 48, 32, 34, 34] = some ev0 := by rw [← line0]; exact p7_ln ev0 valid0
  unfold prV
  rw [h]
  simp only
  rw [valid0]
  rfl
theorem prV1 : prV [98, 105, 116, 32, 48, 32, 49, 32, 48, 49, 32, 48, 32, 48, 32, 34, 34] = .tuple #[.agg (evA 0 0 0 0 0 ⟨#[]⟩ 0), .int .i64 4] := by
  have h : p7 [98, 105, 116, 32, 48, 32, 49, 32, 48, 49, 32, 48, 32, 48, 32, 34, 34] = none := by decide +kernel
  unfold prV
  rw [h]
  rfl
theorem sh0 : shErr [ev0] 5 = 0 ∧ shL [ev0] 5 = [ev1] := ⟨by decide, by decide⟩
theorem or0 : oB [ev1, ev0] = false := oB_false (m := 0) (by simp) (by decide)
theorem cl0 : clE [ev1] 15 25 = [ev1] := by decide

theorem held_aw {w W W' : World} {b c g : Nat} (h : W.cell? ⟨b, 0, none⟩ = some (.int .i64 3) ∧ W.cell? ⟨b, 1, none⟩ = some (.int .i64 10) ∧ W.cell? ⟨b, 2, none⟩ = some (.int .i64 20) ∧ W.cell? ⟨b, 3, none⟩ = some (.int .i64 65) ∧ W.cell? ⟨b, 4, none⟩ = some (.int .i64 0) ∧ W.cell? ⟨b, 5, none⟩ = some (.string ⟨#[]⟩) ∧ W.cell? ⟨b, 6, none⟩ = some (.int .i64 0) ∧ W.cell? ⟨c, 0, none⟩ = some (.int .i64 3) ∧ W.cell? ⟨c, 1, none⟩ = some (.int .i64 10) ∧ W.cell? ⟨c, 2, none⟩ = some (.int .i64 20) ∧ W.cell? ⟨c, 3, none⟩ = some (.int .i64 65) ∧ W.cell? ⟨c, 4, none⟩ = some (.int .i64 0) ∧ W.cell? ⟨c, 5, none⟩ = some (.string ⟨#[]⟩) ∧ W.cell? ⟨c, 6, none⟩ = some (.int .i64 0) ∧ W.cell? ⟨g, 0, none⟩ = some (.int .i64 3) ∧ W.cell? ⟨g, 1, none⟩ = some (.int .i64 15) ∧ W.cell? ⟨g, 2, none⟩ = some (.int .i64 25) ∧ W.cell? ⟨g, 3, none⟩ = some (.int .i64 65) ∧ W.cell? ⟨g, 4, none⟩ = some (.int .i64 0) ∧ W.cell? ⟨g, 5, none⟩ = some (.string ⟨#[]⟩) ∧ W.cell? ⟨g, 6, none⟩ = some (.int .i64 0) ∧ Below w.heap.size w W ∧ b < W.heap.size ∧ c < W.heap.size ∧ g < W.heap.size) (hb : Below W.heap.size W W') : W'.cell? ⟨b, 0, none⟩ = some (.int .i64 3) ∧ W'.cell? ⟨b, 1, none⟩ = some (.int .i64 10) ∧ W'.cell? ⟨b, 2, none⟩ = some (.int .i64 20) ∧ W'.cell? ⟨b, 3, none⟩ = some (.int .i64 65) ∧ W'.cell? ⟨b, 4, none⟩ = some (.int .i64 0) ∧ W'.cell? ⟨b, 5, none⟩ = some (.string ⟨#[]⟩) ∧ W'.cell? ⟨b, 6, none⟩ = some (.int .i64 0) ∧ W'.cell? ⟨c, 0, none⟩ = some (.int .i64 3) ∧ W'.cell? ⟨c, 1, none⟩ = some (.int .i64 10) ∧ W'.cell? ⟨c, 2, none⟩ = some (.int .i64 20) ∧ W'.cell? ⟨c, 3, none⟩ = some (.int .i64 65) ∧ W'.cell? ⟨c, 4, none⟩ = some (.int .i64 0) ∧ W'.cell? ⟨c, 5, none⟩ = some (.string ⟨#[]⟩) ∧ W'.cell? ⟨c, 6, none⟩ = some (.int .i64 0) ∧ W'.cell? ⟨g, 0, none⟩ = some (.int .i64 3) ∧ W'.cell? ⟨g, 1, none⟩ = some (.int .i64 15) ∧ W'.cell? ⟨g, 2, none⟩ = some (.int .i64 25) ∧ W'.cell? ⟨g, 3, none⟩ = some (.int .i64 65) ∧ W'.cell? ⟨g, 4, none⟩ = some (.int .i64 0) ∧ W'.cell? ⟨g, 5, none⟩ = some (.string ⟨#[]⟩) ∧ W'.cell? ⟨g, 6, none⟩ = some (.int .i64 0) ∧ Below w.heap.size w W' ∧ b < W'.heap.size ∧ c < W'.heap.size ∧ g < W'.heap.size := by
  obtain ⟨a0, a1, a2, a3, a4, a5, a6, b0, b1, b2, b3, b4, b5, b6, c0, c1, c2, c3, c4, c5, c6, hB, l1, l2, l3⟩ := h
  have hs := hb.size
  have hB' : Below w.heap.size w W' := hB.trans (hb.mono hB.size)
  exact ⟨(hb.cell l1).trans a0, (hb.cell l1).trans a1, (hb.cell l1).trans a2, (hb.cell l1).trans a3, (hb.cell l1).trans a4, (hb.cell l1).trans a5, (hb.cell l1).trans a6, (hb.cell l2).trans b0, (hb.cell l2).trans b1, (hb.cell l2).trans b2, (hb.cell l2).trans b3, (hb.cell l2).trans b4, (hb.cell l2).trans b5, (hb.cell l2).trans b6, (hb.cell l3).trans c0, (hb.cell l3).trans c1, (hb.cell l3).trans c2, (hb.cell l3).trans c3, (hb.cell l3).trans c4, (hb.cell l3).trans c5, (hb.cell l3).trans c6, hB', by omega, by omega, by omega⟩
theorem arg_aw {W : World} {g C : Nat} (h0 : W.cell? ⟨g, 0, none⟩ = some (.int .i64 3)) (h1 : W.cell? ⟨g, 1, none⟩ = some (.int .i64 15)) (h2 : W.cell? ⟨g, 2, none⟩ = some (.int .i64 25)) (h3 : W.cell? ⟨g, 3, none⟩ = some (.int .i64 65)) (h4 : W.cell? ⟨g, 4, none⟩ = some (.int .i64 0)) (h5 : W.cell? ⟨g, 5, none⟩ = some (.string ⟨#[]⟩)) (h6 : W.cell? ⟨g, 6, none⟩ = some (.int .i64 0)) (hg : g < W.heap.size) : EvArg W (.slice (some ⟨g, 0, none⟩) 1 C) [ev1] := by
  refine ⟨_, C, rfl, fun _ => ⟨g, 0, rfl, hg, fun j hj i hi => ?_⟩⟩
  obtain rfl : j = 0 := by simpa using hj
  rw [show 0 + 0 * 7 + i = i by omega]
  have : i = 0 ∨ i = 1 ∨ i = 2 ∨ i = 3 ∨ i = 4 ∨ i = 5 ∨ i = 6 := by omega
  rcases this with rfl | rfl | rfl | rfl | rfl | rfl | rfl
  · exact h0
  · exact h1
  · exact h2
  · exact h3
  · exact h4
  · exact h5
  · exact h6

theorem arg_all {w W : World} {b c g C : Nat} (h : W.cell? ⟨b, 0, none⟩ = some (.int .i64 3) ∧ W.cell? ⟨b, 1, none⟩ = some (.int .i64 10) ∧ W.cell? ⟨b, 2, none⟩ = some (.int .i64 20) ∧ W.cell? ⟨b, 3, none⟩ = some (.int .i64 65) ∧ W.cell? ⟨b, 4, none⟩ = some (.int .i64 0) ∧ W.cell? ⟨b, 5, none⟩ = some (.string ⟨#[]⟩) ∧ W.cell? ⟨b, 6, none⟩ = some (.int .i64 0) ∧ W.cell? ⟨c, 0, none⟩ = some (.int .i64 3) ∧ W.cell? ⟨c, 1, none⟩ = some (.int .i64 10) ∧ W.cell? ⟨c, 2, none⟩ = some (.int .i64 20) ∧ W.cell? ⟨c, 3, none⟩ = some (.int .i64 65) ∧ W.cell? ⟨c, 4, none⟩ = some (.int .i64 0) ∧ W.cell? ⟨c, 5, none⟩ = some (.string ⟨#[]⟩) ∧ W.cell? ⟨c, 6, none⟩ = some (.int .i64 0) ∧ W.cell? ⟨g, 0, none⟩ = some (.int .i64 3) ∧ W.cell? ⟨g, 1, none⟩ = some (.int .i64 15) ∧ W.cell? ⟨g, 2, none⟩ = some (.int .i64 25) ∧ W.cell? ⟨g, 3, none⟩ = some (.int .i64 65) ∧ W.cell? ⟨g, 4, none⟩ = some (.int .i64 0) ∧ W.cell? ⟨g, 5, none⟩ = some (.string ⟨#[]⟩) ∧ W.cell? ⟨g, 6, none⟩ = some (.int .i64 0) ∧ Below w.heap.size w W ∧ b < W.heap.size ∧ c < W.heap.size ∧ g < W.heap.size) : EvArg W (.slice (some ⟨g, 0, none⟩) 1 C) [ev1] := by
  obtain ⟨a0, a1, a2, a3, a4, a5, a6, b0, b1, b2, b3, b4, b5, b6, c0, c1, c2, c3, c4, c5, c6, hB, l1, l2, l3⟩ := h
  exact arg_aw c0 c1 c2 c3 c4 c5 c6 l3

set_option maxRecDepth 20000 in
set_option maxHeartbeats 8000000 in
theorem awake_any (w : World) (hE : Env w) : Calls Tryd.prog 10 #[] w fun e w' => e = .returned (.bool true) ∧ Below w.heap.size w w' := by
  have L0 := fun W h => line_xy 3 10 20 65 0 ⟨#[]⟩ 0 W (by decide) h
  rw [show lnV ⟨3, 10, 20, 65, 0, (⟨#[]⟩ : ByteArray).data.toList, 0⟩ = .tuple #[.string ⟨#[98, 121, 116, 101, 32, 49, 48, 32, 50, 48, 32, 54, 53, 32, 48, 32, 48, 32, 34, 34]⟩, .int .i64 0] from lnV0] at L0
  have P0 := fun W h => parse_any ⟨#[98, 121, 116, 101, 32, 49, 48, 32, 50, 48, 32, 54, 53, 32, 48, 32, 48, 32, 34, 34]⟩ W (by decide) h
  rw [show prV (⟨#[98, 121, 116, 101, 32, 49, 48, 32, 50, 48, 32, 54, 53, 32, 48, 32, 48, 32, 34, 34]⟩ : ByteArray).data.toList = .tuple #[.agg (evA 3 10 20 65 0 ⟨#[]⟩ 0), .int .i64 0] from prV0] at P0
  have P1 := fun W h => parse_any ⟨#[98, 105, 116, 32, 48, 32, 49, 32, 48, 49, 32, 48, 32, 48, 32, 34, 34]⟩ W (by decide) h
  rw [show prV (⟨#[98, 105, 116, 32, 48, 32, 49, 32, 48, 49, 32, 48, 32, 48, 32, 34, 34]⟩ : ByteArray).data.toList = .tuple #[.agg (evA 0 0 0 0 0 ⟨#[]⟩ 0), .int .i64 4] from prV1] at P1
  have S0 := fun V W h => shift_any [ev0] V 5 W h (by simp) (fun j hj => by
    simp only [List.length_cons, List.length_nil] at hj
    obtain rfl : j = 0 := by omega
    show ([] : List UInt8).length ≤ _
    simp) (by omega) (by omega)
  rw [sh0.1, sh0.2] at S0
  have HL := Lib.hid L0; have HP0 := Lib.hid P0; have HP1 := Lib.hid P1
  have HS : Hid (∀ (W : World) (g : Nat), g = W.heap.size → Calls Tryd.prog 18 #[.slice (some ⟨g, 0, none⟩) 1 1, .int .i64 5] (W.alloc (.cells (evA 3 10 20 65 0 ⟨#[]⟩ 0) 23)) fun e w' => ∃ v, e = .returned (.tuple #[v, .int .i64 0]) ∧ EvRow w' (W.heap.size + 1) v [ev1] ∧ Below (W.heap.size + 1) (W.alloc (.cells (evA 3 10 20 65 0 ⟨#[]⟩ 0) 23)) w') := Lib.hid (fun W g hg => by
    subst hg
    have h := S0 _ _ (KRow.arg (T := 23) (B := 0) evC_size (KRow.lit (enc := evC) (T := 23) evC_size W 0 (Nat.zero_le _) [ev0] (evA 3 10 20 65 0 ⟨#[]⟩ 0) rfl 1 rfl (by simp)))
    rw [World.size_alloc] at h
    exact h)
  have HE := Lib.hid hE
  clear L0 P0 P1 S0 hE
  go_enter Tryd.func10, Tryd.ntmps10
  go_wp2_with (first
    | (go_at_call 23; go_must (refine (HL.out _ (HE.out.below (ba _ _))).mono ?_; rintro e1 w1 ⟨rfl, b1⟩; have B1 := Lib.hid ((ba w _).trans (b1.mono (le_alloc (Nat.le_refl _) _))); have R1 := Lib.hid ((RowAt.new w 23 (evC ev0)).keep b1); clear b1))
    | (go_at_call_of 25 (Value.string ⟨#[98, 121, 116, 101, 32, 49, 48, 32, 50, 48, 32, 54, 53, 32, 48, 32, 48, 32, 34, 34]⟩); go_must (refine (HP0.out _ (HE.out.below B1.out)).mono ?_; rintro e2 w2 ⟨rfl, b2⟩; have B2 := Lib.hid (B1.out.trans (b2.mono B1.out.size)); have R2 := Lib.hid (R1.out.keep b2); clear b2))
    | (go_at_call 25; go_must (refine (HP1.out _ (HE.out.below (B2.out.alloc B2.out.size _))).mono ?_; rintro e3 w3 ⟨rfl, b3⟩; have B3 := Lib.hid ((B2.out.alloc B2.out.size _).trans (b3.mono (le_alloc B2.out.size _))); have R3 := Lib.hid ((R2.out.alloc _).keep b3); have Q3 := Lib.hid ((RowAt.new w2 23 (evC ev0)).keep b3); have k0 : ∀ o, (w3.alloc o).cell? ⟨w.heap.size, 0, none⟩ = some (.int .i64 3) := fun o => (R3.out.alloc o).cell 0; have k1 : ∀ o, (w3.alloc o).cell? ⟨w.heap.size, 1, none⟩ = some (.int .i64 10) := fun o => (R3.out.alloc o).cell 1; have k2 : ∀ o, (w3.alloc o).cell? ⟨w.heap.size, 2, none⟩ = some (.int .i64 20) := fun o => (R3.out.alloc o).cell 2; have k3 : ∀ o, (w3.alloc o).cell? ⟨w.heap.size, 3, none⟩ = some (.int .i64 65) := fun o => (R3.out.alloc o).cell 3; have k4 : ∀ o, (w3.alloc o).cell? ⟨w.heap.size, 4, none⟩ = some (.int .i64 0) := fun o => (R3.out.alloc o).cell 4; have k5 : ∀ o, (w3.alloc o).cell? ⟨w.heap.size, 5, none⟩ = some (.string ⟨#[]⟩) := fun o => (R3.out.alloc o).cell 5; have k6 : ∀ o, (w3.alloc o).cell? ⟨w.heap.size, 6, none⟩ = some (.int .i64 0) := fun o => (R3.out.alloc o).cell 6; clear b3))
    | (go_at_call 18; go_must (refine (HS.out (w3.alloc _) _ (World.size_alloc _ _).symm).mono ?_; rintro e5 w5 ⟨V, rfl, r5, b5⟩; obtain ⟨G, C, rfl⟩ := r5.full (by simp); have z5 : (w3.alloc (.cells (evA 0 0 0 0 0 ⟨#[]⟩ 0) 23)).heap.size = w3.heap.size + 1 := World.size_alloc _ _; rw [z5] at b5; have l5 : w3.heap.size ≤ w3.heap.size + 1 + 1 := (by omega); have R5 := Lib.hid (((R3.out.alloc (.cells (evA 0 0 0 0 0 ⟨#[]⟩ 0) 23)).alloc (.cells (evA 3 10 20 65 0 ⟨#[]⟩ 0) 23)).below b5 (by have := R3.out.lt; omega)); have Q5 := Lib.hid (((Q3.out.alloc (.cells (evA 0 0 0 0 0 ⟨#[]⟩ 0) 23)).alloc (.cells (evA 3 10 20 65 0 ⟨#[]⟩ 0) 23)).below b5 (by have := Q3.out.lt; omega)); have r6 := Lib.hid r5; have B5 := Lib.hid (((B3.out.alloc B3.out.size (.cells (evA 0 0 0 0 0 ⟨#[]⟩ 0) 23)).alloc (le_alloc B3.out.size _) (.cells (evA 3 10 20 65 0 ⟨#[]⟩ 0) 23)).trans (b5.mono (by have := B3.out.size; omega))); have c0 : w5.cell? ⟨G, 0, none⟩ = some (.int .i64 3) := r6.out.cell evC_size 0 (by simp) 0 (by omega); have c1 : w5.cell? ⟨G, 1, none⟩ = some (.int .i64 15) := r6.out.cell evC_size 0 (by simp) 1 (by omega); have c2 : w5.cell? ⟨G, 2, none⟩ = some (.int .i64 25) := r6.out.cell evC_size 0 (by simp) 2 (by omega); have c3 : w5.cell? ⟨G, 3, none⟩ = some (.int .i64 65) := r6.out.cell evC_size 0 (by simp) 3 (by omega); have c4 : w5.cell? ⟨G, 4, none⟩ = some (.int .i64 0) := r6.out.cell evC_size 0 (by simp) 4 (by omega); have c5 : w5.cell? ⟨G, 5, none⟩ = some (.string ⟨#[]⟩) := r6.out.cell evC_size 0 (by simp) 5 (by omega); have c6 : w5.cell? ⟨G, 6, none⟩ = some (.int .i64 0) := r6.out.cell evC_size 0 (by simp) 6 (by omega); clear b5 r5 l5 z5 k0 k1 k2 k3 k4 k5 k6)))
  have hs := Lib.hid (show w5.cell? ⟨w.heap.size, 0, none⟩ = some (.int .i64 3) ∧ w5.cell? ⟨w.heap.size, 1, none⟩ = some (.int .i64 10) ∧ w5.cell? ⟨w.heap.size, 2, none⟩ = some (.int .i64 20) ∧ w5.cell? ⟨w.heap.size, 3, none⟩ = some (.int .i64 65) ∧ w5.cell? ⟨w.heap.size, 4, none⟩ = some (.int .i64 0) ∧ w5.cell? ⟨w.heap.size, 5, none⟩ = some (.string ⟨#[]⟩) ∧ w5.cell? ⟨w.heap.size, 6, none⟩ = some (.int .i64 0) ∧ w5.cell? ⟨w2.heap.size, 0, none⟩ = some (.int .i64 3) ∧ w5.cell? ⟨w2.heap.size, 1, none⟩ = some (.int .i64 10) ∧ w5.cell? ⟨w2.heap.size, 2, none⟩ = some (.int .i64 20) ∧ w5.cell? ⟨w2.heap.size, 3, none⟩ = some (.int .i64 65) ∧ w5.cell? ⟨w2.heap.size, 4, none⟩ = some (.int .i64 0) ∧ w5.cell? ⟨w2.heap.size, 5, none⟩ = some (.string ⟨#[]⟩) ∧ w5.cell? ⟨w2.heap.size, 6, none⟩ = some (.int .i64 0) ∧ w5.cell? ⟨G, 0, none⟩ = some (.int .i64 3) ∧ w5.cell? ⟨G, 1, none⟩ = some (.int .i64 15) ∧ w5.cell? ⟨G, 2, none⟩ = some (.int .i64 25) ∧ w5.cell? ⟨G, 3, none⟩ = some (.int .i64 65) ∧ w5.cell? ⟨G, 4, none⟩ = some (.int .i64 0) ∧ w5.cell? ⟨G, 5, none⟩ = some (.string ⟨#[]⟩) ∧ w5.cell? ⟨G, 6, none⟩ = some (.int .i64 0) ∧ Below w.heap.size w w5 ∧ w.heap.size < w5.heap.size ∧ w2.heap.size < w5.heap.size ∧ G < w5.heap.size from ⟨R5.out.cell 0, R5.out.cell 1, R5.out.cell 2, R5.out.cell 3, R5.out.cell 4, R5.out.cell 5, R5.out.cell 6, Q5.out.cell 0, Q5.out.cell 1, Q5.out.cell 2, Q5.out.cell 3, Q5.out.cell 4, Q5.out.cell 5, Q5.out.cell 6, c0, c1, c2, c3, c4, c5, c6, B5.out, R5.out.lt, Q5.out.lt, (r6.out.lt G rfl).2⟩)
  have CV : ∀ W, Calls Tryd.prog 11 #[.agg (evA 3 10 20 65 0 ⟨#[]⟩ 0)] W fun e w' => e = .returned (.bool true) ∧ Below W.heap.size W w' := fun W => (valid_xy 3 10 20 65 0 ⟨#[]⟩ 0 W (by decide)).mono fun e w' h => ⟨h.1, by rw [h.2]; exact ba _ _⟩
  have CL : ∀ W, Calls Tryd.prog 13 #[.agg (evA 3 10 20 65 0 ⟨#[]⟩ 0), .agg (evA 3 15 25 65 0 ⟨#[]⟩ 0)] W fun e w' => e = .returned (.bool true) ∧ Below W.heap.size W w' := fun W => by
    have h := less_xy 3 10 20 65 0 ⟨#[]⟩ 0 3 15 25 65 0 ⟨#[]⟩ 0 W
    rw [show lE ⟨3, 10, 20, 65, 0, (⟨#[]⟩ : ByteArray).data.toList, 0⟩ ⟨3, 15, 25, 65, 0, (⟨#[]⟩ : ByteArray).data.toList, 0⟩ = true from by decide] at h
    exact h
  have CO : ∀ (W : World) (g : Nat), g = W.heap.size → Calls Tryd.prog 28 #[.slice (some ⟨g, 0, none⟩) 2 2] (W.alloc (.cells #[.int .i64 3, .int .i64 15, .int .i64 25, .int .i64 65, .int .i64 0, .string ⟨#[]⟩, .int .i64 0, .int .i64 3, .int .i64 10, .int .i64 20, .int .i64 65, .int .i64 0, .string ⟨#[]⟩, .int .i64 0] 23)) fun e w' => e = .returned (.bool false) ∧ Below (W.heap.size + 1) (W.alloc (.cells #[.int .i64 3, .int .i64 15, .int .i64 25, .int .i64 65, .int .i64 0, .string ⟨#[]⟩, .int .i64 0, .int .i64 3, .int .i64 10, .int .i64 20, .int .i64 65, .int .i64 0, .string ⟨#[]⟩, .int .i64 0] 23)) w' := fun W g hg => by
    subst hg
    have h := KRow.arg (T := 23) (B := 0) evC_size (KRow.lit (enc := evC) (T := 23) evC_size W 0 (Nat.zero_le _) [ev1, ev0] #[.int .i64 3, .int .i64 15, .int .i64 25, .int .i64 65, .int .i64 0, .string ⟨#[]⟩, .int .i64 0, .int .i64 3, .int .i64 10, .int .i64 20, .int .i64 65, .int .i64 0, .string ⟨#[]⟩, .int .i64 0] rfl 2 rfl (by simp))
    have h2 := ordered_any [ev1, ev0] _ (W.alloc (.cells #[.int .i64 3, .int .i64 15, .int .i64 25, .int .i64 65, .int .i64 0, .string ⟨#[]⟩, .int .i64 0, .int .i64 3, .int .i64 10, .int .i64 20, .int .i64 65, .int .i64 0, .string ⟨#[]⟩, .int .i64 0] 23)) h (by simp)
    rw [or0] at h2
    have hz : (W.alloc (.cells #[.int .i64 3, .int .i64 15, .int .i64 25, .int .i64 65, .int .i64 0, .string ⟨#[]⟩, .int .i64 0, .int .i64 3, .int .i64 10, .int .i64 20, .int .i64 65, .int .i64 0, .string ⟨#[]⟩, .int .i64 0] 23)).heap.size = W.heap.size + 1 := World.size_alloc _ _
    rw [hz] at h2
    exact h2
  have CC : ∀ W, Calls Tryd.prog 15 #[.agg (evA 3 10 20 65 0 ⟨#[]⟩ 0)] W fun e w' => e = .returned (.agg (evA 3 0 0 65 0 ⟨#[]⟩ 0)) ∧ Below W.heap.size W w' := fun W => (core_xy 3 10 20 65 0 ⟨#[]⟩ 0 W).mono fun e w' h => ⟨h.1, h.2.1⟩
  have CP : ∀ (W : World), EvArg W (.slice (some ⟨G, 0, none⟩) 1 C) [ev1] → Calls Tryd.prog 21 #[.slice (some ⟨G, 0, none⟩) 1 C, .agg #[.int .i64 15, .int .i64 25]] W fun e w' => (∃ A c, e = .returned (.slice A 1 c)) ∧ Below W.heap.size W w' := fun W h => (clip_any [ev1] _ 15 25 W h (by simp)).mono fun e w' h => by
    obtain ⟨v, rfl, r, b⟩ := h
    rw [cl0] at r
    obtain ⟨A, N, c, rfl, rfl⟩ := r.form
    exact ⟨⟨A, c, rfl⟩, b⟩
  have Q0 : ∀ W, (binOp .eql 23 (.agg (evA 3 10 20 65 0 ⟨#[]⟩ 0)) (.agg (evA 3 10 20 65 0 ⟨#[]⟩ 0))).run Tryd.prog W = .ok (.bool true) W := fun W => by rw [eql_ev]; rfl
  have Q1 : ∀ W, (binOp .eql 23 (.agg (evA 3 0 0 65 0 ⟨#[]⟩ 0)) (.agg (evA 3 0 0 65 0 ⟨#[]⟩ 0))).run Tryd.prog W = .ok (.bool true) W := fun W => by rw [eql_ev]; rfl
  have HCV := Lib.hid CV; have HCL := Lib.hid CL; have HCO := Lib.hid CO; have HCC := Lib.hid CC; have HCP := Lib.hid CP
  clear CV CL CO CC CP HL HP0 HP1 HS c0 c1 c2 c3 c4 c5 c6 B5 R5 Q5 r6 B1 B2 B3 R1 R2 R3 Q3 HE
  go_region_held3 (fun w' => w'.cell? ⟨w.heap.size, 0, none⟩ = some (.int .i64 3) ∧ w'.cell? ⟨w.heap.size, 1, none⟩ = some (.int .i64 10) ∧ w'.cell? ⟨w.heap.size, 2, none⟩ = some (.int .i64 20) ∧ w'.cell? ⟨w.heap.size, 3, none⟩ = some (.int .i64 65) ∧ w'.cell? ⟨w.heap.size, 4, none⟩ = some (.int .i64 0) ∧ w'.cell? ⟨w.heap.size, 5, none⟩ = some (.string ⟨#[]⟩) ∧ w'.cell? ⟨w.heap.size, 6, none⟩ = some (.int .i64 0) ∧ w'.cell? ⟨w2.heap.size, 0, none⟩ = some (.int .i64 3) ∧ w'.cell? ⟨w2.heap.size, 1, none⟩ = some (.int .i64 10) ∧ w'.cell? ⟨w2.heap.size, 2, none⟩ = some (.int .i64 20) ∧ w'.cell? ⟨w2.heap.size, 3, none⟩ = some (.int .i64 65) ∧ w'.cell? ⟨w2.heap.size, 4, none⟩ = some (.int .i64 0) ∧ w'.cell? ⟨w2.heap.size, 5, none⟩ = some (.string ⟨#[]⟩) ∧ w'.cell? ⟨w2.heap.size, 6, none⟩ = some (.int .i64 0) ∧ w'.cell? ⟨G, 0, none⟩ = some (.int .i64 3) ∧ w'.cell? ⟨G, 1, none⟩ = some (.int .i64 15) ∧ w'.cell? ⟨G, 2, none⟩ = some (.int .i64 25) ∧ w'.cell? ⟨G, 3, none⟩ = some (.int .i64 65) ∧ w'.cell? ⟨G, 4, none⟩ = some (.int .i64 0) ∧ w'.cell? ⟨G, 5, none⟩ = some (.string ⟨#[]⟩) ∧ w'.cell? ⟨G, 6, none⟩ = some (.int .i64 0) ∧ Below w.heap.size w w' ∧ w.heap.size < w'.heap.size ∧ w2.heap.size < w'.heap.size ∧ G < w'.heap.size) (first | assumption | exact held_aw hs.out (Below.refl _ _).drew | exact held_aw (by assumption) ((ba _ _).drew) | exact held_aw (by assumption) (ba _ _) | exact held_aw (by assumption) (Below.refl _ _).drew | fail)
    (first
      | (go_at_call 11; refine (HCV.out _).mono ?_; rintro e5 w5 ⟨rfl, b5⟩; have h5 := held_aw (by assumption) b5)
      | (go_at_call 13; refine (HCL.out _).mono ?_; rintro e6 w6 ⟨rfl, b6⟩; have h6 := held_aw (by assumption) b6)
      | (go_at_call 28; refine (HCO.out _ _ rfl).mono ?_; rintro e7 w7 ⟨rfl, b7⟩; have h7 := held_aw (by assumption) (b7.mono (by rw [World.size_alloc]; exact Nat.le_refl _)))
      | (go_at_call 15; refine (HCC.out _).mono ?_; rintro e8 w8 ⟨rfl, b8⟩; have h8 := held_aw (by assumption) b8)
      | (go_at_call 21; refine (HCP.out _ (arg_all (by assumption))).mono ?_; rintro e9 w9 ⟨⟨A9, c9, rfl⟩, b9⟩; have h9 := held_aw (by assumption) b9))
  rename_i hS9
  have hB9 := Lib.hid hS9.2.2.2.2.2.2.2.2.2.2.2.2.2.2.2.2.2.2.2.2.2.1
  clear hS9
  go_wp2
  go_returns
  exact ⟨rfl, hB9.out⟩

end Go.Proofs.YtiimdkamgehioaaDoor
