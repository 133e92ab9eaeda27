/-
  The walk of the statement CheckRight.
-/
import Derived.Test.YtljbhbpddokelaaDoorW13
import Derived.Deep.RegionHeld3
namespace Go.Proofs.YtljbhbpddokelaaDoor
open Go.RowKit
set_option linter.unusedVariables false
set_option linter.unusedSimpArgs false

theorem name_form (l : List UInt8) : ∃ (n0 n1 n2 n3 : Int) (n4 B : Bool), nameV l = .tuple #[.agg #[.int .i64 n0, .int .i64 n1, .int .i64 n2, .int .i64 n3, .bool n4], .bool B] := by
  unfold nameV nameT
  (repeat' split) <;> exact ⟨_, _, _, _, _, _, rfl⟩
theorem env15 {w0 w : World} {b c d : Nat} {W P I X n0 n1 n2 n3 : Int} {R n4 : Bool} (h : w.cell? ⟨b, 0, none⟩ = some (.int .i64 W) ∧ w.cell? ⟨b, 1, none⟩ = some (.int .i64 P) ∧ w.cell? ⟨b, 2, none⟩ = some (.int .i64 I) ∧ w.cell? ⟨b, 3, none⟩ = some (.int .i64 X) ∧ w.cell? ⟨b, 4, none⟩ = some (.bool R) ∧ w.cell? ⟨c, 0, none⟩ = some (.int .i64 n0) ∧ w.cell? ⟨c, 1, none⟩ = some (.int .i64 n1) ∧ w.cell? ⟨c, 2, none⟩ = some (.int .i64 n2) ∧ w.cell? ⟨c, 3, none⟩ = some (.int .i64 n3) ∧ w.cell? ⟨c, 4, none⟩ = some (.bool n4) ∧ w.cell? ⟨d, 0, none⟩ = some (.int .i64 n0) ∧ w.cell? ⟨d, 1, none⟩ = some (.int .i64 n1) ∧ w.cell? ⟨d, 2, none⟩ = some (.int .i64 n2) ∧ w.cell? ⟨d, 3, none⟩ = some (.int .i64 n3) ∧ w.cell? ⟨d, 4, none⟩ = some (.bool n4) ∧ Env w ∧ Below w0.heap.size w0 w ∧ b < w.heap.size ∧ c < w.heap.size ∧ d < w.heap.size) : Env w := h.2.2.2.2.2.2.2.2.2.2.2.2.2.2.2.1
theorem held15 {w0 w w' : World} {b c d : Nat} {W P I X n0 n1 n2 n3 : Int} {R n4 : Bool} (h : w.cell? ⟨b, 0, none⟩ = some (.int .i64 W) ∧ w.cell? ⟨b, 1, none⟩ = some (.int .i64 P) ∧ w.cell? ⟨b, 2, none⟩ = some (.int .i64 I) ∧ w.cell? ⟨b, 3, none⟩ = some (.int .i64 X) ∧ w.cell? ⟨b, 4, none⟩ = some (.bool R) ∧ w.cell? ⟨c, 0, none⟩ = some (.int .i64 n0) ∧ w.cell? ⟨c, 1, none⟩ = some (.int .i64 n1) ∧ w.cell? ⟨c, 2, none⟩ = some (.int .i64 n2) ∧ w.cell? ⟨c, 3, none⟩ = some (.int .i64 n3) ∧ w.cell? ⟨c, 4, none⟩ = some (.bool n4) ∧ w.cell? ⟨d, 0, none⟩ = some (.int .i64 n0) ∧ w.cell? ⟨d, 1, none⟩ = some (.int .i64 n1) ∧ w.cell? ⟨d, 2, none⟩ = some (.int .i64 n2) ∧ w.cell? ⟨d, 3, none⟩ = some (.int .i64 n3) ∧ w.cell? ⟨d, 4, none⟩ = some (.bool n4) ∧ Env w ∧ Below w0.heap.size w0 w ∧ b < w.heap.size ∧ c < w.heap.size ∧ d < w.heap.size) (hb : Below w.heap.size w w') : w'.cell? ⟨b, 0, none⟩ = some (.int .i64 W) ∧ w'.cell? ⟨b, 1, none⟩ = some (.int .i64 P) ∧ w'.cell? ⟨b, 2, none⟩ = some (.int .i64 I) ∧ w'.cell? ⟨b, 3, none⟩ = some (.int .i64 X) ∧ w'.cell? ⟨b, 4, none⟩ = some (.bool R) ∧ w'.cell? ⟨c, 0, none⟩ = some (.int .i64 n0) ∧ w'.cell? ⟨c, 1, none⟩ = some (.int .i64 n1) ∧ w'.cell? ⟨c, 2, none⟩ = some (.int .i64 n2) ∧ w'.cell? ⟨c, 3, none⟩ = some (.int .i64 n3) ∧ w'.cell? ⟨c, 4, none⟩ = some (.bool n4) ∧ w'.cell? ⟨d, 0, none⟩ = some (.int .i64 n0) ∧ w'.cell? ⟨d, 1, none⟩ = some (.int .i64 n1) ∧ w'.cell? ⟨d, 2, none⟩ = some (.int .i64 n2) ∧ w'.cell? ⟨d, 3, none⟩ = some (.int .i64 n3) ∧ w'.cell? ⟨d, 4, none⟩ = some (.bool n4) ∧ Env w' ∧ Below w0.heap.size w0 w' ∧ b < w'.heap.size ∧ c < w'.heap.size ∧ d < w'.heap.size := by
  obtain ⟨h0, h1, h2, h3, h4, p0, p1, p2, p3, p4, q0, q1, q2, q3, q4, he, hw, l1, l2, l3⟩ := h
  obtain ⟨g0, g1, g2, g3, g4, g5⟩ := At5.below ⟨h0, h1, h2, h3, h4, l1⟩ hb
  obtain ⟨r0, r1, r2, r3, r4, r5⟩ := At5.below ⟨p0, p1, p2, p3, p4, l2⟩ hb
  obtain ⟨s0, s1, s2, s3, s4, s5⟩ := At5.below ⟨q0, q1, q2, q3, q4, l3⟩ hb
  exact ⟨g0, g1, g2, g3, g4, r0, r1, r2, r3, r4, s0, s1, s2, s3, s4, he.below hb, hw.trans (hb.mono hw.size), g5, r5, s5⟩

set_option maxRecDepth 20000 in
set_option maxHeartbeats 2000000 in
theorem law_right (W P I X : Int) (R : Bool) (s : ByteArray) (w : World) (hE : Env w) :
    Calls Tryd.prog 3 #[crV W P I X R, .string s] w fun e w' => e = .returned (.bool true) ∧ Below w.heap.size w w' := by
  have C1 := fun w h => named_any s w h
  have C2 := fun w => rnamed_any s w
  obtain ⟨n0, n1, n2, n3, n4, B, hn⟩ := name_form s.toList
  rw [hn] at C1 C2
  have C3 := fun w => right_any W P I X R w
  have C4 := fun w => rright_any W P I X R w
  unfold crV at *
  generalize rt W P I X = Z at *
  have H1 := Lib.hid C1; have H2 := Lib.hid C2; have H3 := Lib.hid C3; have H4 := Lib.hid C4
  clear C1 C2 C3 C4 hn
  go_enter Tryd.func3, Tryd.ntmps3
  go_wp2_with (first
    | (go_at_call 11; go_must (refine (H1.out _ (hE.below (ba w _))).mono ?_; rintro e w1 ⟨rfl, b1⟩; have e1 := (hE.below (ba w _)).below b1; have g1 := (At5.new w W P I X R _).below b1; have s1 := ((Below.refl w.heap.size w).alloc (Nat.le_refl _) _).trans (b1.mono (le_alloc (Nat.le_refl _) _))))
    | (go_at_call 12; go_must (refine (H2.out _).mono ?_; rintro e w2 ⟨rfl, b2⟩; have e2 := (e1.below (ba w1 _)).below b2; have g2 := (g1.below (ba w1 _)).below b2; have k2 := (At5.new w1 n0 n1 n2 n3 n4 _).below b2; have s2 := (s1.alloc s1.size _).trans (b2.mono (le_alloc s1.size _))))
    | (go_at_call 13; go_must (refine (names_any _ (e2.below (ba w2 _))).mono ?_; rintro e w3 ⟨v3, rfl, r3, b3⟩; obtain ⟨i3, c3, rfl⟩ : ∃ g c, v3 = .slice (some ⟨g, 0, none⟩) 5 c := r3.some (by decide); have e3 := (e2.below (ba w2 _)).below b3; have g3 := (g2.below (ba w2 _)).below b3; have k3 := (k2.below (ba w2 _)).below b3; have m3 := (At5.new w2 n0 n1 n2 n3 n4 _).below b3; have s3 := (s2.alloc s2.size _).trans (b3.mono (le_alloc s2.size _))))
    | (go_at_call 14; go_must (refine (rnames_any _).mono ?_; rintro e w4 ⟨v4, rfl, r4, b4⟩; obtain ⟨i4, c4, rfl⟩ : ∃ g c, v4 = .slice (some ⟨g, 0, none⟩) 5 c := r4.some (by decide); have q3 := r3.keep b4; have e4 := e3.below b4; have g4 := g3.below b4; have k4 := k3.below b4; have m4 := m3.below b4; have s4 := s3.trans (b4.mono s3.size))))
  have Q3 : ∀ j (h : j < nms.length), w4.cell? ⟨i3, j, none⟩ = some (.string nms[j]) := fun j h => q3.cell j h
  have Q4 : ∀ j (h : j < nms.length), w4.cell? ⟨i4, j, none⟩ = some (.string nms[j]) := fun j h => r4.cell j h
  have l3 : i3 < w4.heap.size := World.block_lt_of_cell? w4 _ (Q3 0 (by decide))
  have l4 : i4 < w4.heap.size := World.block_lt_of_cell? w4 _ (Q4 0 (by decide))
  have G4 := Lib.hid g4; have K4 := Lib.hid k4; have M4 := Lib.hid m4; have E4 := Lib.hid e4; have S4 := Lib.hid s4
  have HQ3 := Lib.hid Q3; have HQ4 := Lib.hid Q4
  clear b1 e1 g1 s1 b2 e2 g2 k2 s2 b3 r3 e3 g3 k3 m3 s3 b4 r4 q3 e4 g4 k4 m4 s4 Q3 Q4 hE
  go_loopw [11] (fun x wr => ∃ k : Nat, k ≤ 5 ∧ x = .int .i64 k ∧ Hid (Below w4.heap.size w4 wr)) (fun x _ => 5 - (intOf x).toNat)
  case atStart => exact ⟨0, by omega, rfl, Below.refl _ _⟩
  case round =>
    obtain ⟨k, hk, rfl, HB⟩ := hrel
    have hk6 : k = 0 ∨ k = 1 ∨ k = 2 ∨ k = 3 ∨ k = 4 ∨ k = 5 := by omega
    rcases hk6 with rfl | rfl | rfl | rfl | rfl | rfl
    · have f3 : wr.cell? ⟨i3, 0, none⟩ = some (.string ⟨#[99, 97, 110, 49, 53]⟩) := by rw [HB.out.cell l3]; exact HQ3.out 0 (by decide)
      have f4 : wr.cell? ⟨i4, 0, none⟩ = some (.string ⟨#[99, 97, 110, 49, 53]⟩) := by rw [HB.out.cell l4]; exact HQ4.out 0 (by decide)
      go_wp2
      go_quiet (fail)
      go_wp2
      go_roundw
      case rel => exact ⟨1, by omega, rfl, Go.below_drewN HB.out _⟩
      case measure => simp [intOf]
    · have f3 : wr.cell? ⟨i3, 1, none⟩ = some (.string ⟨#[99, 114, 99, 49, 54, 109, 111, 100, 98, 117, 115]⟩) := by rw [HB.out.cell l3]; exact HQ3.out 1 (by decide)
      have f4 : wr.cell? ⟨i4, 1, none⟩ = some (.string ⟨#[99, 114, 99, 49, 54, 109, 111, 100, 98, 117, 115]⟩) := by rw [HB.out.cell l4]; exact HQ4.out 1 (by decide)
      go_wp2
      go_quiet (fail)
      go_wp2
      go_roundw
      case rel => exact ⟨2, by omega, rfl, Go.below_drewN HB.out _⟩
      case measure => simp [intOf]
    · have f3 : wr.cell? ⟨i3, 2, none⟩ = some (.string ⟨#[99, 114, 99, 51, 50]⟩) := by rw [HB.out.cell l3]; exact HQ3.out 2 (by decide)
      have f4 : wr.cell? ⟨i4, 2, none⟩ = some (.string ⟨#[99, 114, 99, 51, 50]⟩) := by rw [HB.out.cell l4]; exact HQ4.out 2 (by decide)
      go_wp2
      go_quiet (fail)
      go_wp2
      go_roundw
      case rel => exact ⟨3, by omega, rfl, Go.below_drewN HB.out _⟩
      case measure => simp [intOf]
    · have f3 : wr.cell? ⟨i3, 3, none⟩ = some (.string ⟨#[99, 114, 99, 53, 117, 115, 98]⟩) := by rw [HB.out.cell l3]; exact HQ3.out 3 (by decide)
      have f4 : wr.cell? ⟨i4, 3, none⟩ = some (.string ⟨#[99, 114, 99, 53, 117, 115, 98]⟩) := by rw [HB.out.cell l4]; exact HQ4.out 3 (by decide)
      go_wp2
      go_quiet (fail)
      go_wp2
      go_roundw
      case rel => exact ⟨4, by omega, rfl, Go.below_drewN HB.out _⟩
      case measure => simp [intOf]
    · have f3 : wr.cell? ⟨i3, 4, none⟩ = some (.string ⟨#[99, 114, 99, 56]⟩) := by rw [HB.out.cell l3]; exact HQ3.out 4 (by decide)
      have f4 : wr.cell? ⟨i4, 4, none⟩ = some (.string ⟨#[99, 114, 99, 56]⟩) := by rw [HB.out.cell l4]; exact HQ4.out 4 (by decide)
      go_wp2
      go_quiet (fail)
      go_wp2
      go_roundw
      case rel => exact ⟨5, by omega, rfl, Go.below_drewN HB.out _⟩
      case measure => simp [intOf]
    · go_wp2
      have G5 := G4.out.below HB.out
      have K5 := K4.out.below HB.out
      have M5 := M4.out.below HB.out
      have E5 := E4.out.below HB.out
      have S5 := S4.out.trans (HB.out.mono S4.out.size)
      obtain ⟨c0, c1, c2, c3, c4, c5⟩ := G5
      obtain ⟨d0, d1, d2, d3, d4, d5⟩ := K5
      obtain ⟨f0, f1, f2, f3, f4, f5⟩ := M5
      have hS := S5.drew
      have hEd : Env wr.drew := E5
      go_region_held3 (fun w' => w'.cell? ⟨w.heap.size, 0, none⟩ = some (.int .i64 W) ∧ w'.cell? ⟨w.heap.size, 1, none⟩ = some (.int .i64 P) ∧ w'.cell? ⟨w.heap.size, 2, none⟩ = some (.int .i64 I) ∧ w'.cell? ⟨w.heap.size, 3, none⟩ = some (.int .i64 X) ∧ w'.cell? ⟨w.heap.size, 4, none⟩ = some (.bool R) ∧ w'.cell? ⟨w1.heap.size, 0, none⟩ = some (.int .i64 n0) ∧ w'.cell? ⟨w1.heap.size, 1, none⟩ = some (.int .i64 n1) ∧ w'.cell? ⟨w1.heap.size, 2, none⟩ = some (.int .i64 n2) ∧ w'.cell? ⟨w1.heap.size, 3, none⟩ = some (.int .i64 n3) ∧ w'.cell? ⟨w1.heap.size, 4, none⟩ = some (.bool n4) ∧ w'.cell? ⟨w2.heap.size, 0, none⟩ = some (.int .i64 n0) ∧ w'.cell? ⟨w2.heap.size, 1, none⟩ = some (.int .i64 n1) ∧ w'.cell? ⟨w2.heap.size, 2, none⟩ = some (.int .i64 n2) ∧ w'.cell? ⟨w2.heap.size, 3, none⟩ = some (.int .i64 n3) ∧ w'.cell? ⟨w2.heap.size, 4, none⟩ = some (.bool n4) ∧ Env w' ∧ Below w.heap.size w w' ∧ w.heap.size < w'.heap.size ∧ w1.heap.size < w'.heap.size ∧ w2.heap.size < w'.heap.size) (first | exact ⟨c0, c1, c2, c3, c4, d0, d1, d2, d3, d4, f0, f1, f2, f3, f4, hEd, hS, c5, d5, f5⟩ | assumption | go_keep)
        (first
          | (go_at_call 15; refine (H3.out _).mono ?_; rintro e w7 ⟨rfl, b7⟩; have h7 := held15 (by assumption) b7)
          | (go_at_call 16; refine (H4.out _).mono ?_; rintro e w8 ⟨rfl, b8⟩; have h8 := held15 (by assumption) b8)
          | (go_at_call 17; refine (awake_any _ (env15 (by assumption))).mono ?_; rintro e w9 ⟨rfl, b9⟩; have h9 := held15 (by assumption) b9))
      all_goals (rename_i hh; have s7 := hh.2.2.2.2.2.2.2.2.2.2.2.2.2.2.2.2.1; clear hh)
      all_goals go_wp2
      all_goals go_returns
      all_goals exact ⟨rfl, s7⟩

end Go.Proofs.YtljbhbpddokelaaDoor
