/-
  The walk of awake: the chapter's examples.
-/
import Derived.Test.YtpeiiomimfiebaaDoorW10
import Derived.Test.YtpeiiomimfiebaaDoorW16
namespace Go.Proofs.YtpeiiomimfiebaaDoor
open Go.RowKit
set_option linter.unusedVariables false
set_option linter.unusedSimpArgs false

theorem TRow.lit (w : World) (B : Nat) (hB : B ≤ w.heap.size) (l : List Tok) (hl : l.length ≤ 140737488355328) (n : Nat) (hn : n = l.length) (ya : Array Value) (hy : ya = (tkCs l).toArray) : TRow (w.alloc (.cells ya 30)) B (.slice (some ⟨w.heap.size, 0, none⟩) n n) l := by
  subst hn hy
  have := World.ownsRow_lit (size := 4) (e := 30) w (tkCs l).toArray l.length hB (by simp only [maxLen]; omega) (by simp [tkCs_len]; omega)
  exact this

def exL : List Tok := [⟨1, [97, 50], 0, 1⟩, ⟨4, [61], 0, 1⟩, ⟨2, [45, 48, 120, 49, 102], -31, 1⟩, ⟨4, [59], 0, 1⟩]
set_option maxRecDepth 20000 in
theorem ex_ans : ans (⟨#[97, 50, 32, 61, 32, 45, 48, 120, 49, 102, 59, 32, 35, 32, 101, 110, 100]⟩ : ByteArray).data.toList = (exL, 0, 0) := by rfl
set_option maxRecDepth 20000 in
theorem ex_num : nuV (⟨#[57, 48, 48, 55, 49, 57, 57, 50, 53, 52, 55, 52, 48, 57, 57, 50]⟩ : ByteArray).data.toList = .tuple #[.int .i64 9007199254740992, .int .i64 0] := by rfl
theorem ex_unq : unV (⟨#[34, 97, 92, 110, 92, 34, 92, 120, 102, 102, 34]⟩ : ByteArray).data.toList = .tuple #[.string ⟨#[97, 10, 34, 255]⟩, .int .i64 0] := by rfl

set_option maxRecDepth 20000 in
set_option maxHeartbeats 2000000 in
theorem awake_any (w : World) : Calls Tryd.prog 6 #[] w fun e w' => e = .returned (.bool true) ∧ Below w.heap.size w w' := by
  have C1 := fun w => tokens_any ⟨#[97, 50, 32, 61, 32, 45, 48, 120, 49, 102, 59, 32, 35, 32, 101, 110, 100]⟩ w (by decide)
  rw [ex_ans] at C1
  unfold anV at C1
  have C2 := fun w => number_any ⟨#[57, 48, 48, 55, 49, 57, 57, 50, 53, 52, 55, 52, 48, 57, 57, 50]⟩ w (by decide)
  rw [ex_num] at C2
  have C3 := fun w => unquote_any ⟨#[34, 97, 92, 110, 92, 34, 92, 120, 102, 102, 34]⟩ w (by decide)
  rw [ex_unq] at C3
  have C4 : ∀ w, Calls Tryd.prog 18 #[.string ⟨#[97, 95, 49]⟩] w fun e w' => e = .returned (.bool true) ∧ Below w.heap.size w w' := fun w => name_any ⟨#[97, 95, 49]⟩ w (by decide)
  have C5 : ∀ w, Calls Tryd.prog 18 #[.string ⟨#[49, 97]⟩] w fun e w' => e = .returned (.bool false) ∧ Below w.heap.size w w' := fun w => name_any ⟨#[49, 97]⟩ w (by decide)
  have C6 := same_any exL
  have HL := fun (w : World) (B : Nat) (hB : B ≤ w.heap.size) => TRow.lit w B hB exL (by decide) 4 rfl _ rfl
  have hlen : exL.length = 4 := rfl
  have H1 := Lib.hid C1; have H2 := Lib.hid C2; have H3 := Lib.hid C3; have H4 := Lib.hid C4; have H5 := Lib.hid C5; have H6 := Lib.hid C6; have HLL := Lib.hid HL
  clear C1 C2 C3 C4 C5 C6 HL
  go_enter Tryd.func6, Tryd.ntmps6
  go_wp2_with (first
    | (go_at_call 7; go_must (refine (H1.out _).mono ?_; rintro e w1 ⟨V, rfl, r1, b1⟩; obtain ⟨g1, c1, rfl⟩ := r1.full (by decide); have r2 := r1.alloc (.cells (tkCs exL).toArray 30); have l2 := HLL.out w1 w1.heap.size (Nat.le_refl _); have s2 := b1.alloc b1.size (.cells (tkCs exL).toArray 30)))
    | (go_at_call 15; go_must (refine (H2.out _).mono ?_; rintro e w3 ⟨rfl, b3⟩; have r3 := r2.keep b3; have l3 := l2.keep b3; have s3 := s2.trans (b3.mono s2.size)))
    | (go_at_call 16; go_must (refine (H3.out _).mono ?_; rintro e w4 ⟨rfl, b4⟩; have r4 := r3.keep b4; have l4 := l3.keep b4; have s4 := s3.trans (b4.mono s3.size)))
    | (go_at_call 17; go_must (refine (H6.out _ _ _ _ _ r4 l4 (by decide)).mono ?_; rintro e w5 ⟨rfl, b5⟩; have s5 := s4.trans (b5.mono s4.size)))
    | (go_at_call 18; go_must (first | (with_reducible refine (H5.out _).mono ?_; rintro e w7 ⟨rfl, b7⟩; have s7 := s6.trans (b7.mono s6.size)) | (with_reducible refine (H4.out _).mono ?_; rintro e w6 ⟨rfl, b6⟩; have s6 := s5.trans (b6.mono s5.size)))))
  go_returns
  exact ⟨rfl, s7⟩

end Go.Proofs.YtpeiiomimfiebaaDoor
