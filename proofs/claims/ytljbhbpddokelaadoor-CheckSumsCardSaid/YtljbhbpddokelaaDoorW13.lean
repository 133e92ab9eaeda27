/-
  The walk of the chapter's examples ('awake').
-/
import Derived.Test.YtljbhbpddokelaaDoorW8
import Derived.Test.YtljbhbpddokelaaDoorW10
import Derived.Test.YtljbhbpddokelaaDoorW12
namespace Go.Proofs.YtljbhbpddokelaaDoor
open Go.RowKit
set_option linter.unusedVariables false
set_option linter.unusedSimpArgs false

theorem ex_named1 (w : World) (h : Env w) : Calls Tryd.prog 11 #[.string ⟨#[99, 114, 99, 56]⟩] w fun e w' => e = .returned (.tuple #[.agg #[.int .i64 8, .int .i64 7, .int .i64 0, .int .i64 0, .bool false], .bool true]) ∧ Below w.heap.size w w' := by
  have := named_any ⟨#[99, 114, 99, 56]⟩ w h
  rwa [nameV_4 (by rw [Lib.toList_data]; rfl)] at this
theorem ex_named2 (w : World) (h : Env w) : Calls Tryd.prog 11 #[.string ⟨#[99, 114, 99, 49, 54, 109, 111, 100, 98, 117, 115]⟩] w fun e w' => e = .returned (.tuple #[.agg #[.int .i64 16, .int .i64 32773, .int .i64 65535, .int .i64 0, .bool true], .bool true]) ∧ Below w.heap.size w w' := by
  have := named_any ⟨#[99, 114, 99, 49, 54, 109, 111, 100, 98, 117, 115]⟩ w h
  rwa [nameV_1 (by rw [Lib.toList_data]; rfl)] at this
theorem ex_bytes1 (w : World) : Calls Tryd.prog 20 #[.agg #[.int .i64 8, .int .i64 7, .int .i64 0, .int .i64 0, .bool false], .string ⟨#[1]⟩] w fun e w' => e = .returned (.tuple #[.int .i64 7, .int .i64 0]) ∧ Below w.heap.size w w' := by
  have := bytes_any 8 7 0 0 false ⟨#[1]⟩ w (by decide)
  rwa [show two (byV 8 7 0 0 false (⟨#[1]⟩ : ByteArray).data.toList) (byE 8 7 0 0 (⟨#[1]⟩ : ByteArray).data.toList) = .tuple #[.int .i64 7, .int .i64 0] by kernel_rfl] at this
theorem ex_bytes2 (w : World) : Calls Tryd.prog 20 #[.agg #[.int .i64 8, .int .i64 7, .int .i64 0, .int .i64 0, .bool false], .string ⟨#[128]⟩] w fun e w' => e = .returned (.tuple #[.int .i64 137, .int .i64 0]) ∧ Below w.heap.size w w' := by
  have := bytes_any 8 7 0 0 false ⟨#[128]⟩ w (by decide)
  rwa [show two (byV 8 7 0 0 false (⟨#[128]⟩ : ByteArray).data.toList) (byE 8 7 0 0 (⟨#[128]⟩ : ByteArray).data.toList) = .tuple #[.int .i64 137, .int .i64 0] by kernel_rfl] at this
theorem ex_bits (w : World) : Calls Tryd.prog 18 #[.agg #[.int .i64 16, .int .i64 32773, .int .i64 65535, .int .i64 0, .bool true], .string ⟨#[]⟩] w fun e w' => e = .returned (.tuple #[.int .i64 65535, .int .i64 0]) ∧ Below w.heap.size w w' := by
  have := bits_any 16 32773 65535 0 true ⟨#[]⟩ w (by decide)
  rwa [show two (biV 16 32773 65535 0 true (⟨#[]⟩ : ByteArray).data.toList) (biE 16 32773 65535 0 (⟨#[]⟩ : ByteArray).data.toList) = .tuple #[.int .i64 65535, .int .i64 0] by kernel_rfl] at this
theorem ex_right (w : World) : Calls Tryd.prog 15 #[.agg #[.int .i64 8, .int .i64 7, .int .i64 0, .int .i64 0, .bool false]] w fun e w' => e = .returned (.bool true) ∧ Below w.heap.size w w' := by
  have := right_any 8 7 0 0 false w
  rwa [show rt 8 7 0 0 = true by kernel_rfl] at this
theorem ex_sum (w : World) : Calls Tryd.prog 22 #[.string ⟨#[255, 2]⟩] w fun e w' => e = .returned (.int .i64 1) ∧ w = w' := sum_any ⟨#[255, 2]⟩ w (by decide)
theorem ex_xor (w : World) : Calls Tryd.prog 24 #[.string ⟨#[5, 6]⟩] w fun e w' => e = .returned (.int .i64 3) ∧ w = w' := xor_any ⟨#[5, 6]⟩ w (by decide)
theorem ex_carry (w : World) : Calls Tryd.prog 26 #[.string ⟨#[74, 85, 147, 229]⟩] w fun e w' => e = .returned (.int .i64 230) ∧ w = w' := carry_any ⟨#[74, 85, 147, 229]⟩ w (by decide)

set_option maxRecDepth 20000 in
set_option maxHeartbeats 2000000 in
theorem awake_any (w : World) (hE : Env w) :
    Calls Tryd.prog 17 #[] w fun e w' => e = .returned (.bool true) ∧ Below w.heap.size w w' := by
  go_enter Tryd.func17, Tryd.ntmps17
  go_wp2_with (first
    | (go_at_call_of 11 (Value.string ⟨#[99, 114, 99, 56]⟩); go_must (refine (ex_named1 _ hE).mono ?_; rintro e w1 ⟨rfl, b1⟩))
    | (go_at_call_of 20 (Value.string ⟨#[1]⟩); go_must (refine (ex_bytes1 _).mono ?_; rintro e w2 ⟨rfl, b2⟩; have g2 := (At5.new _ _ _ _ _ _ _).below b2; obtain ⟨c0, c1, c2, c3, c4, c5⟩ := id g2))
    | (go_at_call_of 20 (Value.string ⟨#[128]⟩); go_must (refine (ex_bytes2 _).mono ?_; rintro e w3 ⟨rfl, b3⟩; have g3 := g2.below b3; have hE3 := (((hE.below b1).below (ba w1 (.cells #[.int .i64 8, .int .i64 7, .int .i64 0, .int .i64 0, .bool false] 23))).below b2).below b3))
    | (go_at_call_of 11 (Value.string ⟨#[99, 114, 99, 49, 54, 109, 111, 100, 98, 117, 115]⟩); go_must (refine (ex_named2 _ hE3).mono ?_; rintro e w4 ⟨rfl, b4⟩; have g4 := g3.below b4; have g4a := g4.below (ba w4 (.cells #[.int .i64 16, .int .i64 32773, .int .i64 65535, .int .i64 0, .bool true] 23))))
    | (go_at_call 18; go_must (refine (ex_bits _).mono ?_; rintro e w5 ⟨rfl, b5⟩; obtain ⟨d0, d1, d2, d3, d4, d5⟩ := g4a.below b5))
    | (go_at_call 15; go_must (refine (ex_right _).mono ?_; rintro e w6 ⟨rfl, b6⟩))
    | (go_at_call 22; go_must (refine (ex_sum _).mono ?_; rintro e w7 ⟨rfl, rfl⟩))
    | (go_at_call 24; go_must (refine (ex_xor _).mono ?_; rintro e w7 ⟨rfl, rfl⟩))
    | (go_at_call 26; go_must (refine (ex_carry _).mono ?_; rintro e w7 ⟨rfl, rfl⟩)))
  go_returns
  exact ⟨rfl, by (repeat' (first | with_reducible exact Below.refl _ _ | with_reducible exact Nat.le_refl _ | with_reducible assumption | with_reducible refine below_drewN ?_ _ | with_reducible refine Below.drew ?_ | with_reducible refine Below.trans ?_ (Below.mono (by assumption) ?_) | with_reducible refine Below.alloc ?_ ?_ _ | with_reducible refine le_alloc ?_ _ | with_reducible refine le_drewN ?_ _ | with_reducible refine le_drew ?_ | with_reducible refine Nat.le_trans ?_ (Below.size (by assumption))))⟩

end Go.Proofs.YtljbhbpddokelaaDoor
