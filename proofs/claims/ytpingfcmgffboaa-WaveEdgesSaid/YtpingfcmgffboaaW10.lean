/-
  The walk of awake.
-/
import Derived.Test.YtpingfcmgffboaaW9
namespace Go.Proofs.Ytpingfcmgffboaa
open Go Go.RowKit Go.Joins
set_option linter.unusedVariables false
set_option linter.unusedSimpArgs false

set_option maxRecDepth 100000 in
set_option maxHeartbeats 8000000 in
theorem awake_any (w : World) : Calls Try.prog 12 #[] w fun e w' => e = .returned (.bool true) ∧ Below w.heap.size w w' := by
  have CE := Lib.hid example_any
  have C9 := Lib.hid ex_at9
  have C14 := Lib.hid ex_at14
  have CF := Lib.hid ex_from
  have CV := Lib.hid ex_valid
  have CC := Lib.hid ex_clean
  have CL := Lib.hid ex_long
  have CG := Lib.hid ex_edges
  have CS := Lib.hid same_any
  have CI := Lib.hid ints_any
  go_enter Try.func12, Try.ntmps12
  go_wp2_with (first
    | (go_at_call 33; go_must (refine (CE.out _).mono ?_; rintro e1 w1 ⟨g, rfl, r1, b1⟩; have HL := Lib.hid (fun w' (hb : Below w1.heap.size w1 w') => (KRow.arg rnC_size r1).keep hb); have B1 := Lib.hid b1; clear r1 b1))
    | (go_at_call 13; first
        | ((with_reducible refine (C9.out _ _ (HL.out _ (Below.refl _ _))).mono ?_); rintro e2 w2 ⟨rfl, b2⟩; have B2 := Lib.hid b2; clear b2)
        | ((with_reducible refine (C14.out _ _ (HL.out _ B2.out)).mono ?_); rintro e3 w3 ⟨rfl, b3⟩; have B3 := Lib.hid (B2.out.trans (b3.mono B2.out.size)); clear b3))
    | (go_at_call 14; go_must (refine (CF.out _ _ (KRow.arg inC_size (KRow.lit inC_size w3 w3.heap.size (Nat.le_refl _) [3, 5] #[.int .i64 3, .int .i64 5] rfl 2 rfl (by decide)))).mono ?_; rintro e4 w4 ⟨v4, rfl, r4, b4⟩; have R4 := Lib.hid (fun w' (hb : Below w4.heap.size w4 w') => (KRow.arg rnC_size r4).keep hb); have B4 := Lib.hid (show Below w1.heap.size w1 w4 from B3.out.trans ((ba w3 _).mono B3.out.size |>.trans (b4.mono (Nat.le_trans B3.out.size (ba w3 _).size)))); clear r4 b4))
    | (go_at_call 11; go_must (refine (CV.out _ _ (HL.out _ B4.out)).mono ?_; rintro e5 w5 ⟨rfl, b5⟩; have B5 := Lib.hid b5; clear b5))
    | (go_at_call 18; go_must (refine (CC.out _ _ (HL.out _ (B4.out.trans (B5.out.mono B4.out.size)))).mono ?_; rintro e6 w6 ⟨v6, rfl, r6, b6⟩; have R6 := Lib.hid (KRow.arg rnC_size r6); have B6 := Lib.hid (B5.out.trans (b6.mono B5.out.size)); clear r6 b6))
    | (go_at_call 16; go_must (refine (CL.out _ _ (HL.out _ (B4.out.trans (B7.out.mono B4.out.size)))).mono ?_; rintro e8 w8 ⟨rfl, b8⟩; have B8 := Lib.hid (B7.out.trans (b8.mono B7.out.size)); clear b8))
    | (go_at_call 15; go_must (refine (CG.out _ _ (HL.out _ (B4.out.trans (B8.out.mono B4.out.size)))).mono ?_; rintro e9 w9 ⟨v9, rfl, r9, b9⟩; have R9 := Lib.hid (KRow.arg inC_size r9); have B9 := Lib.hid (B8.out.trans (b9.mono B8.out.size)); clear r9 b9))
    | (go_at_call 22; go_must (refine (CI.out [10] _ _ _ (R9.out.keep (ba w9 _)) (KRow.arg inC_size (KRow.lit inC_size w9 w9.heap.size (Nat.le_refl _) [10] #[.int .i64 10] rfl 1 rfl (by decide))) (by decide)).mono ?_; rintro e10 w10 ⟨rfl, b10⟩; have B10 := Lib.hid (show Below w4.heap.size w4 w10 from B9.out.trans ((ba w9 _).mono B9.out.size |>.trans (b10.mono (Nat.le_trans B9.out.size (ba w9 _).size)))); clear b10))
    | (go_at_call 17; first
        | (refine (CS.out exF _ _ _ (R4.out _ (B10.out.alloc B10.out.size _)) (KRow.arg rnC_size (KRow.lit rnC_size w10 w10.heap.size (Nat.le_refl _) exF #[.int .i64 0, .int .i64 3, .int .i64 1, .int .i64 2, .int .i64 0, .int .i64 4] rfl 3 rfl (by decide))) (by decide)).mono ?_; rintro e11 w11 ⟨rfl, b11⟩; have B11 := Lib.hid (show Below w4.heap.size w4 w11 from B10.out.trans ((ba w10 _).mono B10.out.size |>.trans (b11.mono (Nat.le_trans B10.out.size (ba w10 _).size)))); clear b11)
        | (refine (CS.out exC _ _ _ (R6.out.keep (ba w6 _)) (KRow.arg rnC_size (KRow.lit rnC_size w6 w6.heap.size (Nat.le_refl _) exC #[.int .i64 1, .int .i64 10, .int .i64 0, .int .i64 4] rfl 2 rfl (by decide))) (by decide)).mono ?_; rintro e7 w7 ⟨rfl, b7⟩; have B7 := Lib.hid (show Below w4.heap.size w4 w7 from B6.out.trans ((ba w6 _).mono B6.out.size |>.trans (b7.mono (Nat.le_trans B6.out.size (ba w6 _).size)))); clear b7)))
  go_returns
  exact ⟨rfl, B1.out.trans ((B4.out.trans (B11.out.mono B4.out.size)).mono B1.out.size)⟩

end Go.Proofs.Ytpingfcmgffboaa
