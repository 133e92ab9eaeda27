/-
  awake: the chapter's examples.
-/
import Derived.Test.YtcodoakfomddfaaT23
import Derived.Test.YtcodoakfomddfaaT4
import Derived.Test.YtcodoakfomddfaaT9
namespace Go.Proofs.Ytcodoakfomddfaa
open Go Go.RowKit Go.Joins
set_option linter.unusedVariables false
set_option linter.unusedSimpArgs false

theorem lit_names (w : World) : NmArg (w.alloc (.cells #[.string ⟨#[98]⟩, .string ⟨#[97]⟩] 9)) (.slice (some ⟨w.heap.size, 0, none⟩) 2 2) xM := by
  have r := KRow.lit (T := 9) nmC_size w w.heap.size (Nat.le_refl _) xM #[.string ⟨#[98]⟩, .string ⟨#[97]⟩] rfl 2 rfl (by decide)
  exact ⟨r.arg nmC_size, r.cap⟩
theorem lit_tk (w : World) : TkArg (w.alloc (.cells #[.int .i64 9, .int .i64 5, .int .i64 5, .int .i64 0, .int .i64 7] 3)) (.slice (some ⟨w.heap.size, 0, none⟩) 5 5) [9, 5, 5, 0, 7] :=
  KRow.arg tkC_size (KRow.lit (T := 3) tkC_size w w.heap.size (Nat.le_refl _) [9, 5, 5, 0, 7] #[.int .i64 9, .int .i64 5, .int .i64 5, .int .i64 0, .int .i64 7] rfl 5 rfl (by decide))
theorem lit_tk2 (w : World) (o : Obj) : TkArg ((w.alloc o).alloc (.cells #[.int .i64 9, .int .i64 5, .int .i64 5, .int .i64 0, .int .i64 7] 3)) (.slice (some ⟨w.heap.size + 1, 0, none⟩) 5 5) [9, 5, 5, 0, 7] := by
  rw [← World.size_alloc w o]
  exact lit_tk _
theorem lit_one (w : World) : EvArg (w.alloc (.cells #[.int .i64 1, .int .i64 0, .int .i64 7, .int .i64 1, .int .i64 0, .string ⟨#[]⟩, .int .i64 0] 48)) (.slice (some ⟨w.heap.size, 0, none⟩) 1 1) one7 :=
  KRow.arg evC_size (KRow.lit (T := 48) evC_size w w.heap.size (Nat.le_refl _) one7 #[.int .i64 1, .int .i64 0, .int .i64 7, .int .i64 1, .int .i64 0, .string ⟨#[]⟩, .int .i64 0] rfl 1 rfl (by decide))
theorem lit_bad (w : World) : EvArg (w.alloc (.cells #[.int .i64 1, .int .i64 1, .int .i64 7, .int .i64 1, .int .i64 0, .string ⟨#[]⟩, .int .i64 0] 48)) (.slice (some ⟨w.heap.size, 0, none⟩) 1 1) bad7 :=
  KRow.arg evC_size (KRow.lit (T := 48) evC_size w w.heap.size (Nat.le_refl _) bad7 #[.int .i64 1, .int .i64 1, .int .i64 7, .int .i64 1, .int .i64 0, .string ⟨#[]⟩, .int .i64 0] rfl 1 rfl (by decide))
theorem lit_lev (w : World) : EvArg (w.alloc (.cells #[.int .i64 1, .int .i64 0, .int .i64 3, .int .i64 2, .int .i64 0, .string ⟨#[]⟩, .int .i64 0, .int .i64 1, .int .i64 3, .int .i64 7, .int .i64 1, .int .i64 0, .string ⟨#[]⟩, .int .i64 0] 48)) (.slice (some ⟨w.heap.size, 0, none⟩) 2 2) lev7 :=
  KRow.arg evC_size (KRow.lit (T := 48) evC_size w w.heap.size (Nat.le_refl _) lev7 #[.int .i64 1, .int .i64 0, .int .i64 3, .int .i64 2, .int .i64 0, .string ⟨#[]⟩, .int .i64 0, .int .i64 1, .int .i64 3, .int .i64 7, .int .i64 1, .int .i64 0, .string ⟨#[]⟩, .int .i64 0] rfl 2 rfl (by decide))
theorem lit_two (w : World) : EvArg (w.alloc (.cells #[.int .i64 1, .int .i64 0, .int .i64 5, .int .i64 1, .int .i64 0, .string ⟨#[]⟩, .int .i64 0, .int .i64 1, .int .i64 5, .int .i64 7, .int .i64 1, .int .i64 0, .string ⟨#[]⟩, .int .i64 0] 48)) (.slice (some ⟨w.heap.size, 0, none⟩) 2 2) two7 :=
  KRow.arg evC_size (KRow.lit (T := 48) evC_size w w.heap.size (Nat.le_refl _) two7 #[.int .i64 1, .int .i64 0, .int .i64 5, .int .i64 1, .int .i64 0, .string ⟨#[]⟩, .int .i64 0, .int .i64 1, .int .i64 5, .int .i64 7, .int .i64 1, .int .i64 0, .string ⟨#[]⟩, .int .i64 0] rfl 2 rfl (by decide))
theorem sz_xN : szs xN := fun s hs => by
  have : s = ⟨#[97]⟩ ∨ s = ⟨#[98]⟩ := by simpa [xN] using hs
  rcases this with rfl | rfl <;> decide
theorem lev_ex (vN vR vM : Value) (W : World) (h1 : NmArg W vN xN) (h2 : RnArg W vR xR) (h3 : NmArg W vM xM) : Calls Try.prog 9 #[.agg #[vN, vR], vM] W fun e w' => ∃ v : Value, e = .returned (.tuple #[v, .int .i64 0]) ∧ EvRow w' W.heap.size v lev7 ∧ Below W.heap.size W w' := by
  have := levels_any xN xR xM vN vR vM W h1 sz_xN h2 h3 (by decide) (by decide)
  rw [ex_leE, ex_leL] at this
  exact this
theorem spl_ex (V A : Value) (W : World) (h1 : EvArg W V one7) (h2 : TkArg W A [9, 5, 5, 0, 7]) : Calls Try.prog 15 #[V, A] W fun e w' => ∃ v : Value, e = .returned v ∧ EvRow w' W.heap.size v two7 ∧ Below W.heap.size W w' := by
  have := split_any one7 [9, 5, 5, 0, 7] V A W h1 h2 (by decide) (by decide)
  rw [ex_split] at this
  exact this
theorem run_ex (V : Value) (W : World) (h1 : EvArg W V bad7) : Calls Try.prog 17 #[V] W fun e w' => ∃ v : Value, e = .returned (.tuple #[v, .int .i64 1]) ∧ RnRow w' W.heap.size v (ruL bad7) ∧ Below W.heap.size W w' := by
  have := runs_any bad7 V W h1 (by decide)
  rw [ex_runs] at this
  exact this
theorem mrg_ex (V : Value) (W : World) (h1 : EvArg W V two7) : Calls Try.prog 13 #[V] W fun e w' => ∃ v : Value, e = .returned v ∧ EvRow w' W.heap.size v one7 ∧ Below W.heap.size W w' := by
  have := merge_any two7 V W h1 (by decide)
  rw [ex_merge] at this
  exact this

set_option maxRecDepth 100000 in
set_option maxHeartbeats 8000000 in
theorem awake_any (w : World) : Calls Try.prog 12 #[] w fun e w' => e = .returned (.bool true) ∧ Below w.heap.size w w' := by
  go_enter Try.func12, Try.ntmps12
  go_wp2_with (first
    | (go_at_call 29; go_must (refine (example_any w).mono ?_; rintro e1 w1 ⟨vN, vR, rfl, hN1, hR1, b1⟩; obtain ⟨NA, NC, rfl, _⟩ := id hN1.form; obtain ⟨RA, RC, rfl⟩ := KArg.form hR1; have Nm1 := Lib.hid (hN1.keep (ba w1 (.cells #[.string ⟨#[98]⟩, .string ⟨#[97]⟩] 9))); have Rn1 := Lib.hid (hR1.keep (ba w1 (.cells #[.string ⟨#[98]⟩, .string ⟨#[97]⟩] 9))); have Mm1 := Lib.hid (lit_names w1); have B1 := Lib.hid b1; clear hN1 hR1 b1))
    | (go_at_call 9; go_must (refine (lev_ex _ _ _ _ Nm1.out Rn1.out Mm1.out).mono ?_; rintro e2 w2 ⟨v2, rfl, r2, b2⟩; obtain ⟨LA, LC, rfl⟩ := KRow.full r2 (by decide); have L2 := Lib.hid (r2.arg evC_size); have B2 := Lib.hid ((B1.out.alloc B1.out.size (.cells #[.string ⟨#[98]⟩, .string ⟨#[97]⟩] 9)).trans (b2.mono (B1.out.alloc B1.out.size (.cells #[.string ⟨#[98]⟩, .string ⟨#[97]⟩] 9)).size)); clear r2 b2))
    | (go_at_call 15; go_must (refine (spl_ex _ _ ((w3.alloc (.cells #[.int .i64 1, .int .i64 0, .int .i64 7, .int .i64 1, .int .i64 0, .string ⟨#[]⟩, .int .i64 0] 48)).alloc (.cells #[.int .i64 9, .int .i64 5, .int .i64 5, .int .i64 0, .int .i64 7] 3)) (O3.out.keep (ba _ _)) A3.out).mono ?_; rintro e4 w4 ⟨v4, rfl, r4, b4⟩; obtain ⟨PA, PC, rfl⟩ := KRow.full r4 (by decide); have P4 := Lib.hid (r4.arg evC_size); have L4 := Lib.hid ((L3.out.keep Bx3.out).keep b4); have O4 := Lib.hid ((O3.out.keep (ba _ _)).keep b4); have B4 := Lib.hid ((B3.out.trans (Bx3.out.mono B3.out.size)).trans (b4.mono (B3.out.trans (Bx3.out.mono B3.out.size)).size)); clear r4 b4))
    | (go_at_call 17; go_must (refine (run_ex _ _ D5.out).mono ?_; rintro e6 w6 ⟨v6, rfl, r6, b6⟩; obtain ⟨XA, XN, XC, rfl, hXN⟩ := KRow.form r6; clear hXN; have L6 := Lib.hid (L5.out.keep b6); have O6 := Lib.hid (O5.out.keep b6); have P6 := Lib.hid (P5.out.keep b6); have B6 := Lib.hid (B5.out.trans (b6.mono B5.out.size)); clear r6 b6))
    | (go_at_call 13; go_must (refine (mrg_ex _ _ P12.out).mono ?_; rintro e13 w13 ⟨v13, rfl, r13, b13⟩; obtain ⟨QA, QC, rfl⟩ := KRow.full r13 (by decide); have Q13 := Lib.hid (r13.arg evC_size); have O13 := Lib.hid (O12.out.keep b13); have B13 := Lib.hid (B12.out.trans (b13.mono B12.out.size)); clear r13 b13))
    | (go_at_call 30; go_must (first
        | ((with_reducible refine (level_any 5 7 1 _).mono ?_); rintro e11 w11 ⟨rfl, b11⟩; have O11 := Lib.hid ((O10.out.keep b11).keep (ba w11 (.cells #[.int .i64 1, .int .i64 0, .int .i64 5, .int .i64 1, .int .i64 0, .string ⟨#[]⟩, .int .i64 0, .int .i64 1, .int .i64 5, .int .i64 7, .int .i64 1, .int .i64 0, .string ⟨#[]⟩, .int .i64 0] 48))); have P11 := Lib.hid ((P10.out.keep b11).keep (ba w11 (.cells #[.int .i64 1, .int .i64 0, .int .i64 5, .int .i64 1, .int .i64 0, .string ⟨#[]⟩, .int .i64 0, .int .i64 1, .int .i64 5, .int .i64 7, .int .i64 1, .int .i64 0, .string ⟨#[]⟩, .int .i64 0] 48))); have M11 := Lib.hid (lit_two w11); have B11 := Lib.hid ((B10.out.trans (b11.mono B10.out.size)).alloc (B10.out.trans (b11.mono B10.out.size)).size (.cells #[.int .i64 1, .int .i64 0, .int .i64 5, .int .i64 1, .int .i64 0, .string ⟨#[]⟩, .int .i64 0, .int .i64 1, .int .i64 5, .int .i64 7, .int .i64 1, .int .i64 0, .string ⟨#[]⟩, .int .i64 0] 48)); clear b11)
        | ((with_reducible refine (level_any 0 5 1 _).mono ?_); rintro e10 w10 ⟨rfl, b10⟩; have O10 := Lib.hid (O9.out.keep b10); have P10 := Lib.hid (P9.out.keep b10); have B10 := Lib.hid (B9.out.trans (b10.mono B9.out.size)); clear b10)
        | ((with_reducible refine (level_any 3 7 1 _).mono ?_); rintro e8 w8 ⟨rfl, b8⟩; have L8 := Lib.hid ((L7.out.keep b8).keep (ba w8 (.cells #[.int .i64 1, .int .i64 0, .int .i64 3, .int .i64 2, .int .i64 0, .string ⟨#[]⟩, .int .i64 0, .int .i64 1, .int .i64 3, .int .i64 7, .int .i64 1, .int .i64 0, .string ⟨#[]⟩, .int .i64 0] 48))); have O8 := Lib.hid ((O7.out.keep b8).keep (ba w8 (.cells #[.int .i64 1, .int .i64 0, .int .i64 3, .int .i64 2, .int .i64 0, .string ⟨#[]⟩, .int .i64 0, .int .i64 1, .int .i64 3, .int .i64 7, .int .i64 1, .int .i64 0, .string ⟨#[]⟩, .int .i64 0] 48))); have P8 := Lib.hid ((P7.out.keep b8).keep (ba w8 (.cells #[.int .i64 1, .int .i64 0, .int .i64 3, .int .i64 2, .int .i64 0, .string ⟨#[]⟩, .int .i64 0, .int .i64 1, .int .i64 3, .int .i64 7, .int .i64 1, .int .i64 0, .string ⟨#[]⟩, .int .i64 0] 48))); have M8 := Lib.hid (lit_lev w8); have B8 := Lib.hid ((B7.out.trans (b8.mono B7.out.size)).alloc (B7.out.trans (b8.mono B7.out.size)).size (.cells #[.int .i64 1, .int .i64 0, .int .i64 3, .int .i64 2, .int .i64 0, .string ⟨#[]⟩, .int .i64 0, .int .i64 1, .int .i64 3, .int .i64 7, .int .i64 1, .int .i64 0, .string ⟨#[]⟩, .int .i64 0] 48)); clear b8)
        | ((with_reducible refine (level_any 0 3 2 _).mono ?_); rintro e7 w7 ⟨rfl, b7⟩; have L7 := Lib.hid (L6.out.keep b7); have O7 := Lib.hid (O6.out.keep b7); have P7 := Lib.hid (P6.out.keep b7); have B7 := Lib.hid (B6.out.trans (b7.mono B6.out.size)); clear b7)
        | ((with_reducible refine (level_any 1 7 1 _).mono ?_); rintro e5 w5 ⟨rfl, b5⟩; have L5 := Lib.hid ((L4.out.keep b5).keep (ba w5 (.cells #[.int .i64 1, .int .i64 1, .int .i64 7, .int .i64 1, .int .i64 0, .string ⟨#[]⟩, .int .i64 0] 48))); have O5 := Lib.hid ((O4.out.keep b5).keep (ba w5 (.cells #[.int .i64 1, .int .i64 1, .int .i64 7, .int .i64 1, .int .i64 0, .string ⟨#[]⟩, .int .i64 0] 48))); have P5 := Lib.hid ((P4.out.keep b5).keep (ba w5 (.cells #[.int .i64 1, .int .i64 1, .int .i64 7, .int .i64 1, .int .i64 0, .string ⟨#[]⟩, .int .i64 0] 48))); have D5 := Lib.hid (lit_bad w5); have B5 := Lib.hid ((B4.out.trans (b5.mono B4.out.size)).alloc (B4.out.trans (b5.mono B4.out.size)).size (.cells #[.int .i64 1, .int .i64 1, .int .i64 7, .int .i64 1, .int .i64 0, .string ⟨#[]⟩, .int .i64 0] 48)); clear b5)
        | ((with_reducible refine (level_any 0 7 1 _).mono ?_); rintro e3 w3 ⟨rfl, b3⟩; have L3 := Lib.hid (L2.out.keep b3); have O3 := Lib.hid (lit_one w3); have A3 := Lib.hid (lit_tk2 w3 (.cells #[.int .i64 1, .int .i64 0, .int .i64 7, .int .i64 1, .int .i64 0, .string ⟨#[]⟩, .int .i64 0] 48)); have B3 := Lib.hid (B2.out.trans (b3.mono B2.out.size)); have Bx3 := Lib.hid ((ba w3 (.cells #[.int .i64 1, .int .i64 0, .int .i64 7, .int .i64 1, .int .i64 0, .string ⟨#[]⟩, .int .i64 0] 48)).alloc (ba w3 (.cells #[.int .i64 1, .int .i64 0, .int .i64 7, .int .i64 1, .int .i64 0, .string ⟨#[]⟩, .int .i64 0] 48)).size (.cells #[.int .i64 9, .int .i64 5, .int .i64 5, .int .i64 0, .int .i64 7] 3)); clear b3)
        | fail))
    | (go_at_call 11; go_must (first
        | ((with_reducible refine (same_any one7 _ _ _ Q13.out O13.out (by decide)).mono ?_); rintro e14 w14 ⟨rfl, b14⟩; have B14 := Lib.hid (B13.out.trans (b14.mono B13.out.size)); clear b14)
        | ((with_reducible refine (same_any two7 _ _ _ P11.out M11.out (by decide)).mono ?_); rintro e12 w12 ⟨rfl, b12⟩; have O12 := Lib.hid (O11.out.keep b12); have P12 := Lib.hid (P11.out.keep b12); have B12 := Lib.hid (B11.out.trans (b12.mono B11.out.size)); clear b12)
        | ((with_reducible refine (same_any lev7 _ _ _ L8.out M8.out (by decide)).mono ?_); rintro e9 w9 ⟨rfl, b9⟩; have O9 := Lib.hid (O8.out.keep b9); have P9 := Lib.hid (P8.out.keep b9); have B9 := Lib.hid (B8.out.trans (b9.mono B8.out.size)); clear b9)
        | fail)))
  go_returns
  exact ⟨rfl, B14.out⟩

end Go.Proofs.Ytcodoakfomddfaa
