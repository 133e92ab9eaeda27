/-
  The walk of the statement GlitchRemoved.
-/
import Derived.Test.YtemmljngglnccaaT8
namespace Go.Proofs.Ytemmljngglnccaa
open Go Go.RowKit Go.Joins
set_option linter.unusedVariables false
set_option linter.unusedSimpArgs false

set_option maxRecDepth 100000 in
set_option maxHeartbeats 8000000 in
theorem law_removed (l : List Rn) (v : Value) (a t k : Int) (w : World) (hT : RnArg w v l) (ha : a ≤ 9223372036854775807) (ht : t ≤ 9223372036854775807) : Calls Try.prog 9 #[v, .agg #[.int .i64 a, .int .i64 t], .int .i64 k] w fun e w' => e = .returned (.bool true) ∧ Below w.heap.size w w' := by
  by_cases h40 : 40 < l.length
  · have d0 : (40 : Int) < (l.length : Int) := by omega
    clear h40
    obtain ⟨A, c, rfl⟩ := hT.form
    clear hT
    go_enter Try.func9, Try.ntmps9
    go_wp2
    go_quiet (fail)
    have B0 := Lib.hid (show Below w.heap.size w ((w.alloc (.cells #[.int .i64 a, .int .i64 t] 42)).drewN nq) from Go.below_drewN (ba w _) _)
    generalize (w.alloc (.cells #[.int .i64 a, .int .i64 t] 42)).drewN nq = W at *
    go_wp2_with (first
      | (go_at_call 11; go_must (refine (awake_any _).mono ?_; rintro ez wz ⟨rfl, bz⟩; have BZ := Lib.hid (B0.out.trans (bz.mono B0.out.size)); clear bz)))
    go_returns
    exact ⟨rfl, BZ.out⟩
  have d0 : ¬ (40 : Int) < (l.length : Int) := by omega
  have HV := Lib.hid (fun w' (hb : Below w.heap.size w w') => refValid_any l v w' (hT.keep hb))
  cases hv : vl l with
  | false =>
    rw [hv] at HV
    clear h40 hv
    obtain ⟨A, c, rfl⟩ := hT.form
    clear hT
    go_enter Try.func9, Try.ntmps9
    go_wp2
    go_quiet (fail)
    have B0 := Lib.hid (show Below w.heap.size w ((w.alloc (.cells #[.int .i64 a, .int .i64 t] 42)).drewN nq) from Go.below_drewN (ba w _) _)
    generalize (w.alloc (.cells #[.int .i64 a, .int .i64 t] 42)).drewN nq = W at *
    go_wp2_with (first
      | (go_at_call 22; go_must (refine (HV.out _ B0.out).mono ?_; rintro e0 w0 ⟨rfl, rfl⟩))
      | (go_at_call 11; go_must (refine (awake_any _).mono ?_; rintro ez wz ⟨rfl, bz⟩; have BZ := Lib.hid (B0.out.trans (bz.mono B0.out.size)); clear bz)))
    go_returns
    exact ⟨rfl, BZ.out⟩
  | true =>
  rw [hv] at HV
  by_cases c1 : k < 1
  · clear h40 hv
    obtain ⟨A, c, rfl⟩ := hT.form
    clear hT
    go_enter Try.func9, Try.ntmps9
    go_wp2
    go_quiet (fail)
    have B0 := Lib.hid (show Below w.heap.size w ((w.alloc (.cells #[.int .i64 a, .int .i64 t] 42)).drewN nq) from Go.below_drewN (ba w _) _)
    generalize (w.alloc (.cells #[.int .i64 a, .int .i64 t] 42)).drewN nq = W at *
    go_wp2_with (first
      | (go_at_call 22; go_must (refine (HV.out _ B0.out).mono ?_; rintro e0 w0 ⟨rfl, rfl⟩))
      | (go_at_call 11; go_must (refine (awake_any _).mono ?_; rintro ez wz ⟨rfl, bz⟩; have BZ := Lib.hid (B0.out.trans (bz.mono B0.out.size)); clear bz)))
    go_returns
    exact ⟨rfl, BZ.out⟩
  by_cases c2 : 1099511627776 < k
  · clear h40 hv
    obtain ⟨A, c, rfl⟩ := hT.form
    clear hT
    go_enter Try.func9, Try.ntmps9
    go_wp2
    go_quiet (fail)
    have B0 := Lib.hid (show Below w.heap.size w ((w.alloc (.cells #[.int .i64 a, .int .i64 t] 42)).drewN nq) from Go.below_drewN (ba w _) _)
    generalize (w.alloc (.cells #[.int .i64 a, .int .i64 t] 42)).drewN nq = W at *
    go_wp2_with (first
      | (go_at_call 22; go_must (refine (HV.out _ B0.out).mono ?_; rintro e0 w0 ⟨rfl, rfl⟩))
      | (go_at_call 11; go_must (refine (awake_any _).mono ?_; rintro ez wz ⟨rfl, bz⟩; have BZ := Lib.hid (B0.out.trans (bz.mono B0.out.size)); clear bz)))
    go_returns
    exact ⟨rfl, BZ.out⟩
  by_cases c3 : k ≤ t
  · clear h40 hv
    obtain ⟨A, c, rfl⟩ := hT.form
    clear hT
    go_enter Try.func9, Try.ntmps9
    go_wp2
    go_quiet (fail)
    have B0 := Lib.hid (show Below w.heap.size w ((w.alloc (.cells #[.int .i64 a, .int .i64 t] 42)).drewN nq) from Go.below_drewN (ba w _) _)
    generalize (w.alloc (.cells #[.int .i64 a, .int .i64 t] 42)).drewN nq = W at *
    go_wp2_with (first
      | (go_at_call 22; go_must (refine (HV.out _ B0.out).mono ?_; rintro e0 w0 ⟨rfl, rfl⟩))
      | (go_at_call 11; go_must (refine (awake_any _).mono ?_; rintro ez wz ⟨rfl, bz⟩; have BZ := Lib.hid (B0.out.trans (bz.mono B0.out.size)); clear bz)))
    go_returns
    exact ⟨rfl, BZ.out⟩
  have c3' : t < k := by omega
  have HN := Lib.hid (fun w' (hb : Below w.heap.size w w') => refCount_any l k v w' (hT.keep hb))
  by_cases hn : cn k ((cl l).drop 1) = 0
  rotate_left
  · clear h40 hv
    generalize cn k ((cl l).drop 1) = N at *
    have n0 : ((N : Int) != 0) = true := by simp; omega
    have n1 : ((N : Int) == 0) = false := by rw [beq_eq_false_iff_ne]; omega
    obtain ⟨A, c, rfl⟩ := hT.form
    clear hT
    go_enter Try.func9, Try.ntmps9
    go_wp2
    go_quiet (fail)
    have B0 := Lib.hid (show Below w.heap.size w ((w.alloc (.cells #[.int .i64 a, .int .i64 t] 42)).drewN nq) from Go.below_drewN (ba w _) _)
    generalize (w.alloc (.cells #[.int .i64 a, .int .i64 t] 42)).drewN nq = W at *
    go_wp2_with (first
      | (go_at_call 22; go_must (refine (HV.out _ B0.out).mono ?_; rintro e0 w0 ⟨rfl, rfl⟩))
      | (go_at_call 13; go_must (refine (HN.out _ B0.out).mono ?_; rintro e1 w1 ⟨rfl, b1⟩; have B1 := Lib.hid (B0.out.trans (b1.mono B0.out.size)); clear b1))
      | (go_at_call 11; go_must (refine (awake_any _).mono ?_; rintro ez wz ⟨rfl, bz⟩; have BZ := Lib.hid (B1.out.trans (bz.mono B1.out.size)); clear bz)))
    go_returns
    exact ⟨rfl, BZ.out⟩
  rw [hn] at HN
  by_cases hf : farP l a t k
  rotate_left
  · have HF := Lib.hid (fun w' (hb : Below w.heap.size w w') => far_any l a t k false v w' (hT.keep hb) hv ⟨fun h => absurd h (by decide), fun h => absurd h hf⟩ (by omega))
    clear h40 hv hn hf
    obtain ⟨A, c, rfl⟩ := hT.form
    clear hT
    go_enter Try.func9, Try.ntmps9
    go_wp2
    go_quiet (fail)
    have B0 := Lib.hid (show Below w.heap.size w ((w.alloc (.cells #[.int .i64 a, .int .i64 t] 42)).drewN nq) from Go.below_drewN (ba w _) _)
    generalize (w.alloc (.cells #[.int .i64 a, .int .i64 t] 42)).drewN nq = W at *
    go_wp2_with (first
      | (go_at_call 22; go_must (refine (HV.out _ B0.out).mono ?_; rintro e0 w0 ⟨rfl, rfl⟩))
      | (go_at_call 13; go_must (refine (HN.out _ B0.out).mono ?_; rintro e1 w1 ⟨rfl, b1⟩; have B1 := Lib.hid (B0.out.trans (b1.mono B0.out.size)); clear b1))
      | (go_at_call 26; go_must (refine (HF.out _ B1.out).mono ?_; rintro e2 w2 ⟨rfl, b2⟩; have B2 := Lib.hid (B1.out.trans (b2.mono B1.out.size)); clear b2))
      | (go_at_call 11; go_must (refine (awake_any _).mono ?_; rintro ez wz ⟨rfl, bz⟩; have BZ := Lib.hid (B2.out.trans (bz.mono B2.out.size)); clear bz)))
    go_returns
    exact ⟨rfl, BZ.out⟩
  have HF := Lib.hid (fun w' (hb : Below w.heap.size w w') => far_any l a t k true v w' (hT.keep hb) hv ⟨fun _ => hf, fun _ => rfl⟩ (by omega))
  obtain ⟨i0, i1, i2⟩ := in_far hv (by omega) hn c3' hf
  have HI0 := fun w' (hb : Below w.heap.size w w') => insertG_any l a t v w' (hT.keep hb) ha ht
  rw [show inR l a t = ((inR l a t).1, 0) from Prod.ext rfl i0] at HI0
  generalize (inR l a t).1 = M at *
  have HI := Lib.hid (show ∀ w', Below w.heap.size w w' → Calls Try.prog 20 #[v, .int .i64 a, .int .i64 t] w' fun e w'' => ∃ u : Value, e = .returned (.tuple #[u, .int .i64 0]) ∧ RnRow w'' w'.heap.size u M ∧ Below w'.heap.size w' w'' from HI0)
  have HC := Lib.hid (fun V W (h : RnArg W V M) => show Calls Try.prog 12 #[V, .int .i64 k] W fun e w' => e = .returned (.int .i64 1) ∧ Below W.heap.size W w' by have := countG_any M k V W h; rw [i1] at this; exact this)
  have HG := Lib.hid (fun V W (h : RnArg W V M) => by have := filterG_any M k V W h; rw [i2] at this; exact this)
  have HCl := Lib.hid (fun w' (hb : Below w.heap.size w w') => clean_any l v w' (hT.keep hb))
  have hcl : (cl l).length ≤ 1099511627776 := Nat.le_trans ((vl_iff _).1 (cl_vl l)).1 (by omega)
  have HS := Lib.hid (fun V V' W h1 h2 => same_any (cl l) V V' W h1 h2 hcl)
  clear h40 hv hn hf i0 i1 i2 HI0 hcl
  generalize cl l = C at *
  obtain ⟨A, c, rfl⟩ := hT.form
  clear hT
  go_enter Try.func9, Try.ntmps9
  go_wp2
  go_quiet (fail)
  have B0 := Lib.hid (show Below w.heap.size w ((w.alloc (.cells #[.int .i64 a, .int .i64 t] 42)).drewN nq) from Go.below_drewN (ba w _) _)
  generalize (w.alloc (.cells #[.int .i64 a, .int .i64 t] 42)).drewN nq = W at *
  go_wp2_with (first
    | (go_at_call 22; go_must (refine (HV.out _ B0.out).mono ?_; rintro e0 w0 ⟨rfl, rfl⟩))
    | (go_at_call 13; go_must (refine (HN.out _ B0.out).mono ?_; rintro e1 w1 ⟨rfl, b1⟩; have B1 := Lib.hid (B0.out.trans (b1.mono B0.out.size)); clear b1))
    | (go_at_call 26; go_must (refine (HF.out _ B1.out).mono ?_; rintro e2 w2 ⟨rfl, b2⟩; have B2 := Lib.hid (B1.out.trans (b2.mono B1.out.size)); clear b2))
    | (go_at_call 20; go_must (refine (HI.out _ B2.out).mono ?_; rintro e3 w3 ⟨v3, rfl, r3, b3⟩; have R3 := Lib.hid (fun w' (hb : Below w3.heap.size w3 w') => (KRow.arg rnC_size r3).keep hb); have B3 := Lib.hid (B2.out.trans (b3.mono B2.out.size)); clear r3 b3))
    | (go_at_call 12; go_must (refine (HC.out _ _ (R3.out _ (Below.refl _ _))).mono ?_; rintro e4 w4 ⟨rfl, b4⟩; have B4 := Lib.hid b4; clear b4))
    | (go_at_call 15; go_must (refine (HG.out _ _ (R3.out _ B4.out)).mono ?_; rintro e5 w5 ⟨v5, rfl, r5, b5⟩; have R5 := Lib.hid (KRow.arg rnC_size r5); have B5 := Lib.hid (B3.out.trans ((B4.out.trans (b5.mono B4.out.size)).mono B3.out.size)); clear r5 b5))
    | (go_at_call 24; go_must (refine (HCl.out _ B5.out).mono ?_; rintro e6 w6 ⟨v6, rfl, r6, b6⟩; have R6 := Lib.hid (KRow.arg rnC_size r6); have R7 := Lib.hid (R5.out.keep b6); have B6 := Lib.hid (B5.out.trans (b6.mono B5.out.size)); clear r6 b6))
    | (go_at_call 14; go_must (refine (HS.out _ _ _ R7.out R6.out).mono ?_; rintro e7 w7 ⟨rfl, b7⟩; have B7 := Lib.hid (B6.out.trans (b7.mono B6.out.size)); clear b7))
    | (go_at_call 11; go_must (refine (awake_any _).mono ?_; rintro ez wz ⟨rfl, bz⟩; have BZ := Lib.hid (B7.out.trans (bz.mono B7.out.size)); clear bz)))
  go_returns
  exact ⟨rfl, BZ.out⟩
end Go.Proofs.Ytemmljngglnccaa
