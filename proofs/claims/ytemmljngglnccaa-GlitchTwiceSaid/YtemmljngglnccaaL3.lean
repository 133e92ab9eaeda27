/-
  The walk of the statement GlitchTwice.
-/
import Derived.Test.YtemmljngglnccaaT6
namespace Go.Proofs.Ytemmljngglnccaa
open Go Go.RowKit Go.Joins
set_option linter.unusedVariables false
set_option linter.unusedSimpArgs false

set_option maxRecDepth 100000 in
set_option maxHeartbeats 8000000 in
theorem law_twice (l : List Rn) (v : Value) (a t : Int) (w : World) (hT : RnArg w v l) (ha : a ≤ 9223372036854775807) (ht : t ≤ 9223372036854775807) : Calls Try.prog 8 #[v, .int .i64 a, .int .i64 t] w fun e w' => e = .returned (.bool true) ∧ Below w.heap.size w w' := by
  by_cases h40 : 40 < l.length
  · obtain ⟨A, c, rfl⟩ := hT.form
    clear hT
    have d0 : (40 : Int) < (l.length : Int) := by omega
    clear h40
    go_enter Try.func8, Try.ntmps8
    go_wp2_with (first
      | (go_at_call 11; go_must (refine (awake_any _).mono ?_; rintro ez wz ⟨rfl, bz⟩; have BZ := Lib.hid bz; clear bz)))
    go_returns
    exact ⟨rfl, BZ.out⟩
  have d0 : ¬ (40 : Int) < (l.length : Int) := by omega
  have KI0 := insertG_any l a t v w hT ha ht
  by_cases h0 : (inR l a t).2 = 0
  · have g := in_good h0
    have tw := in_twice h0
    have hl := inR_len l a t
    rw [show inR l a t = ((inR l a t).1, 0) from Prod.ext rfl h0] at KI0
    generalize (inR l a t).1 = M at *
    have KI := Lib.hid (show Calls Try.prog 20 #[v, .int .i64 a, .int .i64 t] w fun e w' => ∃ u : Value, e = .returned (.tuple #[u, .int .i64 0]) ∧ RnRow w' w.heap.size u M ∧ Below w.heap.size w w' from KI0)
    have KJ := Lib.hid (fun V W (h : RnArg W V M) => show Calls Try.prog 20 #[V, .int .i64 a, .int .i64 t] W fun e w' => ∃ u : Value, e = .returned (.tuple #[u, .int .i64 0]) ∧ RnRow w' W.heap.size u (cl l) ∧ Below W.heap.size W w' by have := insertG_any M a t V W h ha ht; rw [tw] at this; exact this)
    have KC := Lib.hid (fun w' (hb : Below w.heap.size w w') => clean_any l v w' (hT.keep hb))
    have hcl : (cl l).length ≤ 1099511627776 := Nat.le_trans ((vl_iff _).1 (cl_vl l)).1 (by omega)
    have KS := Lib.hid (fun V V' W h1 h2 => same_any (cl l) V V' W h1 h2 hcl)
    obtain ⟨A, c, rfl⟩ := hT.form
    clear hT KI0 h40 g tw hl h0 hcl
    generalize cl l = C at *
    go_enter Try.func8, Try.ntmps8
    go_wp2_with (first
      | (go_at_call 20; first
          | ((with_reducible refine KI.out.mono ?_); rintro e1 w1 ⟨v1, rfl, r1, b1⟩; have R1 := Lib.hid (KRow.arg rnC_size r1); have B1 := Lib.hid b1; clear b1 r1)
          | ((with_reducible refine (KJ.out _ _ R1.out).mono ?_); rintro e2 w2 ⟨v2, rfl, r2, b2⟩; have R2 := Lib.hid (KRow.arg rnC_size r2); have B2 := Lib.hid (B1.out.trans (b2.mono B1.out.size)); clear b2 r2))
      | (go_at_call 24; go_must (refine (KC.out _ B2.out).mono ?_; rintro e4 w4 ⟨v4, rfl, r4, b4⟩; have R4 := Lib.hid (KRow.arg rnC_size r4); have R5 := Lib.hid (R2.out.keep b4); have B4 := Lib.hid (B2.out.trans (b4.mono B2.out.size)); clear b4 r4))
      | (go_at_call 14; go_must (refine (KS.out _ _ _ R5.out R4.out).mono ?_; rintro e5 w5 ⟨rfl, b5⟩; have B5 := Lib.hid (B4.out.trans (b5.mono B4.out.size)); clear b5))
      | (go_at_call 11; go_must (refine (awake_any _).mono ?_; rintro ez wz ⟨rfl, bz⟩; have BZ := Lib.hid (B5.out.trans (bz.mono B5.out.size)); clear bz)))
    go_returns
    exact ⟨rfl, BZ.out⟩
  · have hn := inR_no h0
    rw [show inR l a t = ([], (inR l a t).2) from Prod.ext hn rfl] at KI0
    generalize (inR l a t).2 = E at *
    have KI := Lib.hid (show Calls Try.prog 20 #[v, .int .i64 a, .int .i64 t] w fun e w' => ∃ u : Value, e = .returned (.tuple #[u, .int .i64 E]) ∧ RnRow w' w.heap.size u [] ∧ Below w.heap.size w w' from KI0)
    obtain ⟨A, c, rfl⟩ := hT.form
    clear hT KI0 h40 hn
    have hE : (E != 0) = true := by simpa using h0
    have hE' : decide (E = 0) = false := decide_eq_false h0
    go_enter Try.func8, Try.ntmps8
    go_wp2_with (first
      | (go_at_call 20; go_must (refine KI.out.mono ?_; rintro e1 w1 ⟨v1, rfl, r1, b1⟩; obtain ⟨YA, YN, YC, rfl, hYN⟩ := KRow.form r1; rw [show YN = 0 from hYN]; have B1 := Lib.hid b1; clear b1 r1 hYN))
      | (go_at_call 11; go_must (refine (awake_any _).mono ?_; rintro ez wz ⟨rfl, bz⟩; have BZ := Lib.hid (B1.out.trans (bz.mono B1.out.size)); clear bz)))
    go_returns
    exact ⟨rfl, BZ.out⟩
end Go.Proofs.Ytemmljngglnccaa
