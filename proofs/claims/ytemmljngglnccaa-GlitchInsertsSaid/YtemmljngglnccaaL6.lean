/-
  The walk of the statement GlitchInserts.
-/
import Derived.Test.YtemmljngglnccaaT9
namespace Go.Proofs.Ytemmljngglnccaa
open Go Go.RowKit Go.Joins
set_option linter.unusedVariables false
set_option linter.unusedSimpArgs false

set_option maxRecDepth 100000 in
set_option maxHeartbeats 8000000 in
theorem law_inserts (l : List Rn) (v : Value) (a t : Int) (w : World) (hT : RnArg w v l) (ha : a ≤ 9223372036854775807) (ht : t ≤ 9223372036854775807) : Calls Try.prog 6 #[v, .int .i64 a, .int .i64 t] w fun e w' => e = .returned (.bool true) ∧ Below w.heap.size w w' := by
  by_cases h40 : 40 < l.length
  · obtain ⟨A, c, rfl⟩ := hT.form
    clear hT
    have d0 : (40 : Int) < (l.length : Int) := by omega
    clear h40
    go_enter Try.func6, Try.ntmps6
    go_wp2_with (first
      | (go_at_call 11; go_must (refine (awake_any _).mono ?_; rintro ez wz ⟨rfl, bz⟩; have BZ := Lib.hid bz; clear bz)))
    go_returns
    exact ⟨rfl, BZ.out⟩
  have d0 : ¬ (40 : Int) < (l.length : Int) := by omega
  have KI0 := insertG_any l a t v w hT ha ht
  have KR0 := fun w' (hb : Below w.heap.size w w') => refInsert_any l a t v w' (hT.keep hb) ha ht (by omega)
  have hl := inR_len l a t
  rw [show inR l a t = ((inR l a t).1, (inR l a t).2) from rfl] at KI0 KR0
  generalize (inR l a t).1 = M at *
  generalize (inR l a t).2 = E at *
  have KI := Lib.hid (show Calls Try.prog 20 #[v, .int .i64 a, .int .i64 t] w fun e w' => ∃ u : Value, e = .returned (.tuple #[u, .int .i64 E]) ∧ RnRow w' w.heap.size u M ∧ Below w.heap.size w w' from KI0)
  have KR := Lib.hid (show ∀ w', Below w.heap.size w w' → Calls Try.prog 21 #[v, .int .i64 a, .int .i64 t] w' fun e w'' => ∃ u : Value, e = .returned (.tuple #[u, .int .i64 E]) ∧ RnRow w'' w'.heap.size u M ∧ Below w'.heap.size w' w'' from KR0)
  have KS := Lib.hid (fun V V' W h1 h2 => same_any M V V' W h1 h2 (by omega))
  obtain ⟨A, c, rfl⟩ := hT.form
  clear hT KI0 KR0 h40 hl
  go_enter Try.func6, Try.ntmps6
  go_wp2_with (first
    | (go_at_call 20; go_must (refine KI.out.mono ?_; rintro e1 w1 ⟨v1, rfl, r1, b1⟩; have R1 := Lib.hid (KRow.arg rnC_size r1); have B1 := Lib.hid b1; clear b1 r1))
    | (go_at_call 21; go_must (refine (KR.out _ B1.out).mono ?_; rintro e2 w2 ⟨v2, rfl, r2, b2⟩; have R2 := Lib.hid (KRow.arg rnC_size r2); have R3 := Lib.hid (R1.out.keep b2); have B2 := Lib.hid (B1.out.trans (b2.mono B1.out.size)); clear b2 r2))
    | (go_at_call 14; go_must (refine (KS.out _ _ _ R3.out R2.out).mono ?_; rintro e5 w5 ⟨rfl, b5⟩; have B5 := Lib.hid (B2.out.trans (b5.mono B2.out.size)); clear b5))
    | (go_at_call 11; go_must (refine (awake_any _).mono ?_; rintro ez wz ⟨rfl, bz⟩; have BZ := Lib.hid (B5.out.trans (bz.mono B5.out.size)); clear bz)))
  go_returns
  exact ⟨rfl, BZ.out⟩
end Go.Proofs.Ytemmljngglnccaa
