/-
  The walk of the statement GlitchFiltered.
-/
import Derived.Test.YtemmljngglnccaaT7
namespace Go.Proofs.Ytemmljngglnccaa
open Go Go.RowKit Go.Joins
set_option linter.unusedVariables false
set_option linter.unusedSimpArgs false

theorem fl_len (k : Int) (l : List Rn) : (flP k (cl l)).length ≤ 1099511627776 := by
  have h := (vl_iff _).1 (cl_vl l)
  have := flP_len k (cl l) (cl_al l) h.2.1
  omega
set_option maxRecDepth 100000 in
set_option maxHeartbeats 8000000 in
theorem law_filtered (l : List Rn) (v : Value) (k : Int) (w : World) (hT : RnArg w v l) : Calls Try.prog 4 #[v, .int .i64 k] w fun e w' => e = .returned (.bool true) ∧ Below w.heap.size w w' := by
  have HF := Lib.hid (filterG_any l k v w hT)
  by_cases h40 : 40 < l.length
  · obtain ⟨A, c, rfl⟩ := hT.form
    clear hT
    have d0 : (40 : Int) < (l.length : Int) := by omega
    clear h40
    go_enter Try.func4, Try.ntmps4
    go_wp2_with (first
      | (go_at_call 11; go_must (refine (awake_any _).mono ?_; rintro ez wz ⟨rfl, bz⟩; have BZ := Lib.hid bz; clear bz)))
    go_returns
    exact ⟨rfl, BZ.out⟩
  · have d0 : ¬ (40 : Int) < (l.length : Int) := by omega
    have HR := Lib.hid (fun w' (hb : Below w.heap.size w w') => refFilter_any l k v w' (hT.keep hb) (by omega))
    have hl := fl_len k l
    have HS := Lib.hid (fun V V' W h1 h2 => same_any (flP k (cl l)) V V' W h1 h2 hl)
    obtain ⟨A, c, rfl⟩ := hT.form
    clear hT h40 hl
    generalize flP k (cl l) = F at *
    go_enter Try.func4, Try.ntmps4
    go_wp2_with (first
      | (go_at_call 15; go_must (refine HF.out.mono ?_; rintro e1 w1 ⟨v1, rfl, r1, b1⟩; have R1 := Lib.hid (KRow.arg rnC_size r1); have B1 := Lib.hid b1; clear b1 r1))
      | (go_at_call 16; go_must (refine (HR.out _ B1.out).mono ?_; rintro e2 w2 ⟨v2, rfl, r2, b2⟩; have R2 := Lib.hid (KRow.arg rnC_size r2); have R3 := Lib.hid (R1.out.keep b2); have B2 := Lib.hid (B1.out.trans (b2.mono B1.out.size)); clear b2 r2))
      | (go_at_call 14; go_must (refine (HS.out _ _ _ R3.out R2.out).mono ?_; rintro e3 w3 ⟨rfl, b3⟩; have B3 := Lib.hid (B2.out.trans (b3.mono B2.out.size)); clear b3))
      | (go_at_call 11; go_must (refine (awake_any _).mono ?_; rintro ez wz ⟨rfl, bz⟩; have BZ := Lib.hid (B3.out.trans (bz.mono B3.out.size)); clear bz)))
    go_returns
    exact ⟨rfl, BZ.out⟩
end Go.Proofs.Ytemmljngglnccaa
