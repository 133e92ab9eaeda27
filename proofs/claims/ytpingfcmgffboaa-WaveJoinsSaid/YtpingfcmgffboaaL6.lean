/-
  The walk of the statement WaveJoins.
-/
import Derived.Test.YtpingfcmgffboaaW10
import Derived.Deep.RegionHeld3
namespace Go.Proofs.Ytpingfcmgffboaa
open Go Go.RowKit Go.Joins
set_option linter.unusedVariables false
set_option linter.unusedSimpArgs false

set_option maxRecDepth 100000 in
set_option maxHeartbeats 8000000 in
theorem law_joins (a b : List Rn) (v u : Value) (w : World) (hT : RnArg w v a) (hU : RnArg w u b) : Calls Try.prog 8 #[v, u] w fun e w' => e = .returned (.bool true) ∧ Below w.heap.size w w' := by
  have HT := Lib.hid (fun w' (hb : Below w.heap.size w w') => hT.keep hb)
  have HU := Lib.hid (fun w' (hb : Below w.heap.size w w') => hU.keep hb)
  have CC := fun w' h1 h2 => join_any a b v u w' h1 h2
  have CD := fun w' h1 h2 => refJoin_any a b v u w' h1 h2
  have hcl : (jnR a b).1.length ≤ 1099511627776 := Nat.le_trans (jnR_len a b) (by omega)
  generalize jnR a b = p at *
  obtain ⟨C, q⟩ := p
  have KC := Lib.hid (show ∀ w', RnArg w' v a → RnArg w' u b → Calls Try.prog 29 #[v, u] w' fun e w'' => ∃ x : Value, e = .returned (.tuple #[x, .int .i64 q]) ∧ RnRow w'' w'.heap.size x C ∧ Below w'.heap.size w' w'' from CC)
  have KD := Lib.hid (show ∀ w', RnArg w' v a → RnArg w' u b → Calls Try.prog 30 #[v, u] w' fun e w'' => ∃ x : Value, e = .returned (.tuple #[x, .int .i64 q]) ∧ RnRow w'' w'.heap.size x C ∧ Below w'.heap.size w' w'' from CD)
  obtain ⟨A, c, rfl, hA⟩ := hT
  obtain ⟨D, d, rfl, hD⟩ := hU
  clear CC CD hA hD
  go_enter Try.func8, Try.ntmps8
  go_wp2_with (first
    | (go_at_call 29; go_must (refine (KC.out _ (HT.out _ (Below.refl _ _)) (HU.out _ (Below.refl _ _))).mono ?_; rintro e1 w1 ⟨v1, rfl, r1, b1⟩; have R1 := Lib.hid (fun w' (hb : Below w1.heap.size w1 w') => (KRow.arg rnC_size r1).keep hb); have B1 := Lib.hid b1; clear b1 r1))
    | (go_at_call 30; go_must (refine (KD.out _ (HT.out _ B1.out) (HU.out _ B1.out)).mono ?_; rintro e2 w2 ⟨v2, rfl, r2, b2⟩; have R2 := Lib.hid (R1.out _ b2); have R3 := Lib.hid (KRow.arg rnC_size r2); have B2 := Lib.hid (B1.out.trans (b2.mono B1.out.size)); clear b2; clear r2))
    | (go_at_call 17; go_must (refine (same_any C _ _ _ R2.out R3.out hcl).mono ?_; rintro e3 w3 ⟨rfl, b3⟩; have B3 := Lib.hid (B2.out.trans (b3.mono B2.out.size)); clear b3))
    | (go_at_call 12; go_must (refine (awake_any _).mono ?_; rintro ez wz ⟨rfl, bz⟩; have BZ := Lib.hid (B3.out.trans (bz.mono B3.out.size)); clear bz)))
  go_returns
  exact ⟨rfl, BZ.out⟩

end Go.Proofs.Ytpingfcmgffboaa
