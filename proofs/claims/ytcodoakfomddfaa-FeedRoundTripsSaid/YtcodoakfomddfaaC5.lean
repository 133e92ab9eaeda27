/-
  The runs of all levels of a valid capture are its runs, however its events are split and joined again (P14.5; at most 200 runs and 200 ticks).
  It is proved of the row, for the program as it was translated from the claim's commit.
-/
import Derived.Test.YtcodoakfomddfaaP0
import Derived.Test.YtcodoakfomddfaaP0
import Derived.Test.YtcodoakfomddfaaL5
namespace Go.Proofs.Ytcodoakfomddfaa
open Go Go.ChangeShapes Go.WideShapes Go.ChangeAt Go.RowKit Go.WideMaps Go.WideElems
open Go.ChangeMaps (open_string)
set_option linter.unusedVariables false

set_option maxRecDepth 100000 in
theorem feedRoundTrips_contract (H : Type) (enc : TypeId × Value → H) (W : World) (base : Nat) (args : Array Value) (ds gs : List (DataW H)) (before : List MemPlace)
    (hval : ∀ (j : Nat) t v, Try.f7.params[j]? = some t → args[j]? = some v → Value.okWide Try.prog W .any base t v)
    (hW : DataW.Whole enc Try.prog Try.f7.params.toList Rows.feedRoundTripsSpec.vars false W args.toList ds gs before)
    (hsz : (DataW.weightsEach Try.prog (Try.f7.params.toList ++ Rows.feedRoundTripsSpec.plain.varTypes Try.prog) (ds ++ gs)).all (· ≤ reachBytes) = true) :
    Calls Try.prog 7 args W fun e W' => ∃ v, e = .returned v ∧ Rows.feedRoundTripsSpec.post enc Try.prog Try.f7 false true false false W args v W' := by
  have hW' := hW
  obtain ⟨p, q, hA0, hV, rfl, hfz, hnd⟩ := hW
  have hA : DataW.TrodAll enc Try.prog W 0 (fun _ => true) true Try.f7.params.toList args.toList ds p := hA0
  rw [Try.params7] at hA hval hsz
  obtain ⟨v0, vs0, d0, ds0, p0, q0, hargs, rfl, rfl, h0, r0⟩ := trodAll_cons hA
  obtain ⟨v1, vs1, d1, ds1, p1, q1, rfl, rfl, rfl, h1, r1⟩ := trodAll_cons r0
  obtain ⟨rfl, rfl, rfl⟩ := trodAll_nil r1
  obtain rfl : args = #[v0, v1] := by cases args; simp_all
  obtain ⟨rfl, rfl⟩ := trodVars_none hV
  clear hA0
  obtain ⟨vN0, vR0, N0, R0, rfl, hN0, hs0, hR0, hw0⟩ := open_capture (hval 0 25 v0 rfl rfl) h0
  have z0 := hw0 (reach_at (j := 0) hsz rfl rfl)
  obtain ⟨l1, T1⟩ := open_nums (hval 1 35 v1 rfl rfl) h1
  refine (law_round N0 R0 l1 vN0 vR0 v1 W hN0 hs0 hR0 T1 z0.1 z0.2).mono fun e W' ⟨he, hw⟩ => ?_
  subst he
  exact ⟨_, rfl, law_post hW' rfl rfl (by kernel_rfl) rfl hw⟩

set_option maxRecDepth 100000 in
theorem feedRoundTrips_lifted (os : Os) (started : os.Started) (H : Type) (enc : TypeId × Value → H) :
    ReturnsInHanded {} Try.checked os 7 .any (Rows.feedRoundTripsSpec.pre6 enc Try.prog Try.f7 Rows.feedRoundTripsRow.domain false) (Rows.feedRoundTripsSpec.post enc Try.prog Try.f7 false true false false) := by
  refine returnsInHanded_of_change_sized (C := Try.checked) own started (by kernel_rfl) Try.func7
    (ChangeSpec.witness6 (enc := enc) (C := Try.checked) false ⟨#[], #[.agg #[.slice none 0 0, .slice none 0 0], .slice none 0 0], []⟩ 8 (by kernel_rfl) (by kernel_rfl) (by kernel_rfl) (by kernel_rfl)) ?_
  intro W base args ds gs before hval hW _ hsz _
  exact feedRoundTrips_contract H enc W base args ds gs before hval hW hsz

/-- The runs of all levels of a valid capture are its runs, however its events are split and joined again (P14.5; at most 200 runs and 200 ticks). -/
theorem feedRoundTrips_holds : Rows.FeedRoundTripsSaid :=
  OpenClaim.holds_of_wide 7 Try.f7 rfl rfl rfl rfl rfl rfl rfl ⟨rfl, rfl, rfl, rfl, rfl⟩ rfl rfl rfl rfl rfl (by kernel_rfl) Try.func7 (by kernel_rfl)
    (of_decide_eq_true (by kernel_rfl)) (by unfold Func.isWrapper; first | (rw [if_pos (by decide +kernel)]; kernel_rfl) | (rw [if_neg (by decide +kernel)]; exact ⟨rfl, rfl⟩))
    (fun os started H enc _ => feedRoundTrips_lifted os started H enc)

end Go.Proofs.Ytcodoakfomddfaa
