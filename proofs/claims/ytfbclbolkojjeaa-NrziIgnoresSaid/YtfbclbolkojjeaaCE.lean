/-
  An event of another kind, a bit that is neither 0 nor 1, and a bit that begins before 0, make no difference (P16.2; at most 40 events).
  It is proved of the row, for the program as it was translated from the claim's commit.
-/
import Derived.Test.YtfbclbolkojjeaaNP
import Derived.Test.YtfbclbolkojjeaaL5
namespace Go.Proofs.Ytfbclbolkojjeaa
open Go Go.ChangeShapes Go.WideShapes Go.ChangeAt Go.RowKit Go.WideMaps Go.WideElems
open Go.ChangeMaps (open_string)
set_option linter.unusedVariables false

set_option maxRecDepth 100000 in
theorem nrziIgnores_contract (H : Type) (enc : TypeId × Value → H) (W : World) (base : Nat) (args : Array Value) (ds gs : List (DataW H)) (before : List MemPlace)
    (hval : ∀ (j : Nat) t v, Try.f13.params[j]? = some t → args[j]? = some v → Value.okWide Try.prog W .any base t v)
    (hW : DataW.Whole enc Try.prog Try.f13.params.toList Rows.nrziIgnoresSpec.vars false W args.toList ds gs before)
    (hsz : (DataW.weightsEach Try.prog (Try.f13.params.toList ++ Rows.nrziIgnoresSpec.plain.varTypes Try.prog) (ds ++ gs)).all (· ≤ reachBytes) = true) :
    Calls Try.prog 13 args W fun e W' => ∃ v, e = .returned v ∧ Rows.nrziIgnoresSpec.post enc Try.prog Try.f13 false true false false W args v W' := by
  have hW' := hW
  obtain ⟨p, q, hA0, hV, rfl, hfz, hnd⟩ := hW
  have hA : DataW.TrodAll enc Try.prog W 0 (fun _ => true) true Try.f13.params.toList args.toList ds p := hA0
  rw [Try.params13] at hA hval hsz
  obtain ⟨v0, vs0, d0, ds0, p0, q0, hargs, rfl, rfl, h0, r0⟩ := trodAll_cons hA
  obtain ⟨v1, vs1, d1, ds1, p1, q1, rfl, rfl, rfl, h1, r1⟩ := trodAll_cons r0
  obtain ⟨v2, vs2, d2, ds2, p2, q2, rfl, rfl, rfl, h2, r2⟩ := trodAll_cons r1
  obtain ⟨rfl, rfl, rfl⟩ := trodAll_nil r2
  obtain rfl : args = #[v0, v1, v2] := by cases args; simp_all
  obtain ⟨rfl, rfl⟩ := trodVars_none hV
  clear hA0
  obtain ⟨z0, rfl⟩ := open_nrzi (hval 0 59 v0 rfl rfl) h0
  obtain ⟨l1, T1, e1⟩ := open_evs (hval 1 36 v1 rfl rfl) h1
  have z1 := evs_reach (j := 1) e1 hsz rfl rfl
  obtain ⟨k2, f2, t2, y2, a2, s2, u2, rfl, e2⟩ := open_ev (hval 2 44 v2 rfl rfl) h2
  have z2 := ev_reach (j := 2) e2 hsz rfl rfl
  rw [show (Value.agg (evA k2 f2 t2 y2 a2 s2 u2)) = evV ⟨k2, f2, t2, y2, a2, s2.data.toList, u2⟩ from by unfold evV evC; simp only [bytes_of]]
  refine (law_ignores z0 l1 ⟨k2, f2, t2, y2, a2, s2.data.toList, u2⟩ v1 W T1 z1.2 z1.1 (by rw [← size_len]; exact z2)).mono fun e W' ⟨he, hw⟩ => ?_
  subst he
  exact ⟨_, rfl, law_post hW' rfl rfl (by kernel_rfl) rfl hw⟩

set_option maxRecDepth 100000 in
theorem nrziIgnores_lifted (os : Os) (started : os.Started) (H : Type) (enc : TypeId × Value → H) :
    ReturnsInHanded {} Try.checked os 13 .any (Rows.nrziIgnoresSpec.pre6 enc Try.prog Try.f13 Rows.nrziIgnoresRow.domain false) (Rows.nrziIgnoresSpec.post enc Try.prog Try.f13 false true false false) := by
  refine returnsInHanded_of_change_sized (C := Try.checked) own started (by kernel_rfl) Try.func13
    (ChangeSpec.witness6 (enc := enc) (C := Try.checked) false ⟨#[], #[.agg #[.bool false], .slice none 0 0, .agg #[.int .i64 0, .int .i64 0, .int .i64 0, .int .i64 0, .int .i64 0, .string ⟨#[]⟩, .int .i64 0]], []⟩ 8 (by kernel_rfl) (by kernel_rfl) (by kernel_rfl) (by kernel_rfl)) ?_
  intro W base args ds gs before hval hW _ hsz _
  exact nrziIgnores_contract H enc W base args ds gs before hval hW hsz

/-- An event of another kind, a bit that is neither 0 nor 1, and a bit that begins before 0, make no difference (P16.2; at most 40 events). -/
theorem nrziIgnores_holds : Rows.NrziIgnoresSaid :=
  OpenClaim.holds_of_wide 13 Try.f13 rfl rfl rfl rfl rfl rfl rfl ⟨rfl, rfl, rfl, rfl, rfl⟩ rfl rfl rfl rfl rfl (by kernel_rfl) Try.func13 (by kernel_rfl)
    (of_decide_eq_true (by kernel_rfl)) (by unfold Func.isWrapper; first | (rw [if_pos (by decide +kernel)]; kernel_rfl) | (rw [if_neg (by decide +kernel)]; exact ⟨rfl, rfl⟩))
    (fun os started H enc _ => nrziIgnores_lifted os started H enc)

end Go.Proofs.Ytfbclbolkojjeaa
