/-
  The exclusive or of the CRCs of three sequences of one length (at most 200 bits), by any valid description, is the CRC of their exclusive or (P4.6).
  It is proved of the tied card of the row, for the program as it was translated from the claim's commit; the table that the row lists (check's named descriptions) is tied to the program's text by the given tie.
-/
import Derived.Test.YtljbhbpddokelaaDoorP0
import Derived.Test.YtljbhbpddokelaaDoorCards
import Derived.Test.YtljbhbpddokelaaDoorL7
namespace Go.Proofs.YtljbhbpddokelaaDoor
open Go Go.ChangeShapes Go.WideShapes Go.ChangeAt Go.RowKit Go.WideMaps Go.WideElems
open Go.ChangeMaps (open_string)
set_option linter.unusedVariables false

set_option maxRecDepth 100000 in
theorem checkLinear_contract (H : Type) (enc : TypeId × Value → H) (W : World) (base : Nat) (args : Array Value) (ds gs : List (DataW H)) (before : List MemPlace) (hE : Env W)
    (hval : ∀ (j : Nat) t v, Tryd.f9.params[j]? = some t → args[j]? = some v → Value.okWide Tryd.prog W .any base t v)
    (hW : DataW.Whole enc Tryd.prog Tryd.f9.params.toList Rows.checkLinearSpec.vars false W args.toList ds gs before)
    (hsz : (DataW.weightsEach Tryd.prog (Tryd.f9.params.toList ++ Rows.checkLinearSpec.plain.varTypes Tryd.prog) (ds ++ gs)).all (· ≤ reachBytes) = true) :
    Calls Tryd.prog 9 args W fun e W' => ∃ v, e = .returned v ∧ Rows.checkLinearSpec.post enc Tryd.prog Tryd.f9 false true false false W args v W' := by
  have hW' := hW
  obtain ⟨p, q, hA0, hV, rfl, hfz, hnd⟩ := hW
  have hA : DataW.TrodAll enc Tryd.prog W 0 (fun _ => true) true Tryd.f9.params.toList args.toList ds p := hA0
  rw [Tryd.params9] at hA hval hsz
  obtain ⟨v0, vs0, d0, ds0, p0, q0, hargs, rfl, rfl, h0, r0⟩ := trodAll_cons hA
  obtain ⟨v1, vs1, d1, ds1, p1, q1, rfl, rfl, rfl, h1, r1⟩ := trodAll_cons r0
  obtain ⟨rfl, rfl, rfl⟩ := trodAll_nil r1
  obtain rfl : args = #[v0, v1] := by cases args; simp_all
  obtain ⟨rfl, rfl⟩ := trodVars_none hV
  clear hA0
  obtain ⟨y0, k0, j0, x0, R0, rfl⟩ := open_crc (hval 0 23 v0 rfl rfl) h0
  obtain ⟨r1, s1, t1, rfl, zr1, zs1, zt1⟩ := open_three (hval 1 42 v1 rfl rfl) h1
  have fin : ∀ (e : Ending) (W' : World), (e = .returned (.bool true) ∧ Below W.heap.size W W') → ∃ v, e = .returned v ∧ Rows.checkLinearSpec.post enc Tryd.prog Tryd.f9 false true false false W _ v W' := fun e W' ⟨he, hw⟩ => by
    subst he
    exact ⟨_, rfl, law_post hW' rfl rfl (by kernel_rfl) rfl hw⟩
  exact (law_linear y0 k0 j0 x0 R0 r1 s1 t1 W hE zr1 zs1 zt1).mono fin

set_option maxRecDepth 100000 in
theorem checkLinear_lifted (os : Os) (started : os.Started) (H : Type) (enc : TypeId × Value → H) :
    ReturnsInHanded {} Tryd.checked os 9 .any (fun w args => (Rows.checkLinearSpec.pre enc Tryd.prog Tryd.f9 [] false w args ∧ laidMetH Tryd.prog listed w) ∧ sizedMet enc Tryd.prog Tryd.f9 (OpenSpec.ofChange Rows.checkLinearSpec) false w args)
      (Rows.checkLinearSpec.post enc Tryd.prog Tryd.f9 false true false false) := by
  refine handed_listed (C := Tryd.checked) (X := fun w => laidMetH Tryd.prog listed w) (fun _ _ hh h => h.of_heap hh) own started (by kernel_rfl) Tryd.func9
    (ChangeSpec.witness_shaped (enc := enc) (C := Tryd.checked) (os := os) (X := fun w _ => laidMetH Tryd.prog listed w) false (World.doorLaid Tryd.prog 400 os) #[.agg #[.int .i64 0, .int .i64 0, .int .i64 0, .int .i64 0, .bool false], .agg #[.string ⟨#[]⟩, .string ⟨#[]⟩, .string ⟨#[]⟩]] 8 rfl (World.shaped_of_RefB (by kernel_rfl) (by kernel_rfl)) (by kernel_rfl) (by kernel_rfl) (by kernel_rfl) (door_met os _)) ?_
  intro W base args ds gs before hval hW hsz hL hsh
  exact checkLinear_contract H enc W base args ds gs before (env_of hL) hval hW hsz

theorem checkLinear_row : Rows.CheckLinearSaid :=
  OpenClaim.holds_of_wide 9 Tryd.f9 rfl rfl rfl rfl rfl rfl rfl ⟨rfl, rfl, rfl, rfl, rfl⟩ rfl rfl rfl rfl rfl (by kernel_rfl) Tryd.func9 (by kernel_rfl)
    (of_decide_eq_true (by kernel_rfl)) (by unfold Func.isWrapper; first | (rw [if_pos (by decide +kernel)]; kernel_rfl) | (rw [if_neg (by decide +kernel)]; exact ⟨rfl, rfl⟩))
    (fun os started H enc _ => checkLinear_lifted os started H enc)

/-- The exclusive or of the CRCs of three sequences of one length (at most 200 bits), by any valid description, is the CRC of their exclusive or (P4.6). -/
theorem checkLinear_card : Rows.CheckLinearCardSaid :=
  Claim7.holds_tied_plain_at .later [] [.data] true (true, "f225dfe4eb94f781ff97b48ee2a6f2227729bcd89fe2e9ab1a76c3cd87cbd1fa") false
    checkLinear_row (fun _ h => by cases h) (by kernel_rfl) (fun _ h => by cases h) checkLinear_row_tie rfl ⟨rfl, rfl⟩ (by kernel_rfl) rfl
    (fun f fn hf hfn => by
      obtain rfl : f = 9 := Option.some.inj ((show Tryd.prog.funcNamed "signalbench/signalbenchlaw04.CheckLinear" = some 9 by kernel_rfl).symm.trans hf) |>.symm
      obtain rfl : fn = Tryd.f9 := (Option.some.inj (Tryd.func9.symm.trans hfn)).symm
      exact ⟨by kernel_rfl, fun j t ht => by
        rw [Tryd.params9] at ht
        have hm : t ∈ [23, 42] := by simpa using Array.mem_of_getElem? ht
        have hall : ([23, 42].all fun u => !Tryd.prog.wantsStandIn u) = true := by kernel_rfl
        exact (show Tryd.prog.wantsStandIn t = false by simpa using List.all_eq_true.1 hall t hm)⟩)
    (by kernel_rfl)

end Go.Proofs.YtljbhbpddokelaaDoor
