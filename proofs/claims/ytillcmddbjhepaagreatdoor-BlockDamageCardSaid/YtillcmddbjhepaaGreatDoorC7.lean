/-
  If a bit of a block is inverted, the stored form is not decoded, and the levels of that block cannot be read; those of all other blocks are the same as before (P10.8).
  It is proved of the tied card of the row, for the program as it was translated from the claim's commit; the table that the row lists (check's named descriptions) is tied to the program's text by the given tie.
-/
import Derived.Test.YtillcmddbjhepaaGreatDoorZ20
import Derived.Test.YtillcmddbjhepaaGreatDoorCards
import Derived.Test.YtillcmddbjhepaaGreatDoorZ41
namespace Go.Proofs.YtillcmddbjhepaaGreatDoor
open Go Go.ChangeShapes Go.WideShapes Go.ChangeAt Go.RowKit Go.WideMaps Go.WideElems
open Go.ChangeMaps (open_string)
set_option linter.unusedVariables false

set_option maxRecDepth 100000 in
theorem blockDamage_contract (H : Type) (enc : TypeId × Value → H) (W : World) (base : Nat) (args : Array Value) (ds gs : List (DataW H)) (before : List MemPlace) (hE : Sd.Env W)
    (hval : ∀ (j : Nat) t v, Tryz.f6.params[j]? = some t → args[j]? = some v → Value.okWide Tryz.prog W .any base t v)
    (hW : DataW.Whole enc Tryz.prog Tryz.f6.params.toList Rows.blockDamageSpec.vars false W args.toList ds gs before)
    (hsz : (DataW.weightsEach Tryz.prog (Tryz.f6.params.toList ++ Rows.blockDamageSpec.plain.varTypes Tryz.prog) (ds ++ gs)).all (· ≤ reachBytes) = true) :
    Calls Tryz.prog 6 args W fun e W' => ∃ v, e = .returned v ∧ Rows.blockDamageSpec.post enc Tryz.prog Tryz.f6 false true false false W args v W' := by
  have hW' := hW
  obtain ⟨p, q, hA0, hV, rfl, hfz, hnd⟩ := hW
  have hA : DataW.TrodAll enc Tryz.prog W 0 (fun _ => true) true Tryz.f6.params.toList args.toList ds p := hA0
  rw [Tryz.params6] at hA hval hsz
  obtain ⟨v0, vs0, d0, ds0, p0, q0, hargs, rfl, rfl, h0, r0⟩ := trodAll_cons hA
  obtain ⟨v1, vs1, d1, ds1, p1, q1, rfl, rfl, rfl, h1, r1⟩ := trodAll_cons r0
  obtain ⟨rfl, rfl, rfl⟩ := trodAll_nil r1
  obtain rfl : args = #[v0, v1] := by cases args; simp_all
  obtain ⟨rfl, rfl⟩ := trodVars_none hV
  clear hA0
  obtain ⟨vN0, vR0, N0, R0, rfl, hN0, hs0, hR0⟩ := open_capture (hval 0 25 v0 rfl rfl) h0
  obtain ⟨x1, y1, t1, rfl, bx1, bz1, bt1⟩ := open_three (hval 1 43 v1 rfl rfl) h1
  have fin : ∀ (e : Ending) (W' : World), (e = .returned (.bool true) ∧ Below W.heap.size W W') → ∃ v, e = .returned v ∧ Rows.blockDamageSpec.post enc Tryz.prog Tryz.f6 false true false false W _ v W' := fun e W' ⟨he, hw⟩ => by
    subst he
    exact ⟨_, rfl, law_post hW' rfl rfl (by kernel_rfl) rfl hw⟩
  exact (law_damage N0 R0 vN0 vR0 x1 y1 t1 W hE hN0 hs0 hR0).mono fin

set_option maxRecDepth 100000 in
theorem blockDamage_lifted (os : Os) (started : os.Started) (H : Type) (enc : TypeId × Value → H) :
    ReturnsInHanded {} Tryz.checked os 6 .any (fun w args => (Rows.blockDamageSpec.pre enc Tryz.prog Tryz.f6 [] false w args ∧ laidMetH Tryz.prog listed w) ∧ sizedMet enc Tryz.prog Tryz.f6 (OpenSpec.ofChange Rows.blockDamageSpec) false w args)
      (Rows.blockDamageSpec.post enc Tryz.prog Tryz.f6 false true false false) := by
  refine handed_listed (C := Tryz.checked) (X := fun w => laidMetH Tryz.prog listed w) (fun _ _ hh h => h.of_heap hh) own started (by kernel_rfl) Tryz.func6
    (ChangeSpec.witness_shaped (enc := enc) (C := Tryz.checked) (os := os) (X := fun w _ => laidMetH Tryz.prog listed w) false (World.doorLaid Tryz.prog 400 os) #[.agg #[.slice none 0 0, .slice none 0 0], .agg #[.int .i64 0, .int .i64 0, .int .i64 0]] 8 rfl (World.shaped_of_RefB (by kernel_rfl) (by kernel_rfl)) (by kernel_rfl) (by kernel_rfl) (by kernel_rfl) (door_met os _)) ?_
  intro W base args ds gs before hval hW hsz hL hsh
  exact blockDamage_contract H enc W base args ds gs before (env_of hL) hval hW hsz

theorem blockDamage_row : Rows.BlockDamageSaid :=
  OpenClaim.holds_of_wide 6 Tryz.f6 rfl rfl rfl rfl rfl rfl rfl ⟨rfl, rfl, rfl, rfl, rfl⟩ rfl rfl rfl rfl rfl (by kernel_rfl) Tryz.func6 (by kernel_rfl)
    (of_decide_eq_true (by kernel_rfl)) (by unfold Func.isWrapper; first | (rw [if_pos (by decide +kernel)]; kernel_rfl) | (rw [if_neg (by decide +kernel)]; exact ⟨rfl, rfl⟩))
    (fun os started H enc _ => blockDamage_lifted os started H enc)

/-- If a bit of a block is inverted, the stored form is not decoded, and the levels of that block cannot be read; those of all other blocks are the same as before (P10.8). -/
theorem blockDamage_card : Rows.BlockDamageCardSaid :=
  Claim7.holds_tied_plain_at .later [] [.data] true (true, "92bc45e9ea728922a35cc304cbaeaf6e32cc10f77502deda9b6192836b0a235f") false
    blockDamage_row (fun _ h => by cases h) (by kernel_rfl) (fun _ h => by cases h) blockDamage_row_tie rfl ⟨rfl, rfl⟩ (by kernel_rfl) rfl
    (fun f fn hf hfn => by
      obtain rfl : f = 6 := Option.some.inj ((show Tryz.prog.funcNamed "signalbench/signalbenchlaw10.BlockDamage" = some 6 by kernel_rfl).symm.trans hf) |>.symm
      obtain rfl : fn = Tryz.f6 := (Option.some.inj (Tryz.func6.symm.trans hfn)).symm
      exact ⟨by kernel_rfl, fun j t ht => by
        rw [Tryz.params6] at ht
        have hm : t ∈ [25, 43] := by simpa using Array.mem_of_getElem? ht
        have hall : ([25, 43].all fun u => !Tryz.prog.wantsStandIn u) = true := by kernel_rfl
        exact (show Tryz.prog.wantsStandIn t = false by simpa using List.all_eq_true.1 hall t hm)⟩)
    (by kernel_rfl)

end Go.Proofs.YtillcmddbjhepaaGreatDoor
