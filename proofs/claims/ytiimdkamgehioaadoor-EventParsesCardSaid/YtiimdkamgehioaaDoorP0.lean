/-
  What the proofs of the door's statements share: from the row's premises to the walks', events among the arguments.
-/
import Derived.Test.YtiimdkamgehioaaDoorG0
import Derived.Test.YtiimdkamgehioaaDoorQ0
import Derived.Test.YtiimdkamgehioaaDoorP1
import Derived.Test.YtiimdkamgehioaaDoorA17
import Derived.Test.YtiimdkamgehioaaDoorTie
import Derived.SizedLaws
import Derived.ChangeMaps5
import Derived.Stop.LaidErr
import Derived.LaidMore
import Derived.Lay
namespace Go.Proofs.YtiimdkamgehioaaDoor
open Go Go.ChangeShapes Go.WideShapes Go.ChangeAt Go.RowKit
set_option linter.unusedVariables false

/-- The listed variables, as every row of this seat lists them. -/
def listed : List (String × DataW Unit) := [("math/bits.deBruijn32tab", Rows.laid_math_bits_deBruijn32tab), ("math/bits.deBruijn64tab", Rows.laid_math_bits_deBruijn64tab), ("internal/strconv.uint64pow10", Rows.laid_internal_strconv_uint64pow10), ("unicode/utf8.acceptRanges", Rows.laid_unicode_utf8_acceptRanges), ("signalbench/event.kindNames", Rows.laid_signalbench_event_kindNames), ("unicode/utf8.first", Rows.laid_unicode_utf8_first)]
set_option maxRecDepth 100000 in
/-- The door's own heap meets the condition. -/
theorem door_met (os : Os) (args : Array Value) : laidMetH Tryd.prog listed ((World.laidAll Tryd.prog os listed).forCall (fun _ _ => 0) ⟨#[], args, []⟩).memory := by
  rw [MakeChecks.laidMetH_plain _ _ _ (by kernel_rfl)]
  exact laidMet_laidAll _ (by kernel_rfl) (by kernel_rfl)
set_option maxRecDepth 100000 in
theorem env_of {W : World} (h : laidMetH Tryd.prog listed W) (hs : W.ShapedOpen Tryd.prog) : Env W := by
  obtain ⟨m, hm⟩ := Tryd.laysM147.s1_3 W hs
  rw [MakeChecks.laidMetH_plain _ _ _ (by kernel_rfl)] at h
  have hp : Pow W := Lib.tabIs_of_head (t := 131) (e := 109) (n := 20) gPow (by kernel_rfl) (by kernel_rfl) (by kernel_rfl) (by kernel_rfl) (by kernel_rfl) (laidMet.tail (laidMet.tail h))
  have hc := hp.cell gPow 0 (by decide)
  have ht : TabHas Tryd.prog W "signalbench/event.kindNames" nmT := tabHas_of_head (f := 8) (t := 49) gNames (by kernel_rfl) (by kernel_rfl) (laidMet.tail (laidMet.tail (laidMet.tail (laidMet.tail h))))
  have hn := ht.cell gNames 0
  exact ⟨⟨hp, World.block_lt_of_cell? W _ hc⟩, ⟨ht, World.block_lt_of_cell? W _ (u := .string ⟨#[108, 101, 118, 101, 108]⟩) hn⟩, ⟨m, hm⟩, World.block_lt_of_cell? W _ hm⟩

end Go.Proofs.YtiimdkamgehioaaDoor
