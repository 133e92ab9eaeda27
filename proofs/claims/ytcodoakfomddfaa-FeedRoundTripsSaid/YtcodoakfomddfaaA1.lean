/-
  Events as the model holds them; the walks of moderate, Valid and Core, the program's and the specification's, and of the specification's Less.
-/
import Derived.Test.YtcodoakfomddfaaE1
import Derived.Test.YtcodoakfomddfaaK1
import Derived.Deep.RegionHeld3
namespace Go.Proofs.Ytcodoakfomddfaa
open Go Go.RowKit Go.Joins
set_option linter.unusedVariables false
set_option linter.unusedSimpArgs false

abbrev evA (k f t v a : Int) (s : ByteArray) (u : Int) : Array Value := #[.int .i64 k, .int .i64 f, .int .i64 t, .int .i64 v, .int .i64 a, .string s, .int .i64 u]
def evC (e : Ev) : Array Value := #[.int .i64 e.k, .int .i64 e.f, .int .i64 e.t, .int .i64 e.v, .int .i64 e.a, .string ⟨e.d.toArray⟩, .int .i64 e.u]
def evV (e : Ev) : Value := .agg (evC e)
theorem evC_size (e : Ev) : (evC e).size = 7 := rfl
abbrev EvRow (w : World) (B : Nat) (v : Value) (l : List Ev) : Prop := KRow evC 7 48 w B v l
abbrev EvArg (w : World) (v : Value) (l : List Ev) : Prop := KArg evC 7 w v l
instance : Inhabited Ev := ⟨⟨0, 0, 0, 0, 0, [], 0⟩⟩

theorem ev_info : (Try.prog.info? 48).map (fun i => (i.zero, i.size, i.bytes)) = some (some (.agg #[.int .i64 0, .int .i64 0, .int .i64 0, .int .i64 0, .int .i64 0, .string ⟨#[]⟩, .int .i64 0]), 7, 64) := by kernel_rfl

set_option maxRecDepth 20000 in
set_option maxHeartbeats 1000000 in
theorem core_xy (k f t v a : Int) (s : ByteArray) (u : Int) (w : World) : Calls Try.prog 51 #[.agg (evA k f t v a s u)] w fun e w' => e = .returned (.agg (evA k 0 0 v a s u)) ∧ Below w.heap.size w w' ∧ w.drawn ≤ w'.drawn := by
  go_enter Try.func51, Try.ntmps51
  go_wp2
  go_returns
  exact ⟨rfl, (by repeat' (first | with_reducible exact Below.refl _ _ | with_reducible exact Nat.le_refl _ | with_reducible assumption | with_reducible refine below_drewN ?_ _ | with_reducible refine Below.drew ?_ | with_reducible refine Below.trans ?_ (Below.mono (by assumption) ?_) | with_reducible refine Below.alloc ?_ ?_ _ | with_reducible refine Below.setCell ?_ ?_ _ | with_reducible refine le_setCell ?_ _ _ | with_reducible refine le_alloc ?_ _ | with_reducible refine le_drewN ?_ _ | with_reducible refine le_drew ?_ | with_reducible refine Nat.le_trans ?_ (Below.size (by assumption)) | (simp only [World.size_alloc, World.size_setCell]; omega))), Nat.le_refl _⟩

def VeP (k f t v a : Int) (n : Nat) (u : Int) : Prop := 1 ≤ k ∧ k ≤ 8 ∧ 0 ≤ f ∧ f ≤ t ∧ t ≤ 1099511627776 ∧ n ≤ 4096 ∧ 0 ≤ u ∧ u ≤ 12 ∧
    -9007199254740992 ≤ v ∧ v ≤ 9007199254740992 ∧ -9007199254740992 ≤ a ∧ a ≤ 9007199254740992
instance (k f t v a : Int) (n : Nat) (u : Int) : Decidable (VeP k f t v a n u) := by unfold VeP; exact inferInstance

end Go.Proofs.Ytcodoakfomddfaa
