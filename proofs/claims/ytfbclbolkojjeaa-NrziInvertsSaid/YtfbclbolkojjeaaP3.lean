/-
  A string that came in is no longer than the reach.
-/
import Derived.Test.YtfbclbolkojjeaaG0
import Derived.SizedLaws
import Derived.ChangeMaps5
namespace Go.Proofs.Ytfbclbolkojjeaa
open Go Go.ChangeShapes Go.WideShapes Go.ChangeAt Go.RowKit
set_option linter.unusedVariables false

theorem string_reach {H : Type} {s : ByteArray} {ts : List TypeId} {ds : List (DataW H)} {j : Nat} {t : TypeId} (hw : (DataW.weightsEach Try.prog ts ds).all (· ≤ reachBytes) = true) (ht : ts[j]? = some t) (hd : ds[j]? = some (.lit (.string s.data.toList))) : s.size ≤ 140737488351232 := by
  have := sized_string hw ht hd
  have e : reachBytes = 140737488351232 := rfl
  rw [size_len]
  omega
end Go.Proofs.Ytfbclbolkojjeaa
