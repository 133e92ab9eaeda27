/-
  The walks of Make, of package ratio and of its specification.
-/
import Derived.Test.YtfbclbolkojjeaaSrW2
namespace Go.Proofs.Ytfbclbolkojjeaa
namespace Sr
open Go.RowKit

theorem rets {e1 e2 n1 n2 d1 d2 : Int} (h1 : n1 = n2) (h2 : d1 = d2) (h3 : e1 = e2) : Ending.returned (.tuple #[.agg #[.int .i64 n1, .int .i64 d1], .int .i64 e1]) = .returned (.tuple #[.agg #[.int .i64 n2, .int .i64 d2], .int .i64 e2]) := by rw [h1, h2, h3]

end Sr
end Go.Proofs.Ytfbclbolkojjeaa
