/-
  The walk of the specification's name; lists of names: Index, Contains, place, checkNames, names.
-/
import Derived.Test.YtillcmddbjhepaaW1
import Derived.Test.YtillcmddbjhepaaK2
namespace Go.Proofs.Ytillcmddbjhepaa
open Go Go.RowKit Go.Joins
set_option linter.unusedVariables false
set_option linter.unusedSimpArgs false

theorem int_lt_f {a b : Nat} (h : ¬ a < b) : decide ((a : Int) < (b : Int)) = false := decide_eq_false (by omega)

end Go.Proofs.Ytillcmddbjhepaa
