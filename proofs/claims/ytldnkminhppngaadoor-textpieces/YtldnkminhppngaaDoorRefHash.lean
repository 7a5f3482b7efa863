/-
  (shaken)
-/
import Derived.Test.YtldnkminhppngaaDoorHash
namespace Go.Proofs.YtldnkminhppngaaDoor
open Go.RowKit
set_option linter.unusedSimpArgs false
set_option linter.unusedVariables false

end Go.Proofs.YtldnkminhppngaaDoor
