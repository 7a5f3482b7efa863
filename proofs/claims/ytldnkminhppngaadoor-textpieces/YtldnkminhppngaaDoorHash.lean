/-
  (shaken)
-/
import Derived.Test.YtldnkminhppngaaDoorPure
namespace Go.Proofs.YtldnkminhppngaaDoor
open Go.RowKit
set_option linter.unusedSimpArgs false
set_option linter.unusedVariables false

end Go.Proofs.YtldnkminhppngaaDoor
