/-
  (shaken)
-/
import Derived.Test.YtldnkminhppngaaDoorOrRefT
namespace Go.Proofs.YtldnkminhppngaaDoor
open Go.RowKit Go.Sort Go.Shelf
set_option linter.unusedSimpArgs false
set_option linter.unusedVariables false
set_option maxRecDepth 100000

end Go.Proofs.YtldnkminhppngaaDoor
