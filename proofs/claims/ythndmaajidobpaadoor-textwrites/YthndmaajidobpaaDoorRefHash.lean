/-
  (shaken)
-/
import Derived.Test.YthndmaajidobpaaDoorHash
namespace Go.Proofs.YthndmaajidobpaaDoor
open Go.RowKit
set_option linter.unusedSimpArgs false
set_option linter.unusedVariables false

end Go.Proofs.YthndmaajidobpaaDoor
