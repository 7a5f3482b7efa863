/-
  (shaken)
-/
import Derived.Test.YtldnkminhppngaaGreatDoorOrRefS
import Derived.Test.YtldnkminhppngaaGreatDoorOrLa
namespace Go.Proofs.YtldnkminhppngaaGreatDoor
open Go.RowKit Go.Sort Go.Shelf
set_option linter.unusedSimpArgs false
set_option linter.unusedVariables false
set_option maxRecDepth 100000

end Go.Proofs.YtldnkminhppngaaGreatDoor
