/-
  (shaken)
-/
import Derived.Test.YtldnkminhppngaaGreatDoorPure
namespace Go.Proofs.YtldnkminhppngaaGreatDoor
open Go.RowKit
set_option linter.unusedSimpArgs false
set_option linter.unusedVariables false

end Go.Proofs.YtldnkminhppngaaGreatDoor
