/-
  (shaken)
-/
import Derived.Test.YtldnkminhppngaaGreatDoorOrC
import Derived.LoopTactic
namespace Go.Proofs.YtldnkminhppngaaGreatDoor
open Go.RowKit
set_option linter.unusedSimpArgs false
set_option linter.unusedVariables false
set_option maxRecDepth 100000

end Go.Proofs.YtldnkminhppngaaGreatDoor
