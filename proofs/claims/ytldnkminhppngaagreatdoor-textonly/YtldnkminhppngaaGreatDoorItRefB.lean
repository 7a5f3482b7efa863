/-
  (shaken)
-/
import Derived.Test.YtldnkminhppngaaGreatDoorItCount
import Derived.Test.YtldnkminhppngaaGreatDoorItJoin
import Derived.Deep.Cut
namespace Go.Proofs.YtldnkminhppngaaGreatDoor.It
open Go.RowKit Go.Shelf Go.Lib Go.Sort
set_option linter.unusedSimpArgs false
set_option linter.unusedVariables false
set_option maxRecDepth 100000

end Go.Proofs.YtldnkminhppngaaGreatDoor.It
