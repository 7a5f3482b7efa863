/-
  (shaken)
-/
import Derived.Test.YtfmpbddhejpjaaaDoorItNum
import Derived.Test.YtfmpbddhejpjaaaDoorItLay
namespace Go.Proofs.YtfmpbddhejpjaaaDoor.It
open Go.RowKit Go.Shelf Go.Lib Go.Sort
set_option linter.unusedSimpArgs false
set_option linter.unusedVariables false
set_option maxRecDepth 100000

end Go.Proofs.YtfmpbddhejpjaaaDoor.It
