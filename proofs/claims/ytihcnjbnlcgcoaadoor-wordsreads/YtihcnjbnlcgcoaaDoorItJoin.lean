/-
  (shaken)
-/
import Derived.Test.YtihcnjbnlcgcoaaDoorItNum
import Derived.Test.YtihcnjbnlcgcoaaDoorItLay
namespace Go.Proofs.YtihcnjbnlcgcoaaDoor.It
open Go.RowKit Go.Shelf Go.Lib Go.Sort
set_option linter.unusedSimpArgs false
set_option linter.unusedVariables false
set_option maxRecDepth 100000

end Go.Proofs.YtihcnjbnlcgcoaaDoor.It
