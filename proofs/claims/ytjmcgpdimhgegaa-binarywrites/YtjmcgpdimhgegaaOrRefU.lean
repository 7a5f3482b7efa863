/-
  (shaken)
-/
import Derived.Test.YtjmcgpdimhgegaaOrRefT
namespace Go.Proofs.Ytjmcgpdimhgegaa
open Go.RowKit Go.Sort Go.Shelf
set_option linter.unusedSimpArgs false
set_option linter.unusedVariables false
set_option maxRecDepth 100000

end Go.Proofs.Ytjmcgpdimhgegaa
