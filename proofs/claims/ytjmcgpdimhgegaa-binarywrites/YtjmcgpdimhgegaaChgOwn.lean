/-
  (shaken)
-/
import Derived.Test.YtjmcgpdimhgegaaChg
namespace Go.Proofs.Ytjmcgpdimhgegaa
open Go.RowKit
set_option linter.unusedSimpArgs false
set_option linter.unusedVariables false
set_option maxRecDepth 100000

end Go.Proofs.Ytjmcgpdimhgegaa
