/-
  (shaken)
-/
import Derived.Test.YtjmcgpdimhgegaaChgOk
import Derived.Test.YtjmcgpdimhgegaaAddItem
namespace Go.Proofs.Ytjmcgpdimhgegaa
open Go.RowKit
set_option linter.unusedSimpArgs false
set_option linter.unusedVariables false
set_option maxRecDepth 100000

section
variable {w : World} {ops : Array Oper} {o : Oper} {a : Act} {K : Act → World → Prop} {Q : Exit → Act → World → Prop} {E : Prop}
end
/-- what any change's fields fit -/
structure Chg.Good (c : Chg) : Prop where
  flags : c.item.flags ≤ 4294967295
  unique : Fits c.item.unique

end Go.Proofs.Ytjmcgpdimhgegaa
