/-
  (shaken)
-/
import Derived.Test.YtjmcgpdimhgegaaMem
import Derived.Deep.QuietTactic
import Derived.BigQuiet
namespace Go.Proofs.Ytjmcgpdimhgegaa
open Go.RowKit
end Go.Proofs.Ytjmcgpdimhgegaa
