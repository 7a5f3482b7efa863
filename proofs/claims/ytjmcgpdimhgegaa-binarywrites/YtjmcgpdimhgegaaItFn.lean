/-
  (shaken)
-/
import Derived.Test.YtjmcgpdimhgegaaRows
import Derived.WalkKit
import Derived.ProofKit
import Derived.Lib.Hide
import Derived.BigCall
import Derived.BigGuard
import Derived.BigQuiet
import Derived.Laws.Runes
import Derived.Laws.RangeString
namespace Go.Proofs.Ytjmcgpdimhgegaa.It
open Go.RowKit
set_option linter.unusedSimpArgs false
set_option linter.unusedVariables false
set_option maxRecDepth 100000

/-- an item -/
structure It where
  key : ByteArray
  value : ByteArray
  flags : Int
  till : Int
  unique : Int
def It.v (x : It) : Value := .agg #[.string x.key, .string x.value, .int .u32 x.flags, .int .i64 x.till, .int .u64 x.unique]
end Go.Proofs.Ytjmcgpdimhgegaa.It
