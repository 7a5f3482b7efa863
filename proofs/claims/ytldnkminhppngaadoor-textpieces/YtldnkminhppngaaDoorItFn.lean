/-
  (shaken)
-/
import Derived.Test.YtldnkminhppngaaDoorRows
import Derived.WalkKit
import Derived.ProofKit
import Derived.Lib.Hide
import Derived.BigCall
import Derived.BigGuard
import Derived.BigQuiet
import Derived.Laws.Runes
import Derived.Laws.RangeString
namespace Go.Proofs.YtldnkminhppngaaDoor.It
open Go.RowKit
set_option linter.unusedSimpArgs false
set_option linter.unusedVariables false
set_option maxRecDepth 100000

theorem Hid.mk2 {p : Prop} (h : p) : Hid p := h

/-- an item -/
structure It where
  key : ByteArray
  value : ByteArray
  flags : Int
  till : Int
  unique : Int
def It.v (x : It) : Value := .agg #[.string x.key, .string x.value, .int .u32 x.flags, .int .i64 x.till, .int .u64 x.unique]
end Go.Proofs.YtldnkminhppngaaDoor.It
