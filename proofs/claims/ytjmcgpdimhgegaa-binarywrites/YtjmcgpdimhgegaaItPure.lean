/-
  (shaken)
-/
import Derived.Test.YtjmcgpdimhgegaaRows
import Derived.WalkKit
import Derived.ProofKit
namespace Go.Proofs.Ytjmcgpdimhgegaa.It
open Go.RowKit
set_option linter.unusedSimpArgs false
set_option linter.unusedVariables false

/-- a digit's byte -/
def dig (d : Nat) : UInt8 := UInt8.ofNat (48 + d)
/-- a number's digits -/
def decL (n : Nat) : List UInt8 := if h : n < 10 then [dig n] else decL (n / 10) ++ [dig (n % 10)]
termination_by n
decreasing_by omega
end Go.Proofs.Ytjmcgpdimhgegaa.It
