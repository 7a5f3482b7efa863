/-
  (shaken)
-/
import Derived.Test.YtfjcaofmcjhdpaaItPure
import Derived.Test.YtfjcaofmcjhdpaaItFn
import Derived.Laws.RangeAny
import Derived.LoopTactic
namespace Go.Proofs.Ytfjcaofmcjhdpaa.It
open Go.RowKit
set_option linter.unusedSimpArgs false
set_option linter.unusedVariables false
set_option maxRecDepth 100000

/-- a string's bytes -/
def bl (s : ByteArray) : List UInt8 := s.data.toList
theorem bl_len (s : ByteArray) : (bl s).length = s.size := Array.length_toList
theorem bl_inj {s t : ByteArray} (h : bl s = bl t) : s = t := by
  cases s; cases t
  simp [bl] at h
  rw [h]
end Go.Proofs.Ytfjcaofmcjhdpaa.It
