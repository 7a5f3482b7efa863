/-
  (shaken)
-/
import Derived.Test.YtldnkminhppngaaDoorOrRefU
import Derived.Test.YtldnkminhppngaaDoorGb
namespace Go.Proofs.YtldnkminhppngaaDoor
open Go.RowKit Go.Sort Go.Shelf
set_option linter.unusedSimpArgs false
set_option linter.unusedVariables false
set_option maxRecDepth 100000

def Cm.cl (c : Cm) (v : Value) : List Value := [.int .u8 c.kind, .int .i64 c.tenant, v, .string c.value, .int .u32 c.flags, .int .i64 c.life, .int .u64 c.unique, .int .u64 c.by_]
/-- Piece on its way: its argument's box, its answer's, and that of the part, whose keys it made -/
structure Pst (w wr : World) (X Z : List Value) (F : Value → List Value) (v : Value) (ks : List ByteArray) : Prop where
  b0 : GBx wr w.heap.size X
  b1 : GBx wr (w.heap.size + 1) Z
  b2 : GBx wr (w.heap.size + 2) (F v)
  own : GOwn ES wr (w.heap.size + 3) v ks
  bel : RowKit.Below w.heap.size w wr
theorem Pst.below {w wr wr' : World} {X Z : List Value} {F : Value → List Value} {v : Value} {ks : List ByteArray} (h : Pst w wr X Z F v ks) (hb : RowKit.Below wr.heap.size wr wr') : Pst w wr' X Z F v ks :=
  ⟨h.b0.below hb, h.b1.below hb, h.b2.below hb, h.own.below hb, g_on h.bel hb⟩
theorem Pst.size {w wr : World} {X Z : List Value} {F : Value → List Value} {v : Value} {ks : List ByteArray} (h : Pst w wr X Z F v ks) : w.heap.size + 3 ≤ wr.heap.size := h.b2.lt
end Go.Proofs.YtldnkminhppngaaDoor
