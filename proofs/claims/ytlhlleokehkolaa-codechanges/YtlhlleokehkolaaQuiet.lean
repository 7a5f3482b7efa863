/-
  Worlds that have only drawn.
-/
import Derived.Test.YtlhlleokehkolaaMem
import Derived.Deep.QuietTactic
import Derived.BigQuiet
namespace Go.Proofs.Ytlhlleokehkolaa
open Go.RowKit
theorem below_drewN2 {B : Nat} {a w : World} (h : Below B a w) (n : Nat) : Below B a (w.drewN n) := ⟨h.os, h.tape, h.output, h.size, h.block⟩
end Go.Proofs.Ytlhlleokehkolaa
