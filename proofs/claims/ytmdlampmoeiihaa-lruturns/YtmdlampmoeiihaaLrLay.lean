/-
  The library's functions that package lru calls, laid at this program.
-/
import Derived.Test.YtmdlampmoeiihaaLrMem
import Derived.Shelf.Lay
import Derived.Shelf.Spec.SlicesInsert
import Derived.Shelf.Spec.SlicesInsertGrow
import Derived.Shelf.SortM.Plain
import Derived.Shelf.SortM.SortNone
import Derived.Shelf.SlicesE.Clone
import Derived.Shelf.SlicesE.Delete
import Derived.Shelf.SlicesE.Compact
import Derived.Shelf.SlicesE.Reverse
import Derived.Shelf.SlicesE.IndexFunc
import Derived.Shelf.Spec.SlicesGrow
import Derived.Ground.SlgnProg
import Derived.Ground.Names8Prog
import Derived.Ground.SlgmProg
import Derived.Ground.SlgfProg
import Derived.Ground.Names2Prog
namespace Go.Proofs
open Go.Shelf Go.RowKit Go.Lib Go.Sort
shelf_lay_g SlLaysE0.n41 Slgn 41 at Try 54 as Try.layClone
shelf_lay_g SlLaysE.n45 Slgn 45 at Try 51 as Try.layDelete
shelf_lay_g SlLaysE.n43 Slgn 43 at Try 57 as Try.layCompact
shelf_lay_g SlLaysE.n35 Slgn 35 at Try 31 as Try.layReverse
shelf_lay_g SlLaysH.n8 Slgf 8 at Try 40 as Try.layContains
shelf_lay_g SlLaysM.n6 Slgm 6 at Try 56 as Try.laySort
shelf_lay_g Lays8.n4 Nm8 4 at Try 50 as Try.layGrow
shelf_lay Lays2.n22 Nm2 22 at Try as Try.layInsert
end Go.Proofs
