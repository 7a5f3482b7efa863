/-
  The library's functions that All calls, laid at this program.
-/
import Derived.Test.YtlomciinkpecpaaTbOrd
import Derived.Shelf.Lay
import Derived.Ground.SlsfProg
import Derived.Ground.NamesProg
namespace Go.Proofs
open Go.Shelf Go.RowKit Go.Lib Go.Sort
shelf_lay_g SlLaysF0.n6 Slsf 6 at Try 27 as Try.sortN
shelf_lay Lays.n106 Nm 106 at Try as Try.lays106
end Go.Proofs
