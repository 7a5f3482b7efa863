/-
  The library's functions that the wheel calls, laid at this program.
-/
import Derived.Test.YthcekkahkioibadWhOrd
import Derived.Shelf.Lay
import Derived.Shelf.Strconv.Clone
import Derived.Ground.SlsfProg
import Derived.Ground.NamesProg
namespace Go.Proofs
open Go.Shelf Go.RowKit Go.Lib Go.Sort
shelf_lay_g SlLaysF0.n6 Slsf 6 at Try 40 as Try.sortT
shelf_lay Lays.n106 Nm 106 at Try as Try.lays106
shelf_lay LaysM.n316 Nm 316 at Try as Try.lays316
end Go.Proofs
