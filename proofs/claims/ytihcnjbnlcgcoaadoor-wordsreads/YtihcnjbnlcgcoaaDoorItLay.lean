/-
  (shaken)
-/
import Derived.Test.YtihcnjbnlcgcoaaDoorRows
import Derived.Shelf.Lay
import Derived.Shelf.Strconv.Itoa1
import Derived.Shelf.Strconv.Itoa2
import Derived.Shelf.Strings.OnBuilder
import Derived.Ground.NamesProg
namespace Go.Proofs
open Go.Shelf Go.RowKit Go.Lib Go.Sort
shelf_lay Lays.n283 Nm 283 at Tryd as Tryd.laySmall
shelf_lay LaysM.n284 Nm 284 at Tryd as Tryd.layDigits
shelf_lay Lays.n285 Nm 285 at Tryd as Tryd.layBase10
end Go.Proofs
