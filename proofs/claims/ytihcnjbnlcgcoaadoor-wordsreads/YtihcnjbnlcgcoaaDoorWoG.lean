/-
  The library's functions that reading answers calls, laid at this program.
-/
import Derived.Test.YtihcnjbnlcgcoaaDoorRows
import Derived.Shelf.Lay
import Derived.Shelf.Bytes.SlIndexWhole
import Derived.Shelf.Strings.Prefix
import Derived.Shelf.Strings.Split
import Derived.Shelf.Small.Wraps
import Derived.Ground.NamesProg
namespace Go.Proofs
open Go.Shelf Go.RowKit Go.Lib
shelf_lay Lays.n185 Nm 185 at Tryd as Tryd.layIndex
shelf_lay Lays.n146 Nm 146 at Tryd as Tryd.laySplit
shelf_lay Lays.n99 Nm 99 at Tryd as Tryd.layHasPrefix
shelf_lay Lays.n103 Nm 103 at Tryd as Tryd.layCutPrefix
end Go.Proofs
