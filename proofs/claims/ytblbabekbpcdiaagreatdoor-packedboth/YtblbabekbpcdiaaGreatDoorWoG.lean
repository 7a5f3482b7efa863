/-
  (shaken)
-/
import Derived.Test.YtblbabekbpcdiaaGreatDoorRows
import Derived.Shelf.Lay
import Derived.Shelf.Bytes.SlIndexWhole
import Derived.Shelf.Strings.Prefix
import Derived.Shelf.Strings.Split
import Derived.Shelf.Small.Wraps
import Derived.Ground.NamesProg
namespace Go.Proofs
open Go.Shelf Go.RowKit Go.Lib
shelf_lay Lays.n185 Nm 185 at Tryz as Tryz.layIndex
shelf_lay Lays.n146 Nm 146 at Tryz as Tryz.laySplit
shelf_lay Lays.n99 Nm 99 at Tryz as Tryz.layHasPrefix
shelf_lay Lays.n103 Nm 103 at Tryz as Tryz.layCutPrefix
end Go.Proofs
