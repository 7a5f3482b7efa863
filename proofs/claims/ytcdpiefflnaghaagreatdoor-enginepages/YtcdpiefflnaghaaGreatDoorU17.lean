/-
  Package engine and what stands beneath it, part 17: contracts of functions, and what they rest on.
-/
import Derived.Maps.AppendAt
import Derived.Lib.AppendStr
import Derived.Laws.AppendOwnNone
import Derived.Laws.IdiomStrings
import Derived.Test.YtcdpiefflnaghaaGreatDoorU00
set_option linter.unusedSimpArgs false
set_option linter.unusedVariables false
set_option maxRecDepth 100000
namespace Go.Proofs.YtcdpiefflnaghaaGreatDoor.Me
open Go.RowKit
theorem addr_add (b off j:Nat):(⟨b,off,none⟩:Addr).add j=⟨b,off+j,none⟩:=by unfold Addr.add;split <;> simp_all
theorem below_alloc {w w1:World}{o:Obj}(hb:Below (w.alloc o).heap.size (w.alloc o) w1):Below w.heap.size w w1:=
 ((Below.refl _ _).alloc (Nat.le_refl _) _).trans (hb.mono (by simp))
structure Grew (w w':World)(v v':Value):Prop where
 grown:w.grownBy w' v.ownBlock
 lies:∀ k,v'.ownBlock=some k→v.ownBlock=some k∨w.heap.size≤k
theorem grownBy_setCell (w:World)(p:Addr)(v:Value):w.grownBy (w.setCell p v) (some p.block):=
 ⟨rfl,rfl,rfl,by simp,fun k hk hne=>Below.heap_setCell w p v k (fun e=>hne (by rw [e]))⟩
theorem grown_set (w:World)(b o:Nat)(v:Value):w.grownBy (w.setCell ⟨b,o,none⟩ v) (some b):=grownBy_setCell w ⟨b,o,none⟩ v
section
variable {w:World} {ops:Array Oper} {rest:List Oper} {o:Oper} {a:Act} {Q:Exit→Act→World→Prop}
end
end Go.Proofs.YtcdpiefflnaghaaGreatDoor.Me
