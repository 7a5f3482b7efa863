/-
  (shaken)
-/
import Derived.Test.YtjmcgpdimhgegaaChg
import Derived.Deep.RegionHeld3
namespace Go.Proofs.Ytjmcgpdimhgegaa
open Go.RowKit
set_option linter.unusedSimpArgs false
set_option linter.unusedVariables false
set_option maxRecDepth 100000

theorem Grew.cell {w w' : World} {v v' : Value} (h : Grew w w' v v') {b : Nat} (o : Nat) (hb : b < w.heap.size) (hne : v.ownBlock ≠ some b) : w'.cell? ⟨b, o, none⟩ = w.cell? ⟨b, o, none⟩ :=
  World.cell?_of_block (a := ⟨b, o, none⟩) (h.grown.block b hb (fun e => hne e.symm))
theorem Grew.ne {w w' : World} {v v' : Value} (h : Grew w w' v v') {b : Nat} (hb : b < w.heap.size) (hne : v.ownBlock ≠ some b) : v'.ownBlock ≠ some b := fun e => by
  rcases h.lies b e with g | g
  · exact hne g
  · omega
theorem Own.ne {w : World} {base : Nat} {v : Value} {l : List UInt8} (h : Own w base v l) : v.ownBlock ≠ some w.heap.size := fun e => by
  have := (h.lt _ e).2; omega
theorem Own.drew {w : World} {base : Nat} {v : Value} {l : List UInt8} (h : Own w base v l) : Own w.drew base v l := h

/-- a box beside a row that grows: its cells stand -/
structure Boxed (w : World) (b : Nat) (v : Value) (cs : List Value) : Prop where
  lt : b < w.heap.size
  ne : v.ownBlock ≠ some b
  cells : ∀ j (h : j < cs.length), w.cell? ⟨b, j, none⟩ = some cs[j]
theorem Boxed.grew {w w' : World} {b : Nat} {v v' : Value} {cs : List Value} (h : Boxed w b v cs) (hg : Grew w w' v v') : Boxed w' b v' cs :=
  ⟨Nat.lt_of_lt_of_le h.lt hg.grown.size, hg.ne h.lt h.ne, fun j hj => (hg.cell j h.lt h.ne).trans (h.cells j hj)⟩
theorem Boxed.made {w : World} {base : Nat} {v : Value} {l : List UInt8} (h : Own w base v l) (cs : List Value) (t : TypeId) : Boxed (w.alloc (.cells cs.toArray t)) w.heap.size v cs :=
  ⟨by simp, h.ne, fun j hj => by simp [hj]⟩
theorem Boxed.alloc {w : World} {b : Nat} {v : Value} {cs : List Value} (h : Boxed w b v cs) (o : Obj) : Boxed (w.alloc o) b v cs :=
  ⟨Nat.lt_of_lt_of_le h.lt (by simp), h.ne, fun j hj => by rw [World.cell?_alloc_past _ _ _ h.lt]; exact h.cells j hj⟩

theorem grew_alloc {w : World} (v : Value) (o : Obj) : Grew w (w.alloc o) v v := ⟨World.grownBy_alloc w o _, fun k h => .inl h⟩
theorem grew_drew {w : World} (v : Value) : Grew w w.drew v v := ⟨⟨rfl, rfl, rfl, Nat.le_refl _, fun _ _ _ => rfl⟩, fun k h => .inl h⟩

def truthB (b : Bool) : UInt8 := match b with | true => 1 | false => 0
/-- an item's bytes -/
def itmB (x : Itm) : List UInt8 := text x.key.data.toList ++ text x.value.data.toList ++ small x.flags ++ small x.til.toNat ++ small x.unique
/-- an item whose fields fit their kinds -/
structure Itm.Good (x : Itm) : Prop where
  key : x.key.size ≤ 100000000
  value : x.value.size ≤ 100000000
  flags : x.flags ≤ 4294967295
  til0 : 0 ≤ x.til
  til1 : x.til ≤ 9223372036854775807
  unique : Fits x.unique

end Go.Proofs.Ytjmcgpdimhgegaa
