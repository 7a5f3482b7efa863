/-
  (shaken)
-/
import Derived.Test.YthndmaajidobpaaDoorGr
namespace Go.Proofs.YthndmaajidobpaaDoor
open Go.RowKit
set_option linter.unusedSimpArgs false
set_option linter.unusedVariables false
set_option maxRecDepth 100000

/-- the box at b holds these values, and may be written to -/
structure GBx (w : World) (b : Nat) (vs : List Value) : Prop where
  lt : b < w.heap.size
  f : ∀ j, w.frozen? ⟨b, j, none⟩ = false
  c : ∀ j (hj : j < vs.length), w.cell? ⟨b, j, none⟩ = some vs[j]
theorem GBx.made (w : World) (vs : List Value) (t : TypeId) : GBx (w.alloc (.cells vs.toArray t)) w.heap.size vs :=
  ⟨by simp, fun j => World.frozen?_alloc_new _ _ _ _, fun j hj => by simp [hj]⟩
theorem GBx.grown {w w' : World} {b : Nat} {vs : List Value} {row : Option Nat} (h : GBx w b vs) (hg : w.grownBy w' row) (hne : row ≠ some b) : GBx w' b vs := by
  have hb : w'.heap[b]? = w.heap[b]? := hg.block b h.lt (fun e => hne e.symm)
  exact ⟨Nat.lt_of_lt_of_le h.lt hg.size, fun j => (World.frozen?_of_block (a := ⟨b, j, none⟩) hb).trans (h.f j), fun j hj => (World.cell?_of_block (a := ⟨b, j, none⟩) hb).trans (h.c j hj)⟩
theorem GBx.below {w w' : World} {b : Nat} {vs : List Value} (h : GBx w b vs) (hb : Below w.heap.size w w') : GBx w' b vs := h.grown (row := none) (g_grown hb none) (by simp)
theorem GBx.alloc {w : World} {b : Nat} {vs : List Value} (h : GBx w b vs) (o : Obj) : GBx (w.alloc o) b vs := h.below (g_alloc w o)
theorem GBx.set {w : World} {b : Nat} {vs : List Value} (h : GBx w b vs) (j : Nat) (v : Value) (hj : j < vs.length) : GBx (w.setCell ⟨b, j, none⟩ v) b (vs.set j v) := by
  refine ⟨by simpa using h.lt, fun i => ?_, fun i hi => ?_⟩
  · rw [World.frozen?_setCell]
    exact h.f i
  · by_cases e : i = j
    · subst e
      rw [World.cell?_setCell_same _ _ _ (h.c i hj)]
      simp
    · rw [World.cell?_setCell_other _ _ _ _ (by intro x; have := congrArg Addr.off x; simp at this; omega), h.c i (by simpa using hi), List.getElem_set_ne (by omega)]
end Go.Proofs.YthndmaajidobpaaDoor
