/-
  (shaken)
-/
import Derived.Test.YtfjcaofmcjhdpaaGr
namespace Go.Proofs.Ytfjcaofmcjhdpaa
open Go.RowKit
set_option linter.unusedSimpArgs false
set_option linter.unusedVariables false
set_option maxRecDepth 100000

/-- the box at b holds these values, and may be written to -/
structure GBx (w : World) (b : Nat) (vs : List Value) : Prop where
  lt : b < w.heap.size
  f : ∀ j, w.frozen? ⟨b, j, none⟩ = false
  c : ∀ j (hj : j < vs.length), w.cell? ⟨b, j, none⟩ = some vs[j]
theorem GBx.made (w : World) (vs : List Value) (t : TypeId) : GBx (w.alloc (.cells vs.toArray t)) w.heap.size vs :=
  ⟨by simp, fun j => World.frozen?_alloc_new _ _ _ _, fun j hj => by simp [hj]⟩
theorem GBx.grown {w w' : World} {b : Nat} {vs : List Value} {row : Option Nat} (h : GBx w b vs) (hg : w.grownBy w' row) (hne : row ≠ some b) : GBx w' b vs := by
  have hb : w'.heap[b]? = w.heap[b]? := hg.block b h.lt (fun e => hne e.symm)
  exact ⟨Nat.lt_of_lt_of_le h.lt hg.size, fun j => (World.frozen?_of_block (a := ⟨b, j, none⟩) hb).trans (h.f j), fun j hj => (World.cell?_of_block (a := ⟨b, j, none⟩) hb).trans (h.c j hj)⟩
theorem GBx.below {w w' : World} {b : Nat} {vs : List Value} (h : GBx w b vs) (hb : Below w.heap.size w w') : GBx w' b vs := h.grown (row := none) (g_grown hb none) (by simp)
theorem GBx.alloc {w : World} {b : Nat} {vs : List Value} (h : GBx w b vs) (o : Obj) : GBx (w.alloc o) b vs := h.below (g_alloc w o)
theorem GBx.set {w : World} {b : Nat} {vs : List Value} (h : GBx w b vs) (j : Nat) (v : Value) (hj : j < vs.length) : GBx (w.setCell ⟨b, j, none⟩ v) b (vs.set j v) := by
  refine ⟨by simpa using h.lt, fun i => ?_, fun i hi => ?_⟩
  · rw [World.frozen?_setCell]
    exact h.f i
  · by_cases e : i = j
    · subst e
      rw [World.cell?_setCell_same _ _ _ (h.c i hj)]
      simp
    · rw [World.cell?_setCell_other _ _ _ _ (by intro x; have := congrArg Addr.off x; simp at this; omega), h.c i (by simpa using hi), List.getElem_set_ne (by omega)]
theorem GBx.other {w : World} {b b' : Nat} {vs : List Value} (h : GBx w b vs) (j : Nat) (v : Value) (hne : b' ≠ b) : GBx (w.setCell ⟨b', j, none⟩ v) b vs :=
  h.grown (g_set w ⟨b', j, none⟩ v) (by intro e; exact hne (Option.some.inj e))
theorem GBx.ext {w : World} {b : Nat} {vs us : List Value} (h : GBx w b vs) (e : vs = us) : GBx w b us := e ▸ h
theorem GOwn.other {α : Type} {E : GEl α} {w : World} {base : Nat} {v : Value} {l : List α} (h : GOwn E w base v l) (b j : Nat) (u : Value) (hb : b < base) : GOwn E (w.setCell ⟨b, j, none⟩ u) base v l :=
  h.grown (g_set w ⟨b, j, none⟩ u) (by intro k hk e; have := (h.lt k hk).1; have e2 : b = k := Option.some.inj e; omega)
theorem GRd.other {α : Type} {E : GEl α} {w : World} {ao : Option Addr} {l : List α} {cap : Nat} (h : GRd E w ao l cap) (b j : Nat) (u : Value) (hb : ∀ g off, ao = some ⟨g, off, none⟩ → l ≠ [] → g ≠ b) : GRd E (w.setCell ⟨b, j, none⟩ u) ao l cap := by
  refine ⟨h.hl, h.hc, h.hn, ?_⟩
  rcases h.at_ with e | ⟨g, off, e, hg, hc⟩
  · exact .inl e
  · by_cases he : l = []
    · exact .inl he
    · refine .inr ⟨g, off, e, by simpa using hg, fun i hi j' hj' => ?_⟩
      rw [World.cell?_setCell_other _ _ _ _ (by intro x; have h1 := congrArg Addr.block x; have h2 := hb g off e he; simp at h1; omega)]
      exact hc i hi j' hj'
end Go.Proofs.Ytfjcaofmcjhdpaa
