/-
  A list of writes that a call made: their bytes may be written to; what the loops of DiskDoes keep.
-/
import Derived.Test.YtgfhjkphdmkmoabPoke2
import Derived.Test.YtgfhjkphdmkmoabDkOwn
namespace Go.Proofs.Ytgfhjkphdmkmoab
open Go.RowKit
set_option linter.unusedSimpArgs false
set_option linter.unusedVariables false
set_option maxRecDepth 100000

/-- the writes at ao: each one's bytes may be written to, in blocks beside the row's -/
def PkP (w : World) (base top : Nat) (ao : Option Addr) (n : Nat) : Prop :=
  n = 0 ∨ ∃ b, ao = some ⟨b, 0, none⟩ ∧ base ≤ b ∧ b < top ∧ b < w.heap.size ∧ ∀ i, i < n → ∃ bo len cap, w.cell? ⟨b, i * 2 + 1, none⟩ = some (.slice bo len cap) ∧ len ≤ cap ∧ cap ≤ 9223372036854775807 ∧ PkB w base top (some b) bo len
theorem OwnPs.pk {w : World} {base : Nat} {ao : Option Addr} {cap : Nat} {ps : List Pt} (h : OwnPs w base (.slice ao ps.length cap) ps) : PkP w base w.heap.size ao ps.length := by
  obtain ⟨vs, h1, h2, h3⟩ := h
  have h2' := h2
  rcases h2'.2 with ⟨e, hn⟩ | ⟨g, cap', cur, e, hb, hg, hnc, hcm, hcs, htake⟩
  · exact .inl hn
  · cases e
    have hlt := (Array.getElem?_eq_some_iff.1 hg).1
    refine .inr ⟨g, rfl, hb, hlt, hlt, fun i hi => ?_⟩
    have hi' : i < vs.length := by omega
    obtain ⟨g1, g2⟩ := ptCells_get ps vs h1 i hi
    have c2 := World.ownsRow.cells h2 (g := g) rfl _ _ g2
    rw [addr_add, Nat.zero_add] at c2
    obtain ⟨bo, bc, hv, hl, hc, hp⟩ := (h3 i hi' hi).pkB
    rw [hv] at c2
    exact ⟨bo, _, bc, c2, hl, hc, hp⟩
theorem PkP.below {w w' : World} {base top : Nat} {ao : Option Addr} {n : Nat} (h : PkP w base top ao n) (hb : Below w.heap.size w w') : PkP w' base top ao n := by
  rcases h with h | ⟨b, rfl, h1, ht, h2, h3⟩
  · exact .inl h
  · refine .inr ⟨b, rfl, h1, ht, Nat.lt_of_lt_of_le h2 hb.size, fun i hi => ?_⟩
    obtain ⟨bo, len, cap, c1, c2, c3, c4⟩ := h3 i hi
    exact ⟨bo, len, cap, (below_cells hb b _ h2).trans c1, c2, c3, c4.below hb⟩
theorem PkP.set {w : World} {base top : Nat} {ao : Option Addr} {n : Nat} (h : PkP w base top ao n) (g' k y : Nat) (hy : y < 256) (hne : ∀ b, ao = some ⟨b, 0, none⟩ → base ≤ b → g' ≠ b) : PkP (w.setCell ⟨g', k, none⟩ (.int .u8 y)) base top ao n := by
  rcases h with h | ⟨b, e, h1, ht, h2, h3⟩
  · exact .inl h
  · refine .inr ⟨b, e, h1, ht, by simpa using h2, fun i hi => ?_⟩
    obtain ⟨bo, len, cap, c1, c2, c3, c4⟩ := h3 i hi
    exact ⟨bo, len, cap, by rw [World.cell?_setCell_other _ _ _ _ (fun e' => hne b e h1 (congrArg (fun z : Addr => z.block) e'))]; exact c1, c2, c3, c4.set g' k y hy⟩

/-- what the loops of DiskDoes keep -/
structure PokD (W : World) (b1 t1 b2 t2 b3 t3 : Nat) (p : Option Addr) (n : Nat) (r : Option Addr) (m : Nat) (g : Option Addr) (l : Nat) (X : Nat) (vX : Value) (w : World) : Prop where
  p1 : PkB w b1 t1 none p n
  p2 : PkB w b2 t2 none r m
  p3 : PkP w b3 t3 g l
  cx : w.cell? ⟨X, 0, none⟩ = some vX
  bl : Below W.heap.size W w
theorem PokD.drew {W : World} {b1 t1 b2 t2 b3 t3 : Nat} {p : Option Addr} {n : Nat} {r : Option Addr} {m : Nat} {g : Option Addr} {l : Nat} {X : Nat} {vX : Value} {w : World} (h : PokD W b1 t1 b2 t2 b3 t3 p n r m g l X vX w) : PokD W b1 t1 b2 t2 b3 t3 p n r m g l X vX w.drew := ⟨h.p1, h.p2, h.p3, h.cx, h.bl.drew⟩
/-- a byte is written neither in the row's block nor in X's -/
theorem PokD.set {W : World} {b1 t1 b2 t2 b3 t3 : Nat} {p : Option Addr} {n : Nat} {r : Option Addr} {m : Nat} {g : Option Addr} {l : Nat} {X : Nat} {vX : Value} {w : World} (h : PokD W b1 t1 b2 t2 b3 t3 p n r m g l X vX w) (g' k y : Nat) (hy : y < 256) (hW : W.heap.size ≤ g') (hX : g' ≠ X) (hne : ∀ b, g = some ⟨b, 0, none⟩ → b3 ≤ b → g' ≠ b) : PokD W b1 t1 b2 t2 b3 t3 p n r m g l X vX (w.setCell ⟨g', k, none⟩ (.int .u8 y)) :=
  ⟨h.p1.set g' k y hy, h.p2.set g' k y hy, h.p3.set g' k y hy hne, (World.cell?_setCell_other _ _ _ _ (fun e' => hX (congrArg (fun z : Addr => z.block) e'))).trans h.cx, h.bl.setCell (by show W.heap.size ≤ g'; exact hW) _⟩
end Go.Proofs.Ytgfhjkphdmkmoab
