/-
  New slices of bytes: their bytes may be written to, and what lies elsewhere stays.
-/
import Derived.Test.YtgfhjkphdmkmoabDkMem
namespace Go.Proofs.Ytgfhjkphdmkmoab
open Go.RowKit
set_option linter.unusedSimpArgs false
set_option linter.unusedVariables false
set_option maxRecDepth 100000

/-- each of the n cells is a byte that may be written to, in a block from base up to top, which isn't r -/
def PkB (w : World) (base top : Nat) (r : Option Nat) (ao : Option Addr) (n : Nat) : Prop :=
  ∀ j, j < n → ∃ g x : Nat, ao = some ⟨g, 0, none⟩ ∧ base ≤ g ∧ g < top ∧ some g ≠ r ∧ g < w.heap.size ∧ x < 256 ∧ w.cell? ⟨g, j, none⟩ = some (.int .u8 x) ∧ w.frozen? ⟨g, j, none⟩ = false
theorem FreshBut.pkB {w : World} {base : Nat} {r : Option Nat} {v : Value} {l : List UInt8} (h : FreshBut w base r v l) :
    ∃ ao cap, v = .slice ao l.length cap ∧ l.length ≤ cap ∧ cap ≤ 9223372036854775807 ∧ PkB w base w.heap.size r ao l.length := by
  obtain ⟨ao, cap, rfl, h1, h2, h3, h4⟩ := h
  refine ⟨ao, cap, rfl, h1, h2, fun j hj => ?_⟩
  rcases h4 with h4 | ⟨g, cur, rfl, hb, hne, hg, hl, ht⟩
  · subst h4; simp at hj
  · have hlt := (Array.getElem?_eq_some_iff.1 hg).1
    refine ⟨g, l[j].toNat, rfl, hb, hlt, hne, hlt, l[j].toNat_lt, row_cell hg ht j hj, ?_⟩
    simp [World.frozen?, hg]
theorem Fresh.pkB {w : World} {base : Nat} {v : Value} {l : List UInt8} (h : Fresh w base v l) :
    ∃ ao cap, v = .slice ao l.length cap ∧ l.length ≤ cap ∧ cap ≤ 9223372036854775807 ∧ PkB w base w.heap.size none ao l.length := (h.but (r := none) (fun k hk => by cases hk)).pkB
theorem PkB.below {w w' : World} {base top : Nat} {r : Option Nat} {ao : Option Addr} {n : Nat} (h : PkB w base top r ao n) (hb : Below w.heap.size w w') : PkB w' base top r ao n := by
  intro j hj
  obtain ⟨g, x, e, h1, ht, h0, h2, h3, h4, h5⟩ := h j hj
  exact ⟨g, x, e, h1, ht, h0, Nat.lt_of_lt_of_le h2 hb.size, h3, (below_cells hb g j h2).trans h4, (below_frozen hb g j h2).trans h5⟩
/-- a byte is written somewhere: all is as well to be written to as it was -/
theorem PkB.set {w : World} {base top : Nat} {r : Option Nat} {ao : Option Addr} {n : Nat} (h : PkB w base top r ao n) (g' k y : Nat) (hy : y < 256) : PkB (w.setCell ⟨g', k, none⟩ (.int .u8 y)) base top r ao n := by
  intro j hj
  obtain ⟨g, x, e, h1, ht, h0, h2, h3, h4, h5⟩ := h j hj
  by_cases ej : (⟨g', k, none⟩ : Addr) = ⟨g, j, none⟩
  · rw [ej]
    exact ⟨g, y, e, h1, ht, h0, by simpa using h2, hy, World.cell?_setCell_same _ _ _ h4, by simpa using h5⟩
  · exact ⟨g, x, e, h1, ht, h0, by simpa using h2, h3, by rw [World.cell?_setCell_other _ _ _ _ ej]; exact h4, by simpa using h5⟩
theorem PkB.drew {w : World} {base top : Nat} {r : Option Nat} {ao : Option Addr} {n : Nat} (h : PkB w base top r ao n) : PkB w.drew base top r ao n := h

end Go.Proofs.Ytgfhjkphdmkmoab
