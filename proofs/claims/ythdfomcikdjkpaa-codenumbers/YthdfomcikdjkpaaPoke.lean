/-
  A slice of bytes that a call made may be written to, cell by cell: what else lies below its block stays; no condition.
-/
import Derived.Test.YthdfomcikdjkpaaRefCut
import Derived.Test.YthdfomcikdjkpaaRows2
namespace Go.Proofs.Ythdfomcikdjkpaa
open Go.ChangeShapes Go.WideShapes Go.ChangeAt Go.RowKit
set_option linter.unusedSimpArgs false
set_option linter.unusedVariables false

/-- each of the n cells is a byte that may be written to, in a block from base on -/
def Poke (w : World) (base : Nat) (ao : Option Addr) (n : Nat) : Prop :=
  ∀ j, j < n → ∃ g x : Nat, ao = some ⟨g, 0, none⟩ ∧ base ≤ g ∧ g < w.heap.size ∧ x < 256 ∧ w.cell? ⟨g, j, none⟩ = some (.int .u8 x) ∧ w.frozen? ⟨g, j, none⟩ = false

theorem Own.poke {w : World} {base : Nat} {v : Value} {l : List UInt8} (h : Own w base v l) :
    ∃ ao cap, v = .slice ao l.length cap ∧ l.length ≤ cap ∧ cap ≤ maxLen ∧ Poke w base ao l.length := by
  rcases h.2 with ⟨rfl, hn⟩ | ⟨g, cap, cur, rfl, hb, hg, hnc, hcm, hcs, htake⟩
  · exact ⟨none, 0, by rw [hn], by omega, by simp [maxLen], fun j hj => by omega⟩
  · refine ⟨_, cap, rfl, hnc, hcm, fun j hj => ⟨g, l[j].toNat, rfl, hb, (Array.getElem?_eq_some_iff.1 hg).1, l[j].toNat_lt, ?_, ?_⟩⟩
    · have := World.ownsRow.cellAt h j (by omega)
      rw [this]
      simp [hj, bcell]
    · exact World.ownsRow.frozenAt h j

theorem Poke.below {w w' : World} {base : Nat} {ao : Option Addr} {n : Nat} (h : Poke w base ao n) (hb : Below w.heap.size w w') : Poke w' base ao n := by
  intro j hj
  obtain ⟨g, x, e, h1, h2, h3, h4, h5⟩ := h j hj
  exact ⟨g, x, e, h1, Nat.lt_of_lt_of_le h2 hb.size, h3, (below_cells hb g j h2).trans h4, (below_frozen hb g j h2).trans h5⟩

theorem Poke.set {w : World} {base : Nat} {g n : Nat} (h : Poke w base (some ⟨g, 0, none⟩) n) (k y : Nat) (hy : y < 256) :
    Poke (w.setCell ⟨g, k, none⟩ (.int .u8 y)) base (some ⟨g, 0, none⟩) n := by
  intro j hj
  obtain ⟨g', x, e, h1, h2, h3, h4, h5⟩ := h j hj
  cases e
  by_cases ej : k = j
  · subst ej
    exact ⟨g, y, rfl, h1, by simpa using h2, hy, World.cell?_setCell_same _ _ _ h4, by simpa using h5⟩
  · exact ⟨g, x, rfl, h1, by simpa using h2, h3, by rw [World.cell?_setCell_other _ _ _ _ (by first | (simp; done) | (simp; omega))]; exact h4, by simpa using h5⟩

end Go.Proofs.Ythdfomcikdjkpaa
