/-
  (shaken)
-/
import Derived.Test.YtjmcgpdimhgegaaAddChg
namespace Go.Proofs.Ytjmcgpdimhgegaa
open Go.RowKit
set_option linter.unusedSimpArgs false
set_option linter.unusedVariables false
set_option maxRecDepth 100000

/-- the changes cs lie at the address, below block B -/
def ChAt (w : World) (B : Nat) (ao : Option Addr) (cs : List Chg) : Prop :=
  cs = [] ∨ ∃ b off, ao = some ⟨b, off, none⟩ ∧ b < B ∧ ∀ i (hi : i < cs.length) j (hj : j < 11), w.cell? ⟨b, off + i * 11 + j, none⟩ = some (cs[i].cells[j]'(by simp [Chg.cells]; omega))
theorem ChAt.below {w w' : World} {B B' : Nat} {ao : Option Addr} {cs : List Chg} (h : ChAt w B ao cs) (hb : Below B w w') (hB : B ≤ B') : ChAt w' B' ao cs := by
  rcases h with rfl | ⟨b, off, rfl, hlt, hc⟩
  · exact .inl rfl
  · exact .inr ⟨b, off, rfl, by omega, fun i hi j hj => (hb.cell (p := ⟨b, off + i * 11 + j, none⟩) hlt).trans (hc i hi j hj)⟩

end Go.Proofs.Ytjmcgpdimhgegaa
