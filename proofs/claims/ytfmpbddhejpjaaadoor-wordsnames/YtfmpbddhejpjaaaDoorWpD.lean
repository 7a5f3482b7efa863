/-
  How long what is written is.
-/
import Derived.Test.YtfmpbddhejpjaaaDoorWpC
import Derived.Test.YtfmpbddhejpjaaaDoorWoV
namespace Go.Proofs.YtfmpbddhejpjaaaDoor
open Go.Proofs.YtfmpbddhejpjaaaDoor.It
open Go.RowKit
set_option linter.unusedSimpArgs false
set_option linter.unusedVariables false
set_option maxRecDepth 100000
theorem wr15_len {a : An} (hE : a.wrE = 0) (hf : a.Fit) : a.wr.length ≤ 6200 := by
  obtain ⟨h1, h2⟩ := wrE_parts hE
  obtain ⟨i1, i2, _⟩ := items_ok h1 h2 hf
  have h3 := (last_ok hE hf).wl.fine.1
  have h4 := Nat.le_trans (flat_len7 a.items i1) (Nat.mul_le_mul_right _ i2)
  unfold An.wr An.lines
  rw [if_pos hE]
  simp only [List.length_append, List.length_cons, List.length_nil]
  omega
theorem wr15_nil {a : An} (hE : ¬ a.wrE = 0) : a.wr = [] := by unfold An.wr; rw [if_neg hE]
end Go.Proofs.YtfmpbddhejpjaaaDoor
