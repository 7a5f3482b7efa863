/-
  (shaken)
-/
import Derived.Test.YtldnkminhppngaaGreatDoorOrRefB
namespace Go.Proofs.YtldnkminhppngaaGreatDoor
open Go.RowKit
set_option linter.unusedSimpArgs false
set_option linter.unusedVariables false
set_option maxRecDepth 100000

/-- the first test: its kind, its tenant, its keys -/
def Cm.aOk (c : Cm) : Bool := decide (1 ≤ c.kind ∧ c.kind ≤ 11) && tenOk c.tenant && c.kOk
theorem ba_empty {s : ByteArray} (h : s.size = 0) : s.toList.isEmpty = true := by
  rw [ByteArray.toList_eq]
  have : s.data.toList.length = 0 := by rw [Array.length_toList]; exact h
  cases e : s.data.toList with
  | nil => rfl
  | cons a l => rw [e] at this; simp at this
theorem ba_full {s : ByteArray} (h : ¬ s.size = 0) : s.toList.isEmpty = false := by
  rw [ByteArray.toList_eq]
  have : ¬ s.data.toList.length = 0 := by rw [Array.length_toList]; exact h
  cases e : s.data.toList with
  | nil => rw [e] at this; simp at this
  | cons a l => rfl

end Go.Proofs.YtldnkminhppngaaGreatDoor
