/-
  (shaken)
-/
import Derived.Test.YtblbabekbpcdiaaGreatDoorGy
import Derived.Test.YtblbabekbpcdiaaGreatDoorWoH
namespace Go.Proofs.YtblbabekbpcdiaaGreatDoor
open Go.Proofs.YtblbabekbpcdiaaGreatDoor.It
open Go.RowKit
set_option linter.unusedSimpArgs false
set_option linter.unusedVariables false
set_option maxRecDepth 100000

theorem g_news {α : Type} {E : GEl α} (K : GOk E) (w : World) (l : List α) (cs : List Value) (hcs : cs = l.flatMap E.cells) (hl : l.length ≤ 1000) : GRd E (w.alloc (.cells cs.toArray E.e)) (some ⟨w.heap.size, 0, none⟩) l l.length := by
  subst hcs
  refine ⟨Nat.le_refl _, by omega, (by intro e; cases e), .inr ⟨w.heap.size, 0, rfl, by simp, fun i hi j hj => ?_⟩⟩
  have h1 := K.flat_get l i j hi hj
  simp only [Nat.zero_add]
  rw [← h1]
  simp
theorem GOwn.fresh {α : Type} {E : GEl α} (K : GOk E) (w : World) (l : List α) (cs : List Value) (hcs : cs = l.flatMap E.cells) (hl : l.length ≤ 1000) : GOwn E (w.alloc (.cells cs.toArray E.e)) w.heap.size (.slice (some ⟨w.heap.size, 0, none⟩) l.length l.length) l := by
  subst hcs
  have hn := K.flat_len l
  refine ⟨hn, .inr ⟨w.heap.size, l.length, (l.flatMap E.cells).toArray, rfl, Nat.le_refl _, ?_, Nat.le_refl _, ?_, ?_, ?_⟩⟩
  · show (w.heap.push _)[w.heap.size]? = _
    simp
  · have : maxLen = 9223372036854775807 := rfl
    omega
  · simpa using hn
  · rw [List.take_of_length_le (by show (l.flatMap E.cells).length ≤ _; omega)]

end Go.Proofs.YtblbabekbpcdiaaGreatDoor
