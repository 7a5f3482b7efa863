/-
  Structs of several cells that are stored whole; how long what is written is.
-/
import Derived.Test.YtfmpbddhejpjaaaDoorWpS
import Derived.Test.YtfmpbddhejpjaaaDoorWoF
namespace Go.Proofs.YtfmpbddhejpjaaaDoor
open Go.Proofs.YtfmpbddhejpjaaaDoor.It
open Go.RowKit
set_option linter.unusedSimpArgs false
set_option linter.unusedVariables false
set_option maxRecDepth 100000

theorem lines_len7 {x : Im} (h : x.ok) : x.lines.length ≤ 700 := by
  have h1 : (joinW x.words).length ≤ 170 := by
    have h3 := h.wl.each
    unfold Im.words at h3 ⊢
    rw [joinW_cons, List.length_append, bl_len]
    have h5 := joinW_len 32 [x.key, dec x.flags, dec x.till, dec x.unique, dec (x.value.size : Int)] (fun y hy => (h3 y (List.mem_cons_of_mem _ hy)).1)
    have h4 : sVALUE.size = 5 := rfl
    simp only [List.length_cons, List.length_nil] at h5
    omega
  unfold Im.lines
  simp only [List.length_append, List.length_cons, List.length_nil, bl_len]
  have := h.val
  omega
theorem flat_len7 : ∀ L : List Im, (∀ x ∈ L, x.ok) → (L.flatMap Im.lines).length ≤ L.length * 700
  | [], _ => by simp
  | a :: t, h => by
    have h1 := lines_len7 (h a (by simp))
    have h2 := flat_len7 t (fun x hx => h x (by simp [hx]))
    rw [List.flatMap_cons, List.length_append, List.length_cons, Nat.add_mul]
    omega
theorem wrE_parts {a : An} (hE : a.wrE = 0) : a.may = true ∧ a.hasL = true := by
  unfold An.wrE at hE
  by_cases h : a.may = true ∧ a.hasL = true
  · exact h
  · rw [if_neg h] at hE; cases hE
end Go.Proofs.YtfmpbddhejpjaaaDoor
