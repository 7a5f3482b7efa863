/-
  The document's item of a line, against the program's.
-/
import Derived.Test.YtihcnjbnlcgcoaaDoorWqC
namespace Go.Proofs.YtihcnjbnlcgcoaaDoor
open Go.Proofs.YtihcnjbnlcgcoaaDoor.It
open Go.RowKit
set_option linter.unusedSimpArgs false
set_option linter.unusedVariables false
set_option maxRecDepth 100000

theorem lw_value (l : List UInt8) : lw (bl sVALUE ++ 32 :: l) = sVALUE :: lw l := by
  unfold lw
  rw [wsp_app _ _ (by decide), List.map_cons]
  rfl
theorem isVal_iff (l : List UInt8) : isVal l = true ↔ l = bl sVALUE ++ 32 :: l.drop 6 := by
  unfold isVal
  rw [decide_eq_true_iff]
  constructor
  · intro h
    have h1 : l = l.take 6 ++ l.drop 6 := (List.take_append_drop _ _).symm
    rw [h] at h1
    simpa using h1
  · intro h
    rw [h]
    rfl
/-- the document's words of an item are the program's -/
theorem qitemD_lw (l : List UInt8) : qitemD (lw l) = if isVal l = true then itemW (lw l).tail else none := by
  by_cases h : isVal l = true
  · rw [if_pos h]
    have e := (isVal_iff l).1 h
    have e2 : lw l = sVALUE :: lw (l.drop 6) := by
      conv => lhs; rw [e]
      exact lw_value _
    rw [e2]
    unfold qitemD
    exact if_pos rfl
  · rw [if_neg h]
    cases hl : lw l with
    | nil => rfl
    | cons a t =>
      unfold qitemD
      dsimp only
      by_cases ha : a = sVALUE
      · rw [if_pos ha]
        cases t with
        | nil => rfl
        | cons b t =>
          exfalso
          apply h
          have e := joinW_lw l
          rw [hl, joinW_cons, ha, List.flatMap_cons, List.cons_append] at e
          rw [← e]
          rfl
      · rw [if_neg ha]
end Go.Proofs.YtihcnjbnlcgcoaaDoor
