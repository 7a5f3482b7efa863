/-
  EnginePages: the row's statement, out of the walk that was lifted.
-/
import Derived.Test.YtcdpiefflnaghaaGreatDoorLawEPagesA
namespace Go.Proofs.YtcdpiefflnaghaaGreatDoor
open Go.Proofs.YtcdpiefflnaghaaGreatDoor.It
open Go.Proofs.YtcdpiefflnaghaaGreatDoor.Lr
open Go.Proofs.YtcdpiefflnaghaaGreatDoor.Me
open Go.Proofs.YtcdpiefflnaghaaGreatDoor.Qt
open Go.Proofs.YtcdpiefflnaghaaGreatDoor.Sb
open Go.Proofs.YtcdpiefflnaghaaGreatDoor.Tb
open Go.Proofs.YtcdpiefflnaghaaGreatDoor.Wh
open Go.ChangeShapes Go.WideShapes Go.ChangeAt Go.RowKit
set_option linter.unusedSimpArgs false
set_option linter.unusedVariables false
set_option maxRecDepth 100000

set_option maxHeartbeats 40000000 in
theorem enginePages_closed : joinedFacts Tryz.prog 7 Tryz.f7 Rows.enginePagesSpec Rows.enginePagesRow = true := by
  unfold joinedFacts
  repeat' (with_reducible refine Bool.and_eq_true_iff.2 ⟨?_, ?_⟩)
  all_goals as_aux_lemma => kernel_rfl
set_option maxHeartbeats 4000000 in
theorem enginePages_proved : Rows.EnginePagesSaid :=
  OpenClaim.holds_of_wide 7 Tryz.f7 rfl rfl rfl rfl rfl rfl rfl ⟨rfl, rfl, rfl, rfl, rfl⟩ rfl rfl rfl rfl rfl (by as_aux_lemma => kernel_rfl) Tryz.func7 enginePages_closed
    (of_decide_eq_true (by as_aux_lemma => kernel_rfl)) (by as_aux_lemma => unfold Func.isWrapper; first | (rw [if_pos (by decide +kernel)]; kernel_rfl) | (rw [if_neg (by decide +kernel)]; exact ⟨rfl, rfl⟩))
    (fun os started H enc _ => enginePages_lifted os started H enc)

end Go.Proofs.YtcdpiefflnaghaaGreatDoor
