/-
  EnginePages (the tied card): whatever the pages, quotas, moment and operations, the pages keep the quotas, and memory is refused only to a tenant that has all its pages. Under the card's own conditions alone (the library's tables are as their text lays them).
-/
import Derived.Test.YtcdpiefflnaghaaGreatDoorLawEPagesB
namespace Go.Proofs.YtcdpiefflnaghaaGreatDoor
open Go.Proofs.YtcdpiefflnaghaaGreatDoor.It
open Go.Proofs.YtcdpiefflnaghaaGreatDoor.Lr
open Go.Proofs.YtcdpiefflnaghaaGreatDoor.Me
open Go.Proofs.YtcdpiefflnaghaaGreatDoor.Qt
open Go.Proofs.YtcdpiefflnaghaaGreatDoor.Sb
open Go.Proofs.YtcdpiefflnaghaaGreatDoor.Tb
open Go.Proofs.YtcdpiefflnaghaaGreatDoor.Wh
open Go.ChangeShapes Go.WideShapes Go.ChangeAt Go.RowKit
set_option linter.unusedSimpArgs false
set_option linter.unusedVariables false
set_option maxRecDepth 100000

theorem enginePages_card : Rows.EnginePagesCardSaid :=
  Claim7.holds_tied_plain_at .later [] [.data, .data, .data] true Rows.enginePagesCard.stood.harness false
    enginePages_proved (fun _ h => by cases h) (by as_aux_lemma => kernel_rfl) (fun _ h => by cases h) enginePages_row_tie rfl ⟨rfl, rfl⟩ (by as_aux_lemma => kernel_rfl) rfl
    (fun f fn hf hfn => by
      obtain rfl : f = 7 := Option.some.inj ((show Tryz.prog.funcNamed "cloakroom/cloakroomlaw11.EnginePages" = some 7 by as_aux_lemma => kernel_rfl).symm.trans hf) |>.symm
      obtain rfl : fn = Tryz.f7 := (Option.some.inj (Tryz.func7.symm.trans hfn)).symm
      exact ⟨by as_aux_lemma => kernel_rfl, fun j t ht => by
        rw [Tryz.params7] at ht
        have hm : t ∈ ([3, 26, 3, 47] : List TypeId) := by simpa using Array.mem_of_getElem? ht
        have hall : (([3, 26, 3, 47] : List TypeId).all fun u => !Tryz.prog.wantsStandIn u) = true := by as_aux_lemma => kernel_rfl
        exact (show Tryz.prog.wantsStandIn t = false by simpa using List.all_eq_true.1 hall t hm)⟩)
    (by as_aux_lemma => kernel_rfl)
#print axioms enginePages_card
end Go.Proofs.YtcdpiefflnaghaaGreatDoor
