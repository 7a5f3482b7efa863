/-
  EngineTells (the tied card): whatever the pages, quotas, moment and operations, the changes of all that was done make the image, and a get answers what the image has. Under the card's own conditions alone (the library's tables are as their text lays them).
-/
import Derived.Test.YtpinkmndjabbjaaGreatDoorLawETellsB
namespace Go.Proofs.YtpinkmndjabbjaaGreatDoor
open Go.ChangeShapes Go.WideShapes Go.ChangeAt Go.RowKit
set_option linter.unusedSimpArgs false
set_option linter.unusedVariables false
set_option maxRecDepth 100000

theorem engineTells_card : Rows.EngineTellsCardSaid :=
  Claim7.holds_tied_plain_at .later [] [.data, .data, .data] true Rows.engineTellsCard.stood.harness false
    engineTells_proved (fun _ h => by cases h) (by as_aux_lemma => kernel_rfl) (fun _ h => by cases h) engineTells_row_tie rfl ⟨rfl, rfl⟩ (by as_aux_lemma => kernel_rfl) rfl
    (fun f fn hf hfn => by
      obtain rfl : f = 6 := Option.some.inj ((show Tryz.prog.funcNamed "cloakroom/cloakroomlaw11.EngineTells" = some 6 by as_aux_lemma => kernel_rfl).symm.trans hf) |>.symm
      obtain rfl : fn = Tryz.f6 := (Option.some.inj (Tryz.func6.symm.trans hfn)).symm
      exact ⟨by as_aux_lemma => kernel_rfl, fun j t ht => by
        rw [Tryz.params6] at ht
        have hm : t ∈ ([3, 26, 3, 47] : List TypeId) := by simpa using Array.mem_of_getElem? ht
        have hall : (([3, 26, 3, 47] : List TypeId).all fun u => !Tryz.prog.wantsStandIn u) = true := by as_aux_lemma => kernel_rfl
        exact (show Tryz.prog.wantsStandIn t = false by simpa using List.all_eq_true.1 hall t hm)⟩)
    (by as_aux_lemma => kernel_rfl)
#print axioms engineTells_card
end Go.Proofs.YtpinkmndjabbjaaGreatDoor
