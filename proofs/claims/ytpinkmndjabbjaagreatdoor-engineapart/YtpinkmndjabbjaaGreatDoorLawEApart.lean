/-
  EngineApart (the tied card): whatever the pages, quotas, moment and operations, a command changes nothing of any other tenant. Under the card's own conditions alone (the library's tables are as their text lays them).
-/
import Derived.Test.YtpinkmndjabbjaaGreatDoorLawEApartB
namespace Go.Proofs.YtpinkmndjabbjaaGreatDoor
open Go.ChangeShapes Go.WideShapes Go.ChangeAt Go.RowKit
set_option linter.unusedSimpArgs false
set_option linter.unusedVariables false
set_option maxRecDepth 100000

theorem engineApart_card : Rows.EngineApartCardSaid :=
  Claim7.holds_tied_plain_at .later [] [.data, .data, .data] true Rows.engineApartCard.stood.harness false
    engineApart_proved (fun _ h => by cases h) (by as_aux_lemma => kernel_rfl) (fun _ h => by cases h) engineApart_row_tie rfl ⟨rfl, rfl⟩ (by as_aux_lemma => kernel_rfl) rfl
    (fun f fn hf hfn => by
      obtain rfl : f = 8 := Option.some.inj ((show Tryz.prog.funcNamed "cloakroom/cloakroomlaw11.EngineApart" = some 8 by as_aux_lemma => kernel_rfl).symm.trans hf) |>.symm
      obtain rfl : fn = Tryz.f8 := (Option.some.inj (Tryz.func8.symm.trans hfn)).symm
      exact ⟨by as_aux_lemma => kernel_rfl, fun j t ht => by
        rw [Tryz.params8] at ht
        have hm : t ∈ ([3, 26, 3, 47] : List TypeId) := by simpa using Array.mem_of_getElem? ht
        have hall : (([3, 26, 3, 47] : List TypeId).all fun u => !Tryz.prog.wantsStandIn u) = true := by as_aux_lemma => kernel_rfl
        exact (show Tryz.prog.wantsStandIn t = false by simpa using List.all_eq_true.1 hall t hm)⟩)
    (by as_aux_lemma => kernel_rfl)
#print axioms engineApart_card
end Go.Proofs.YtpinkmndjabbjaaGreatDoor
