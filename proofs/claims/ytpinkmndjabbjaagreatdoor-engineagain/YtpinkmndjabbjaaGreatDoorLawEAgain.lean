/-
  EngineAgain (the tied card): whatever the pages, quotas, moment and operations, a shard that is loaded from another one's image has its image. Under the card's own conditions alone (the library's tables are as their text lays them).
-/
import Derived.Test.YtpinkmndjabbjaaGreatDoorLawEAgainB
namespace Go.Proofs.YtpinkmndjabbjaaGreatDoor
open Go.Proofs.YtpinkmndjabbjaaGreatDoor.It
open Go.Proofs.YtpinkmndjabbjaaGreatDoor.Lr
open Go.Proofs.YtpinkmndjabbjaaGreatDoor.Me
open Go.Proofs.YtpinkmndjabbjaaGreatDoor.Qt
open Go.Proofs.YtpinkmndjabbjaaGreatDoor.Sb
open Go.Proofs.YtpinkmndjabbjaaGreatDoor.Tb
open Go.Proofs.YtpinkmndjabbjaaGreatDoor.Wh
open Go.ChangeShapes Go.WideShapes Go.ChangeAt Go.RowKit
set_option linter.unusedSimpArgs false
set_option linter.unusedVariables false
set_option maxRecDepth 100000

theorem engineAgain_card : Rows.EngineAgainCardSaid :=
  Claim7.holds_tied_plain_at .later [] [.data, .data, .data] true Rows.engineAgainCard.stood.harness false
    engineAgain_proved (fun _ h => by cases h) (by as_aux_lemma => kernel_rfl) (fun _ h => by cases h) engineAgain_row_tie rfl ⟨rfl, rfl⟩ (by as_aux_lemma => kernel_rfl) rfl
    (fun f fn hf hfn => by
      obtain rfl : f = 10 := Option.some.inj ((show Tryz.prog.funcNamed "cloakroom/cloakroomlaw11.EngineAgain" = some 10 by as_aux_lemma => kernel_rfl).symm.trans hf) |>.symm
      obtain rfl : fn = Tryz.f10 := (Option.some.inj (Tryz.func10.symm.trans hfn)).symm
      exact ⟨by as_aux_lemma => kernel_rfl, fun j t ht => by
        rw [Tryz.params10] at ht
        have hm : t ∈ ([3, 26, 3, 47] : List TypeId) := by simpa using Array.mem_of_getElem? ht
        have hall : (([3, 26, 3, 47] : List TypeId).all fun u => !Tryz.prog.wantsStandIn u) = true := by as_aux_lemma => kernel_rfl
        exact (show Tryz.prog.wantsStandIn t = false by simpa using List.all_eq_true.1 hall t hm)⟩)
    (by as_aux_lemma => kernel_rfl)
#print axioms engineAgain_card
end Go.Proofs.YtpinkmndjabbjaaGreatDoor
