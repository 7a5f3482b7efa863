/-
  DERIVED. GIVEN WITH THE SEED: THE CARDS: each row of YtpjlcffpeadohaaDoorRows.lean that lists a variable, with what it lists TIED to the program's text (the seventh form; the later family's looks); each row that meets fmt, with fmt's text TOLD by the authors' own Lean function (tested against real Go, not proved from fmt's source: count such statements apart). THE CARD IS WHAT COUNTS. Prove the row's statement (the work); the ties are given (YtpjlcffpeadohaaDoorTie.lean); close each card by the builder's one call (the guide's Derived/Test/ToyasCard.lean, 'card_holds'). Laid BY PROGRAM, IN A SANDBOX (cutbox-door.mjs). By AI agents, Wed Nov 11 2026. No macro, syntax, notation, axiom, sorry.
-/
import Derived.Test.YtpjlcffpeadohaaDoorRows
import GoSem.ClaimSeven
namespace Go.Proofs.YtpjlcffpeadohaaDoor
namespace Rows

/-- THE TIED CARD OF 'cloakroomlaw09.ItemNames'. -/
def itemNamesCard : Claim7 := { stood := { row := itemNamesRow, standIns := [], harness := (true, "3900ac9e90ed0f29caedc8f1e5aadda697097a1eff4b816f855f291c62efad32"), looks := false }, kinds := [], alts := [], laidByText := true, laidKinds := [.data, .data, .data], laidTests := true, laidLooks := .later }
def ItemNamesCardSaid : Prop := Claim7.holds Tryd.pinned (.plain (OpenSpec.ofChange itemNamesSpec)) itemNamesCard

/-- THE TIED CARD OF 'cloakroomlaw09.ItemCounts'. -/
def itemCountsCard : Claim7 := { stood := { row := itemCountsRow, standIns := [], harness := (true, "3900ac9e90ed0f29caedc8f1e5aadda697097a1eff4b816f855f291c62efad32"), looks := false }, kinds := [], alts := [], laidByText := true, laidKinds := [.data, .data, .data], laidTests := true, laidLooks := .later }
def ItemCountsCardSaid : Prop := Claim7.holds Tryd.pinned (.plain (OpenSpec.ofChange itemCountsSpec)) itemCountsCard

/-- THE TIED CARD OF 'cloakroomlaw09.ItemBack'. -/
def itemBackCard : Claim7 := { stood := { row := itemBackRow, standIns := [], harness := (true, "3900ac9e90ed0f29caedc8f1e5aadda697097a1eff4b816f855f291c62efad32"), looks := false }, kinds := [], alts := [], laidByText := true, laidKinds := [.data, .data, .data], laidTests := true, laidLooks := .later }
def ItemBackCardSaid : Prop := Claim7.holds Tryd.pinned (.plain (OpenSpec.ofChange itemBackSpec)) itemBackCard

/-- THE TIED CARD OF 'cloakroomlaw09.ItemTurns'. -/
def itemTurnsCard : Claim7 := { stood := { row := itemTurnsRow, standIns := [], harness := (true, "3900ac9e90ed0f29caedc8f1e5aadda697097a1eff4b816f855f291c62efad32"), looks := false }, kinds := [], alts := [], laidByText := true, laidKinds := [.data, .data, .data], laidTests := true, laidLooks := .later }
def ItemTurnsCardSaid : Prop := Claim7.holds Tryd.pinned (.plain (OpenSpec.ofChange itemTurnsSpec)) itemTurnsCard

/-- THE SECOND FORM's CARD OF 'cloakroomlaw09.ItemNames'. -/
def itemNamesUptoCard : Claim7 := { stood := { row := itemNamesUptoRow, standIns := [], harness := (true, "3900ac9e90ed0f29caedc8f1e5aadda697097a1eff4b816f855f291c62efad32"), looks := false }, kinds := [], alts := [], laidByText := true, laidKinds := [.data, .data, .data], laidTests := true, laidLooks := .later }
def ItemNamesUptoCardSaid : Prop := Claim7.holds Tryd.pinned (.plain (OpenSpec.upto itemNamesSpec)) itemNamesUptoCard

/-- THE SECOND FORM's CARD OF 'cloakroomlaw09.ItemCounts'. -/
def itemCountsUptoCard : Claim7 := { stood := { row := itemCountsUptoRow, standIns := [], harness := (true, "3900ac9e90ed0f29caedc8f1e5aadda697097a1eff4b816f855f291c62efad32"), looks := false }, kinds := [], alts := [], laidByText := true, laidKinds := [.data, .data, .data], laidTests := true, laidLooks := .later }
def ItemCountsUptoCardSaid : Prop := Claim7.holds Tryd.pinned (.plain (OpenSpec.upto itemCountsSpec)) itemCountsUptoCard

/-- THE SECOND FORM's CARD OF 'cloakroomlaw09.ItemBack'. -/
def itemBackUptoCard : Claim7 := { stood := { row := itemBackUptoRow, standIns := [], harness := (true, "3900ac9e90ed0f29caedc8f1e5aadda697097a1eff4b816f855f291c62efad32"), looks := false }, kinds := [], alts := [], laidByText := true, laidKinds := [.data, .data, .data], laidTests := true, laidLooks := .later }
def ItemBackUptoCardSaid : Prop := Claim7.holds Tryd.pinned (.plain (OpenSpec.upto itemBackSpec)) itemBackUptoCard

/-- THE SECOND FORM's CARD OF 'cloakroomlaw09.ItemTurns'. -/
def itemTurnsUptoCard : Claim7 := { stood := { row := itemTurnsUptoRow, standIns := [], harness := (true, "3900ac9e90ed0f29caedc8f1e5aadda697097a1eff4b816f855f291c62efad32"), looks := false }, kinds := [], alts := [], laidByText := true, laidKinds := [.data, .data, .data], laidTests := true, laidLooks := .later }
def ItemTurnsUptoCardSaid : Prop := Claim7.holds Tryd.pinned (.plain (OpenSpec.upto itemTurnsSpec)) itemTurnsUptoCard
end Rows
end Go.Proofs.YtpjlcffpeadohaaDoor
