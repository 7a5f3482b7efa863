/-
  DERIVED. GIVEN WITH THE SEED: THE CARDS: each row of YtblbabekbpcdiaaGreatDoorRows.lean that lists a variable, with what it lists TIED to the program's text (the seventh form; the later family's looks); each row that meets fmt, with fmt's text TOLD by the authors' own Lean function (tested against real Go, not proved from fmt's source: count such statements apart). THE CARD IS WHAT COUNTS. Prove the row's statement (the work); the ties are given (YtblbabekbpcdiaaGreatDoorTie.lean); close each card by the builder's one call (the guide's Derived/Test/ToyasCard.lean, 'card_holds'). Laid BY PROGRAM, IN A SANDBOX (cutbox-door.mjs). By AI agents, Wed Nov 11 2026. No macro, syntax, notation, axiom, sorry.
-/
import Derived.Test.YtblbabekbpcdiaaGreatDoorRows
import GoSem.ClaimSeven
namespace Go.Proofs.YtblbabekbpcdiaaGreatDoor
namespace Rows

/-- THE TIED CARD OF 'cloakroomlaw17.PackedBoth'. -/
def packedBothCard : Claim7 := { stood := { row := packedBothRow, standIns := [], harness := (true, "df1c0d2c4813ccb1e26dc55ab15abebb3ed552087b13f50770e439e1d32d7e77"), looks := false }, kinds := [], alts := [], laidByText := true, laidKinds := [.data, .data, .data, .data, .data, .pinned], laidTests := true, laidLooks := .later }
def PackedBothCardSaid : Prop := Claim7.holds Tryz.pinned (.plain (OpenSpec.ofChange packedBothSpec)) packedBothCard

/-- THE SECOND FORM's CARD OF 'cloakroomlaw17.PackedBoth'. -/
def packedBothUptoCard : Claim7 := { stood := { row := packedBothUptoRow, standIns := [], harness := (true, "df1c0d2c4813ccb1e26dc55ab15abebb3ed552087b13f50770e439e1d32d7e77"), looks := false }, kinds := [], alts := [], laidByText := true, laidKinds := [.data, .data, .data, .data, .data, .pinned], laidTests := true, laidLooks := .later }
def PackedBothUptoCardSaid : Prop := Claim7.holds Tryz.pinned (.plain (OpenSpec.upto packedBothSpec)) packedBothUptoCard
end Rows
end Go.Proofs.YtblbabekbpcdiaaGreatDoor
