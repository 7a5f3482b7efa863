/-
  No cell of these rows narrows 'for every input' (looked for: loops, veiled, ifaces, maps, wideKeys, modest, calm, conditions, laid).
  DERIVED. THE GIVEN ROWS OF THIS SEAT. 9 by the template 'for every input the law returns true; each argument reads behind the call as it read before'; 0 by the template 'total and deterministic' (their statements: YtkcgleahbhmggaaTotals.lean).
  GIVEN WITH THE SEED: the statements are not yours to turn. If you find one false, say at which input.
  Laid BY PROGRAM, IN A SANDBOX (cutbox-rows.mjs): the forced cells as the released guide's own fill.sh prints them over the translation 7b1ca0b28d764224… (all of the seat's roots in one cut). By AI agents, Wed Nov 11 2026. No macro, syntax, notation, axiom, sorry.
-/
import Derived.Test.YtkcgleahbhmggaaChecked
import GoSem.Claim
import GoSem.ClaimJoined
import GoSem.ClaimMapViews
import Derived.JoinedTies
import Derived.KernelRfl
namespace Go.Proofs.Ytkcgleahbhmggaa
/- THE CELL 'sum', in the pinned program and in every row, IS THE sha256 OF THE DUMP (.gsa) THAT YtkcgleahbhmggaaProg.lean LOADS. Nothing in Lean hashes anything: it is a label: what it is worth is what the hold of that sum in a sandbox is worth. -/
noncomputable def Try.pinned : Pinned := { name := "ytkcgleahbhmggaa", sum := "7b1ca0b28d764224c22f34deaacd2360aacafafb19efd5d05e5b93678a663ec8", checked := Try.checked }
namespace Rows
def none {H : Type} : Left H := { results := [], args := [] }

/-- 'cloakroomlaw08.QuotaNames': WHATEVER THE INPUT: true; the input reads as it did. -/
def quotaNamesSpec : ChangeSpec := { name := "quotaNames", fn := fun _ => fun
  | [] => { results := [.lit (.bool true)], args := [] }
  | _ => none }
def quotaNamesRow : OpenClaim := { program := "ytkcgleahbhmggaa", sum := "7b1ca0b28d764224c22f34deaacd2360aacafafb19efd5d05e5b93678a663ec8", func := "cloakroom/cloakroomlaw08.QuotaNames", spec := "quotaNames", apart := false }
def QuotaNamesSaid : Prop := quotaNamesRow.holds Try.pinned (OpenSpec.ofChange quotaNamesSpec)

/-- ITS FALSE NEIGHBOUR: 'it returns false'. Refute it at one input. -/
def quotaNamesWrong : ChangeSpec := { name := "quotaNames", fn := fun _ => fun
  | [] => { results := [.lit (.bool false)], args := [] }
  | _ => none }
def QuotaNamesWrongFalsely : Prop := quotaNamesRow.holds Try.pinned (OpenSpec.ofChange quotaNamesWrong)

/-- 'cloakroomlaw08.QuotaAsks': WHATEVER THE INPUT: true; the input reads as it did. -/
def quotaAsksSpec : ChangeSpec := { name := "quotaAsks", fn := fun _ => fun
  | [d1, d2, d3, d4, d5] => { results := [.lit (.bool true)], args := [d1, d2, d3, d4, d5] }
  | _ => none }
def quotaAsksRow : OpenClaim := { program := "ytkcgleahbhmggaa", sum := "7b1ca0b28d764224c22f34deaacd2360aacafafb19efd5d05e5b93678a663ec8", func := "cloakroom/cloakroomlaw08.QuotaAsks", spec := "quotaAsks", apart := false }
def QuotaAsksSaid : Prop := quotaAsksRow.holds Try.pinned (OpenSpec.ofChange quotaAsksSpec)

/-- ITS FALSE NEIGHBOUR: 'it returns false'. Refute it at one input. -/
def quotaAsksWrong : ChangeSpec := { name := "quotaAsks", fn := fun _ => fun
  | [d1, d2, d3, d4, d5] => { results := [.lit (.bool false)], args := [d1, d2, d3, d4, d5] }
  | _ => none }
def QuotaAsksWrongFalsely : Prop := quotaAsksRow.holds Try.pinned (OpenSpec.ofChange quotaAsksWrong)

/-- 'cloakroomlaw08.QuotaFree': WHATEVER THE INPUT: true; the input reads as it did. -/
def quotaFreeSpec : ChangeSpec := { name := "quotaFree", fn := fun _ => fun
  | [d1, d2, d3, d4] => { results := [.lit (.bool true)], args := [d1, d2, d3, d4] }
  | _ => none }
def quotaFreeRow : OpenClaim := { program := "ytkcgleahbhmggaa", sum := "7b1ca0b28d764224c22f34deaacd2360aacafafb19efd5d05e5b93678a663ec8", func := "cloakroom/cloakroomlaw08.QuotaFree", spec := "quotaFree", apart := false }
def QuotaFreeSaid : Prop := quotaFreeRow.holds Try.pinned (OpenSpec.ofChange quotaFreeSpec)

/-- ITS FALSE NEIGHBOUR: 'it returns false'. Refute it at one input. -/
def quotaFreeWrong : ChangeSpec := { name := "quotaFree", fn := fun _ => fun
  | [d1, d2, d3, d4] => { results := [.lit (.bool false)], args := [d1, d2, d3, d4] }
  | _ => none }
def QuotaFreeWrongFalsely : Prop := quotaFreeRow.holds Try.pinned (OpenSpec.ofChange quotaFreeWrong)

/-- 'cloakroomlaw08.QuotaSets': WHATEVER THE INPUT: true; the input reads as it did. -/
def quotaSetsSpec : ChangeSpec := { name := "quotaSets", fn := fun _ => fun
  | [d1, d2, d3, d4] => { results := [.lit (.bool true)], args := [d1, d2, d3, d4] }
  | _ => none }
def quotaSetsRow : OpenClaim := { program := "ytkcgleahbhmggaa", sum := "7b1ca0b28d764224c22f34deaacd2360aacafafb19efd5d05e5b93678a663ec8", func := "cloakroom/cloakroomlaw08.QuotaSets", spec := "quotaSets", apart := false }
def QuotaSetsSaid : Prop := quotaSetsRow.holds Try.pinned (OpenSpec.ofChange quotaSetsSpec)

/-- ITS FALSE NEIGHBOUR: 'it returns false'. Refute it at one input. -/
def quotaSetsWrong : ChangeSpec := { name := "quotaSets", fn := fun _ => fun
  | [d1, d2, d3, d4] => { results := [.lit (.bool false)], args := [d1, d2, d3, d4] }
  | _ => none }
def QuotaSetsWrongFalsely : Prop := quotaSetsRow.holds Try.pinned (OpenSpec.ofChange quotaSetsWrong)

/-- 'cloakroomlaw08.QuotaOver': WHATEVER THE INPUT: true; the input reads as it did. -/
def quotaOverSpec : ChangeSpec := { name := "quotaOver", fn := fun _ => fun
  | [d1, d2, d3] => { results := [.lit (.bool true)], args := [d1, d2, d3] }
  | _ => none }
def quotaOverRow : OpenClaim := { program := "ytkcgleahbhmggaa", sum := "7b1ca0b28d764224c22f34deaacd2360aacafafb19efd5d05e5b93678a663ec8", func := "cloakroom/cloakroomlaw08.QuotaOver", spec := "quotaOver", apart := false }
def QuotaOverSaid : Prop := quotaOverRow.holds Try.pinned (OpenSpec.ofChange quotaOverSpec)

/-- ITS FALSE NEIGHBOUR: 'it returns false'. Refute it at one input. -/
def quotaOverWrong : ChangeSpec := { name := "quotaOver", fn := fun _ => fun
  | [d1, d2, d3] => { results := [.lit (.bool false)], args := [d1, d2, d3] }
  | _ => none }
def QuotaOverWrongFalsely : Prop := quotaOverRow.holds Try.pinned (OpenSpec.ofChange quotaOverWrong)

/-- 'cloakroomlaw05.SlabNames': WHATEVER THE INPUT: true; the input reads as it did. -/
def slabNamesSpec : ChangeSpec := { name := "slabNames", fn := fun _ => fun
  | [] => { results := [.lit (.bool true)], args := [] }
  | _ => none }
def slabNamesRow : OpenClaim := { program := "ytkcgleahbhmggaa", sum := "7b1ca0b28d764224c22f34deaacd2360aacafafb19efd5d05e5b93678a663ec8", func := "cloakroom/cloakroomlaw05.SlabNames", spec := "slabNames", apart := false }
def SlabNamesSaid : Prop := slabNamesRow.holds Try.pinned (OpenSpec.ofChange slabNamesSpec)

/-- ITS FALSE NEIGHBOUR: 'it returns false'. Refute it at one input. -/
def slabNamesWrong : ChangeSpec := { name := "slabNames", fn := fun _ => fun
  | [] => { results := [.lit (.bool false)], args := [] }
  | _ => none }
def SlabNamesWrongFalsely : Prop := slabNamesRow.holds Try.pinned (OpenSpec.ofChange slabNamesWrong)

/-- 'cloakroomlaw05.SlabTakes': WHATEVER THE INPUT: true; the input reads as it did. -/
def slabTakesSpec : ChangeSpec := { name := "slabTakes", fn := fun _ => fun
  | [d1, d2, d3, d4, d5, d6] => { results := [.lit (.bool true)], args := [d1, d2, d3, d4, d5, d6] }
  | _ => none }
def slabTakesRow : OpenClaim := { program := "ytkcgleahbhmggaa", sum := "7b1ca0b28d764224c22f34deaacd2360aacafafb19efd5d05e5b93678a663ec8", func := "cloakroom/cloakroomlaw05.SlabTakes", spec := "slabTakes", apart := false }
def SlabTakesSaid : Prop := slabTakesRow.holds Try.pinned (OpenSpec.ofChange slabTakesSpec)

/-- ITS FALSE NEIGHBOUR: 'it returns false'. Refute it at one input. -/
def slabTakesWrong : ChangeSpec := { name := "slabTakes", fn := fun _ => fun
  | [d1, d2, d3, d4, d5, d6] => { results := [.lit (.bool false)], args := [d1, d2, d3, d4, d5, d6] }
  | _ => none }
def SlabTakesWrongFalsely : Prop := slabTakesRow.holds Try.pinned (OpenSpec.ofChange slabTakesWrong)

/-- 'cloakroomlaw05.SlabOwns': WHATEVER THE INPUT: true; the input reads as it did. -/
def slabOwnsSpec : ChangeSpec := { name := "slabOwns", fn := fun _ => fun
  | [d1, d2, d3, d4] => { results := [.lit (.bool true)], args := [d1, d2, d3, d4] }
  | _ => none }
def slabOwnsRow : OpenClaim := { program := "ytkcgleahbhmggaa", sum := "7b1ca0b28d764224c22f34deaacd2360aacafafb19efd5d05e5b93678a663ec8", func := "cloakroom/cloakroomlaw05.SlabOwns", spec := "slabOwns", apart := false }
def SlabOwnsSaid : Prop := slabOwnsRow.holds Try.pinned (OpenSpec.ofChange slabOwnsSpec)

/-- ITS FALSE NEIGHBOUR: 'it returns false'. Refute it at one input. -/
def slabOwnsWrong : ChangeSpec := { name := "slabOwns", fn := fun _ => fun
  | [d1, d2, d3, d4] => { results := [.lit (.bool false)], args := [d1, d2, d3, d4] }
  | _ => none }
def SlabOwnsWrongFalsely : Prop := slabOwnsRow.holds Try.pinned (OpenSpec.ofChange slabOwnsWrong)

/-- 'cloakroomlaw05.SlabBack': WHATEVER THE INPUT: true; the input reads as it did. -/
def slabBackSpec : ChangeSpec := { name := "slabBack", fn := fun _ => fun
  | [d1, d2, d3, d4, d5, d6] => { results := [.lit (.bool true)], args := [d1, d2, d3, d4, d5, d6] }
  | _ => none }
def slabBackRow : OpenClaim := { program := "ytkcgleahbhmggaa", sum := "7b1ca0b28d764224c22f34deaacd2360aacafafb19efd5d05e5b93678a663ec8", func := "cloakroom/cloakroomlaw05.SlabBack", spec := "slabBack", apart := false }
def SlabBackSaid : Prop := slabBackRow.holds Try.pinned (OpenSpec.ofChange slabBackSpec)

/-- ITS FALSE NEIGHBOUR: 'it returns false'. Refute it at one input. -/
def slabBackWrong : ChangeSpec := { name := "slabBack", fn := fun _ => fun
  | [d1, d2, d3, d4, d5, d6] => { results := [.lit (.bool false)], args := [d1, d2, d3, d4, d5, d6] }
  | _ => none }
def SlabBackWrongFalsely : Prop := slabBackRow.holds Try.pinned (OpenSpec.ofChange slabBackWrong)

/- THE SECOND FORM. 'bulk': how many values and letters a reading holds, each counted each time it is reached (what is shared counts as often as it is met; a slice's spare places count too). A statement '..UptoSaid' is the law's where the arguments, and the package variables that the reading takes, are together of bulk at most 1048576: NARROWER than '..Said'. Prove '..Said' where nothing that the law and all that it calls make is longer than what came in: it says more and counts as full. Else prove '..UptoSaid'. A law counts once. -/
mutual
def uptoBulk {H : Type} : DataW H → Nat
  | .lit (.string bytes) => bytes.length + 1
  | .lit _ => 1
  | .nil => 1
  | .ptr d => uptoBulk d + 1
  | .slice elems spare => uptoBulkAll elems + uptoBulkAll spare + 1
  | .agg parts => uptoBulkAll parts + 1
  | .iface _ d => uptoBulk d + 1
  | .map entries => uptoBulkEntries entries + 1
  | .held _ => 1
def uptoBulkAll {H : Type} : List (DataW H) → Nat
  | [] => 0
  | d :: r => uptoBulk d + uptoBulkAll r
def uptoBulkEntries {H : Type} : List (Lit × DataW H) → Nat
  | [] => 0
  | x :: r => uptoBulkEntry x + uptoBulkEntries r
def uptoBulkEntry {H : Type} : Lit × DataW H → Nat
  | (.string bytes, d) => bytes.length + uptoBulk d + 1
  | (_, d) => uptoBulk d + 1
 end
def uptoSmall : (H : Type) → List (DataW H) → Bool := fun _ ds => decide (uptoBulkAll ds ≤ 1048576)
def OpenSpec.upto (s : _root_.Go.ChangeSpec) : _root_.Go.OpenSpec := { _root_.Go.OpenSpec.ofChange s with cond := some uptoSmall }

/-- 'cloakroomlaw08.QuotaNames', WHERE WHAT IT READS IS OF BULK AT MOST 1048576: true; the input reads as it did. -/
def quotaNamesUptoRow : OpenClaim := { program := "ytkcgleahbhmggaa", sum := "7b1ca0b28d764224c22f34deaacd2360aacafafb19efd5d05e5b93678a663ec8", func := "cloakroom/cloakroomlaw08.QuotaNames", spec := "quotaNames", apart := false, narrowed := true }
def QuotaNamesUptoSaid : Prop := quotaNamesUptoRow.holds Try.pinned (OpenSpec.upto quotaNamesSpec)

/-- 'cloakroomlaw08.QuotaAsks', WHERE WHAT IT READS IS OF BULK AT MOST 1048576: true; the input reads as it did. -/
def quotaAsksUptoRow : OpenClaim := { program := "ytkcgleahbhmggaa", sum := "7b1ca0b28d764224c22f34deaacd2360aacafafb19efd5d05e5b93678a663ec8", func := "cloakroom/cloakroomlaw08.QuotaAsks", spec := "quotaAsks", apart := false, narrowed := true }
def QuotaAsksUptoSaid : Prop := quotaAsksUptoRow.holds Try.pinned (OpenSpec.upto quotaAsksSpec)

/-- 'cloakroomlaw08.QuotaFree', WHERE WHAT IT READS IS OF BULK AT MOST 1048576: true; the input reads as it did. -/
def quotaFreeUptoRow : OpenClaim := { program := "ytkcgleahbhmggaa", sum := "7b1ca0b28d764224c22f34deaacd2360aacafafb19efd5d05e5b93678a663ec8", func := "cloakroom/cloakroomlaw08.QuotaFree", spec := "quotaFree", apart := false, narrowed := true }
def QuotaFreeUptoSaid : Prop := quotaFreeUptoRow.holds Try.pinned (OpenSpec.upto quotaFreeSpec)

/-- 'cloakroomlaw08.QuotaSets', WHERE WHAT IT READS IS OF BULK AT MOST 1048576: true; the input reads as it did. -/
def quotaSetsUptoRow : OpenClaim := { program := "ytkcgleahbhmggaa", sum := "7b1ca0b28d764224c22f34deaacd2360aacafafb19efd5d05e5b93678a663ec8", func := "cloakroom/cloakroomlaw08.QuotaSets", spec := "quotaSets", apart := false, narrowed := true }
def QuotaSetsUptoSaid : Prop := quotaSetsUptoRow.holds Try.pinned (OpenSpec.upto quotaSetsSpec)

/-- 'cloakroomlaw08.QuotaOver', WHERE WHAT IT READS IS OF BULK AT MOST 1048576: true; the input reads as it did. -/
def quotaOverUptoRow : OpenClaim := { program := "ytkcgleahbhmggaa", sum := "7b1ca0b28d764224c22f34deaacd2360aacafafb19efd5d05e5b93678a663ec8", func := "cloakroom/cloakroomlaw08.QuotaOver", spec := "quotaOver", apart := false, narrowed := true }
def QuotaOverUptoSaid : Prop := quotaOverUptoRow.holds Try.pinned (OpenSpec.upto quotaOverSpec)

/-- 'cloakroomlaw05.SlabNames', WHERE WHAT IT READS IS OF BULK AT MOST 1048576: true; the input reads as it did. -/
def slabNamesUptoRow : OpenClaim := { program := "ytkcgleahbhmggaa", sum := "7b1ca0b28d764224c22f34deaacd2360aacafafb19efd5d05e5b93678a663ec8", func := "cloakroom/cloakroomlaw05.SlabNames", spec := "slabNames", apart := false, narrowed := true }
def SlabNamesUptoSaid : Prop := slabNamesUptoRow.holds Try.pinned (OpenSpec.upto slabNamesSpec)

/-- 'cloakroomlaw05.SlabTakes', WHERE WHAT IT READS IS OF BULK AT MOST 1048576: true; the input reads as it did. -/
def slabTakesUptoRow : OpenClaim := { program := "ytkcgleahbhmggaa", sum := "7b1ca0b28d764224c22f34deaacd2360aacafafb19efd5d05e5b93678a663ec8", func := "cloakroom/cloakroomlaw05.SlabTakes", spec := "slabTakes", apart := false, narrowed := true }
def SlabTakesUptoSaid : Prop := slabTakesUptoRow.holds Try.pinned (OpenSpec.upto slabTakesSpec)

/-- 'cloakroomlaw05.SlabOwns', WHERE WHAT IT READS IS OF BULK AT MOST 1048576: true; the input reads as it did. -/
def slabOwnsUptoRow : OpenClaim := { program := "ytkcgleahbhmggaa", sum := "7b1ca0b28d764224c22f34deaacd2360aacafafb19efd5d05e5b93678a663ec8", func := "cloakroom/cloakroomlaw05.SlabOwns", spec := "slabOwns", apart := false, narrowed := true }
def SlabOwnsUptoSaid : Prop := slabOwnsUptoRow.holds Try.pinned (OpenSpec.upto slabOwnsSpec)

/-- 'cloakroomlaw05.SlabBack', WHERE WHAT IT READS IS OF BULK AT MOST 1048576: true; the input reads as it did. -/
def slabBackUptoRow : OpenClaim := { program := "ytkcgleahbhmggaa", sum := "7b1ca0b28d764224c22f34deaacd2360aacafafb19efd5d05e5b93678a663ec8", func := "cloakroom/cloakroomlaw05.SlabBack", spec := "slabBack", apart := false, narrowed := true }
def SlabBackUptoSaid : Prop := slabBackUptoRow.holds Try.pinned (OpenSpec.upto slabBackSpec)

end Rows
end Go.Proofs.Ytkcgleahbhmggaa
