/-
  No cell of these rows narrows 'for every input' (looked for: loops, veiled, ifaces, maps, wideKeys, modest, calm, conditions, laid).
  DERIVED. THE GIVEN ROWS OF THIS SEAT. 5 by the template 'for every input the law returns true; each argument reads behind the call as it read before'; 0 by the template 'total and deterministic' (their statements: YtfdnkcahblpanaeTotals.lean).
  GIVEN WITH THE SEED: the statements are not yours to turn. If you find one false, say at which input.
  Laid BY PROGRAM, IN A SANDBOX (cutbox-rows.mjs): the forced cells as the released guide's own fill.sh prints them over the translation ee6c2fe2fd19f616… (all of the seat's roots in one cut). By AI agents, Wed Nov 11 2026. No macro, syntax, notation, axiom, sorry.
-/
import Derived.Test.YtfdnkcahblpanaeChecked
import GoSem.Claim
import GoSem.ClaimJoined
import GoSem.ClaimMapViews
import Derived.JoinedTies
import Derived.KernelRfl
namespace Go.Proofs.Ytfdnkcahblpanae
/- THE CELL 'sum', in the pinned program and in every row, IS THE sha256 OF THE DUMP (.gsa) THAT YtfdnkcahblpanaeProg.lean LOADS. Nothing in Lean hashes anything: it is a label: what it is worth is what the hold of that sum in a sandbox is worth. -/
noncomputable def Try.pinned : Pinned := { name := "ytfdnkcahblpanae", sum := "ee6c2fe2fd19f616b8a37968cb33cb60b1ea024ba7423f76108c90a9a553ed00", checked := Try.checked }
namespace Rows
def none {H : Type} : Left H := { results := [], args := [] }

/-- 'cloakroomlaw05.SlabTakes': WHATEVER THE INPUT: true; the input reads as it did. -/
def slabTakesSpec : ChangeSpec := { name := "slabTakes", fn := fun _ => fun
  | [d1, d2, d3, d4, d5, d6] => { results := [.lit (.bool true)], args := [d1, d2, d3, d4, d5, d6] }
  | _ => none }
def slabTakesRow : OpenClaim := { program := "ytfdnkcahblpanae", sum := "ee6c2fe2fd19f616b8a37968cb33cb60b1ea024ba7423f76108c90a9a553ed00", func := "cloakroom/cloakroomlaw05.SlabTakes", spec := "slabTakes", apart := false }
def SlabTakesSaid : Prop := slabTakesRow.holds Try.pinned (OpenSpec.ofChange slabTakesSpec)

/-- ITS FALSE NEIGHBOUR: 'it returns false'. Refute it at one input. -/
def slabTakesWrong : ChangeSpec := { name := "slabTakes", fn := fun _ => fun
  | [d1, d2, d3, d4, d5, d6] => { results := [.lit (.bool false)], args := [d1, d2, d3, d4, d5, d6] }
  | _ => none }
def SlabTakesWrongFalsely : Prop := slabTakesRow.holds Try.pinned (OpenSpec.ofChange slabTakesWrong)

/-- 'cloakroomlaw05.SlabSizes': WHATEVER THE INPUT: true; the input reads as it did. -/
def slabSizesSpec : ChangeSpec := { name := "slabSizes", fn := fun _ => fun
  | [d1, d2] => { results := [.lit (.bool true)], args := [d1, d2] }
  | _ => none }
def slabSizesRow : OpenClaim := { program := "ytfdnkcahblpanae", sum := "ee6c2fe2fd19f616b8a37968cb33cb60b1ea024ba7423f76108c90a9a553ed00", func := "cloakroom/cloakroomlaw05.SlabSizes", spec := "slabSizes", apart := false }
def SlabSizesSaid : Prop := slabSizesRow.holds Try.pinned (OpenSpec.ofChange slabSizesSpec)

/-- ITS FALSE NEIGHBOUR: 'it returns false'. Refute it at one input. -/
def slabSizesWrong : ChangeSpec := { name := "slabSizes", fn := fun _ => fun
  | [d1, d2] => { results := [.lit (.bool false)], args := [d1, d2] }
  | _ => none }
def SlabSizesWrongFalsely : Prop := slabSizesRow.holds Try.pinned (OpenSpec.ofChange slabSizesWrong)

/-- 'cloakroomlaw05.SlabOwns': WHATEVER THE INPUT: true; the input reads as it did. -/
def slabOwnsSpec : ChangeSpec := { name := "slabOwns", fn := fun _ => fun
  | [d1, d2, d3, d4] => { results := [.lit (.bool true)], args := [d1, d2, d3, d4] }
  | _ => none }
def slabOwnsRow : OpenClaim := { program := "ytfdnkcahblpanae", sum := "ee6c2fe2fd19f616b8a37968cb33cb60b1ea024ba7423f76108c90a9a553ed00", func := "cloakroom/cloakroomlaw05.SlabOwns", spec := "slabOwns", apart := false }
def SlabOwnsSaid : Prop := slabOwnsRow.holds Try.pinned (OpenSpec.ofChange slabOwnsSpec)

/-- ITS FALSE NEIGHBOUR: 'it returns false'. Refute it at one input. -/
def slabOwnsWrong : ChangeSpec := { name := "slabOwns", fn := fun _ => fun
  | [d1, d2, d3, d4] => { results := [.lit (.bool false)], args := [d1, d2, d3, d4] }
  | _ => none }
def SlabOwnsWrongFalsely : Prop := slabOwnsRow.holds Try.pinned (OpenSpec.ofChange slabOwnsWrong)

/-- 'cloakroomlaw05.SlabBack': WHATEVER THE INPUT: true; the input reads as it did. -/
def slabBackSpec : ChangeSpec := { name := "slabBack", fn := fun _ => fun
  | [d1, d2, d3, d4, d5, d6] => { results := [.lit (.bool true)], args := [d1, d2, d3, d4, d5, d6] }
  | _ => none }
def slabBackRow : OpenClaim := { program := "ytfdnkcahblpanae", sum := "ee6c2fe2fd19f616b8a37968cb33cb60b1ea024ba7423f76108c90a9a553ed00", func := "cloakroom/cloakroomlaw05.SlabBack", spec := "slabBack", apart := false }
def SlabBackSaid : Prop := slabBackRow.holds Try.pinned (OpenSpec.ofChange slabBackSpec)

/-- ITS FALSE NEIGHBOUR: 'it returns false'. Refute it at one input. -/
def slabBackWrong : ChangeSpec := { name := "slabBack", fn := fun _ => fun
  | [d1, d2, d3, d4, d5, d6] => { results := [.lit (.bool false)], args := [d1, d2, d3, d4, d5, d6] }
  | _ => none }
def SlabBackWrongFalsely : Prop := slabBackRow.holds Try.pinned (OpenSpec.ofChange slabBackWrong)

/-- 'cloakroomlaw05.SlabFills': WHATEVER THE INPUT: true; the input reads as it did. -/
def slabFillsSpec : ChangeSpec := { name := "slabFills", fn := fun _ => fun
  | [d1, d2, d3, d4] => { results := [.lit (.bool true)], args := [d1, d2, d3, d4] }
  | _ => none }
def slabFillsRow : OpenClaim := { program := "ytfdnkcahblpanae", sum := "ee6c2fe2fd19f616b8a37968cb33cb60b1ea024ba7423f76108c90a9a553ed00", func := "cloakroom/cloakroomlaw05.SlabFills", spec := "slabFills", apart := false }
def SlabFillsSaid : Prop := slabFillsRow.holds Try.pinned (OpenSpec.ofChange slabFillsSpec)

/-- ITS FALSE NEIGHBOUR: 'it returns false'. Refute it at one input. -/
def slabFillsWrong : ChangeSpec := { name := "slabFills", fn := fun _ => fun
  | [d1, d2, d3, d4] => { results := [.lit (.bool false)], args := [d1, d2, d3, d4] }
  | _ => none }
def SlabFillsWrongFalsely : Prop := slabFillsRow.holds Try.pinned (OpenSpec.ofChange slabFillsWrong)

/- THE SECOND FORM. 'bulk': how many values and letters a reading holds, each counted each time it is reached (what is shared counts as often as it is met; a slice's spare places count too). A statement '..UptoSaid' is the law's where the arguments, and the package variables that the reading takes, are together of bulk at most 1048576: NARROWER than '..Said'. Prove '..Said' where nothing that the law and all that it calls make is longer than what came in: it says more and counts as full. Else prove '..UptoSaid'. A law counts once. -/
mutual
def uptoBulk {H : Type} : DataW H → Nat
  | .lit (.string bytes) => bytes.length + 1
  | .lit _ => 1
  | .nil => 1
  | .ptr d => uptoBulk d + 1
  | .slice elems spare => uptoBulkAll elems + uptoBulkAll spare + 1
  | .agg parts => uptoBulkAll parts + 1
  | .iface _ d => uptoBulk d + 1
  | .map entries => uptoBulkEntries entries + 1
  | .held _ => 1
def uptoBulkAll {H : Type} : List (DataW H) → Nat
  | [] => 0
  | d :: r => uptoBulk d + uptoBulkAll r
def uptoBulkEntries {H : Type} : List (Lit × DataW H) → Nat
  | [] => 0
  | x :: r => uptoBulkEntry x + uptoBulkEntries r
def uptoBulkEntry {H : Type} : Lit × DataW H → Nat
  | (.string bytes, d) => bytes.length + uptoBulk d + 1
  | (_, d) => uptoBulk d + 1
 end
def uptoSmall : (H : Type) → List (DataW H) → Bool := fun _ ds => decide (uptoBulkAll ds ≤ 1048576)
def OpenSpec.upto (s : _root_.Go.ChangeSpec) : _root_.Go.OpenSpec := { _root_.Go.OpenSpec.ofChange s with cond := some uptoSmall }

/-- 'cloakroomlaw05.SlabTakes', WHERE WHAT IT READS IS OF BULK AT MOST 1048576: true; the input reads as it did. -/
def slabTakesUptoRow : OpenClaim := { program := "ytfdnkcahblpanae", sum := "ee6c2fe2fd19f616b8a37968cb33cb60b1ea024ba7423f76108c90a9a553ed00", func := "cloakroom/cloakroomlaw05.SlabTakes", spec := "slabTakes", apart := false, narrowed := true }
def SlabTakesUptoSaid : Prop := slabTakesUptoRow.holds Try.pinned (OpenSpec.upto slabTakesSpec)

/-- 'cloakroomlaw05.SlabSizes', WHERE WHAT IT READS IS OF BULK AT MOST 1048576: true; the input reads as it did. -/
def slabSizesUptoRow : OpenClaim := { program := "ytfdnkcahblpanae", sum := "ee6c2fe2fd19f616b8a37968cb33cb60b1ea024ba7423f76108c90a9a553ed00", func := "cloakroom/cloakroomlaw05.SlabSizes", spec := "slabSizes", apart := false, narrowed := true }
def SlabSizesUptoSaid : Prop := slabSizesUptoRow.holds Try.pinned (OpenSpec.upto slabSizesSpec)

/-- 'cloakroomlaw05.SlabOwns', WHERE WHAT IT READS IS OF BULK AT MOST 1048576: true; the input reads as it did. -/
def slabOwnsUptoRow : OpenClaim := { program := "ytfdnkcahblpanae", sum := "ee6c2fe2fd19f616b8a37968cb33cb60b1ea024ba7423f76108c90a9a553ed00", func := "cloakroom/cloakroomlaw05.SlabOwns", spec := "slabOwns", apart := false, narrowed := true }
def SlabOwnsUptoSaid : Prop := slabOwnsUptoRow.holds Try.pinned (OpenSpec.upto slabOwnsSpec)

/-- 'cloakroomlaw05.SlabBack', WHERE WHAT IT READS IS OF BULK AT MOST 1048576: true; the input reads as it did. -/
def slabBackUptoRow : OpenClaim := { program := "ytfdnkcahblpanae", sum := "ee6c2fe2fd19f616b8a37968cb33cb60b1ea024ba7423f76108c90a9a553ed00", func := "cloakroom/cloakroomlaw05.SlabBack", spec := "slabBack", apart := false, narrowed := true }
def SlabBackUptoSaid : Prop := slabBackUptoRow.holds Try.pinned (OpenSpec.upto slabBackSpec)

/-- 'cloakroomlaw05.SlabFills', WHERE WHAT IT READS IS OF BULK AT MOST 1048576: true; the input reads as it did. -/
def slabFillsUptoRow : OpenClaim := { program := "ytfdnkcahblpanae", sum := "ee6c2fe2fd19f616b8a37968cb33cb60b1ea024ba7423f76108c90a9a553ed00", func := "cloakroom/cloakroomlaw05.SlabFills", spec := "slabFills", apart := false, narrowed := true }
def SlabFillsUptoSaid : Prop := slabFillsUptoRow.holds Try.pinned (OpenSpec.upto slabFillsSpec)

end Rows
end Go.Proofs.Ytfdnkcahblpanae
