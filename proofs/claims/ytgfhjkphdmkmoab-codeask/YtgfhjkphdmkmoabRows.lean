/-
  No cell of these rows narrows 'for every input' (looked for: loops, veiled, ifaces, maps, wideKeys, modest, calm, conditions, laid).
  DERIVED. THE GIVEN ROWS OF THIS SEAT. 6 by the template 'for every input the law returns true; each argument reads behind the call as it read before'; 0 by the template 'total and deterministic' (their statements: YtgfhjkphdmkmoabTotals.lean).
  GIVEN WITH THE SEED: the statements are not yours to turn. If you find one false, say at which input.
  Laid BY PROGRAM, IN A SANDBOX (cutbox-rows.mjs): the forced cells as the released guide's own fill.sh prints them over the translation 785cc4941ae80dd8… (all of the seat's roots in one cut). By AI agents, Wed Nov 11 2026. No macro, syntax, notation, axiom, sorry.
-/
import Derived.Test.YtgfhjkphdmkmoabChecked
import GoSem.Claim
import GoSem.ClaimJoined
import GoSem.ClaimMapViews
import Derived.JoinedTies
import Derived.KernelRfl
namespace Go.Proofs.Ytgfhjkphdmkmoab
/- THE CELL 'sum', in the pinned program and in every row, IS THE sha256 OF THE DUMP (.gsa) THAT YtgfhjkphdmkmoabProg.lean LOADS. Nothing in Lean hashes anything: it is a label: what it is worth is what the hold of that sum in a sandbox is worth. -/
noncomputable def Try.pinned : Pinned := { name := "ytgfhjkphdmkmoab", sum := "785cc4941ae80dd86033d21f2e2e8e01132503bf87fba0972251e94c6ab2f0ef", checked := Try.checked }
namespace Rows
def none {H : Type} : Left H := { results := [], args := [] }

/-- 'cloakroomlaw01.CodeRecord': WHATEVER THE INPUT: true; the input reads as it did. -/
def codeRecordSpec : ChangeSpec := { name := "codeRecord", fn := fun _ => fun
  | [d1, d2] => { results := [.lit (.bool true)], args := [d1, d2] }
  | _ => none }
def codeRecordRow : OpenClaim := { program := "ytgfhjkphdmkmoab", sum := "785cc4941ae80dd86033d21f2e2e8e01132503bf87fba0972251e94c6ab2f0ef", func := "cloakroom/cloakroomlaw01.CodeRecord", spec := "codeRecord", apart := false }
def CodeRecordSaid : Prop := codeRecordRow.holds Try.pinned (OpenSpec.ofChange codeRecordSpec)

/-- ITS FALSE NEIGHBOUR: 'it returns false'. Refute it at one input. -/
def codeRecordWrong : ChangeSpec := { name := "codeRecord", fn := fun _ => fun
  | [d1, d2] => { results := [.lit (.bool false)], args := [d1, d2] }
  | _ => none }
def CodeRecordWrongFalsely : Prop := codeRecordRow.holds Try.pinned (OpenSpec.ofChange codeRecordWrong)

/-- 'cloakroomlaw01.CodeAsk': WHATEVER THE INPUT: true; the input reads as it did. -/
def codeAskSpec : ChangeSpec := { name := "codeAsk", fn := fun _ => fun
  | [d1, d2] => { results := [.lit (.bool true)], args := [d1, d2] }
  | _ => none }
def codeAskRow : OpenClaim := { program := "ytgfhjkphdmkmoab", sum := "785cc4941ae80dd86033d21f2e2e8e01132503bf87fba0972251e94c6ab2f0ef", func := "cloakroom/cloakroomlaw01.CodeAsk", spec := "codeAsk", apart := false }
def CodeAskSaid : Prop := codeAskRow.holds Try.pinned (OpenSpec.ofChange codeAskSpec)

/-- ITS FALSE NEIGHBOUR: 'it returns false'. Refute it at one input. -/
def codeAskWrong : ChangeSpec := { name := "codeAsk", fn := fun _ => fun
  | [d1, d2] => { results := [.lit (.bool false)], args := [d1, d2] }
  | _ => none }
def CodeAskWrongFalsely : Prop := codeAskRow.holds Try.pinned (OpenSpec.ofChange codeAskWrong)

/-- 'cloakroomlaw01.CodePlace': WHATEVER THE INPUT: true; the input reads as it did. -/
def codePlaceSpec : ChangeSpec := { name := "codePlace", fn := fun _ => fun
  | [d1, d2, d3, d4, d5] => { results := [.lit (.bool true)], args := [d1, d2, d3, d4, d5] }
  | _ => none }
def codePlaceRow : OpenClaim := { program := "ytgfhjkphdmkmoab", sum := "785cc4941ae80dd86033d21f2e2e8e01132503bf87fba0972251e94c6ab2f0ef", func := "cloakroom/cloakroomlaw01.CodePlace", spec := "codePlace", apart := false }
def CodePlaceSaid : Prop := codePlaceRow.holds Try.pinned (OpenSpec.ofChange codePlaceSpec)

/-- ITS FALSE NEIGHBOUR: 'it returns false'. Refute it at one input. -/
def codePlaceWrong : ChangeSpec := { name := "codePlace", fn := fun _ => fun
  | [d1, d2, d3, d4, d5] => { results := [.lit (.bool false)], args := [d1, d2, d3, d4, d5] }
  | _ => none }
def CodePlaceWrongFalsely : Prop := codePlaceRow.holds Try.pinned (OpenSpec.ofChange codePlaceWrong)

/-- 'cloakroomlaw02.DiskNames': WHATEVER THE INPUT: true; the input reads as it did. -/
def diskNamesSpec : ChangeSpec := { name := "diskNames", fn := fun _ => fun
  | [] => { results := [.lit (.bool true)], args := [] }
  | _ => none }
def diskNamesRow : OpenClaim := { program := "ytgfhjkphdmkmoab", sum := "785cc4941ae80dd86033d21f2e2e8e01132503bf87fba0972251e94c6ab2f0ef", func := "cloakroom/cloakroomlaw02.DiskNames", spec := "diskNames", apart := false }
def DiskNamesSaid : Prop := diskNamesRow.holds Try.pinned (OpenSpec.ofChange diskNamesSpec)

/-- ITS FALSE NEIGHBOUR: 'it returns false'. Refute it at one input. -/
def diskNamesWrong : ChangeSpec := { name := "diskNames", fn := fun _ => fun
  | [] => { results := [.lit (.bool false)], args := [] }
  | _ => none }
def DiskNamesWrongFalsely : Prop := diskNamesRow.holds Try.pinned (OpenSpec.ofChange diskNamesWrong)

/-- 'cloakroomlaw02.DiskDoes': WHATEVER THE INPUT: true; the input reads as it did. -/
def diskDoesSpec : ChangeSpec := { name := "diskDoes", fn := fun _ => fun
  | [d1, d2, d3, d4, d5] => { results := [.lit (.bool true)], args := [d1, d2, d3, d4, d5] }
  | _ => none }
def diskDoesRow : OpenClaim := { program := "ytgfhjkphdmkmoab", sum := "785cc4941ae80dd86033d21f2e2e8e01132503bf87fba0972251e94c6ab2f0ef", func := "cloakroom/cloakroomlaw02.DiskDoes", spec := "diskDoes", apart := false }
def DiskDoesSaid : Prop := diskDoesRow.holds Try.pinned (OpenSpec.ofChange diskDoesSpec)

/-- ITS FALSE NEIGHBOUR: 'it returns false'. Refute it at one input. -/
def diskDoesWrong : ChangeSpec := { name := "diskDoes", fn := fun _ => fun
  | [d1, d2, d3, d4, d5] => { results := [.lit (.bool false)], args := [d1, d2, d3, d4, d5] }
  | _ => none }
def DiskDoesWrongFalsely : Prop := diskDoesRow.holds Try.pinned (OpenSpec.ofChange diskDoesWrong)

/-- 'cloakroomlaw02.DiskLast': WHATEVER THE INPUT: true; the input reads as it did. -/
def diskLastSpec : ChangeSpec := { name := "diskLast", fn := fun _ => fun
  | [d1, d2, d3] => { results := [.lit (.bool true)], args := [d1, d2, d3] }
  | _ => none }
def diskLastRow : OpenClaim := { program := "ytgfhjkphdmkmoab", sum := "785cc4941ae80dd86033d21f2e2e8e01132503bf87fba0972251e94c6ab2f0ef", func := "cloakroom/cloakroomlaw02.DiskLast", spec := "diskLast", apart := false }
def DiskLastSaid : Prop := diskLastRow.holds Try.pinned (OpenSpec.ofChange diskLastSpec)

/-- ITS FALSE NEIGHBOUR: 'it returns false'. Refute it at one input. -/
def diskLastWrong : ChangeSpec := { name := "diskLast", fn := fun _ => fun
  | [d1, d2, d3] => { results := [.lit (.bool false)], args := [d1, d2, d3] }
  | _ => none }
def DiskLastWrongFalsely : Prop := diskLastRow.holds Try.pinned (OpenSpec.ofChange diskLastWrong)

/- THE SECOND FORM. 'bulk': how many values and letters a reading holds, each counted each time it is reached (what is shared counts as often as it is met; a slice's spare places count too). A statement '..UptoSaid' is the law's where the arguments, and the package variables that the reading takes, are together of bulk at most 1048576: NARROWER than '..Said'. Prove '..Said' where nothing that the law and all that it calls make is longer than what came in: it says more and counts as full. Else prove '..UptoSaid'. A law counts once. -/
mutual
def uptoBulk {H : Type} : DataW H → Nat
  | .lit (.string bytes) => bytes.length + 1
  | .lit _ => 1
  | .nil => 1
  | .ptr d => uptoBulk d + 1
  | .slice elems spare => uptoBulkAll elems + uptoBulkAll spare + 1
  | .agg parts => uptoBulkAll parts + 1
  | .iface _ d => uptoBulk d + 1
  | .map entries => uptoBulkEntries entries + 1
  | .held _ => 1
def uptoBulkAll {H : Type} : List (DataW H) → Nat
  | [] => 0
  | d :: r => uptoBulk d + uptoBulkAll r
def uptoBulkEntries {H : Type} : List (Lit × DataW H) → Nat
  | [] => 0
  | x :: r => uptoBulkEntry x + uptoBulkEntries r
def uptoBulkEntry {H : Type} : Lit × DataW H → Nat
  | (.string bytes, d) => bytes.length + uptoBulk d + 1
  | (_, d) => uptoBulk d + 1
 end
def uptoSmall : (H : Type) → List (DataW H) → Bool := fun _ ds => decide (uptoBulkAll ds ≤ 1048576)
def OpenSpec.upto (s : _root_.Go.ChangeSpec) : _root_.Go.OpenSpec := { _root_.Go.OpenSpec.ofChange s with cond := some uptoSmall }

/-- 'cloakroomlaw01.CodeRecord', WHERE WHAT IT READS IS OF BULK AT MOST 1048576: true; the input reads as it did. -/
def codeRecordUptoRow : OpenClaim := { program := "ytgfhjkphdmkmoab", sum := "785cc4941ae80dd86033d21f2e2e8e01132503bf87fba0972251e94c6ab2f0ef", func := "cloakroom/cloakroomlaw01.CodeRecord", spec := "codeRecord", apart := false, narrowed := true }
def CodeRecordUptoSaid : Prop := codeRecordUptoRow.holds Try.pinned (OpenSpec.upto codeRecordSpec)

/-- 'cloakroomlaw01.CodeAsk', WHERE WHAT IT READS IS OF BULK AT MOST 1048576: true; the input reads as it did. -/
def codeAskUptoRow : OpenClaim := { program := "ytgfhjkphdmkmoab", sum := "785cc4941ae80dd86033d21f2e2e8e01132503bf87fba0972251e94c6ab2f0ef", func := "cloakroom/cloakroomlaw01.CodeAsk", spec := "codeAsk", apart := false, narrowed := true }
def CodeAskUptoSaid : Prop := codeAskUptoRow.holds Try.pinned (OpenSpec.upto codeAskSpec)

/-- 'cloakroomlaw01.CodePlace', WHERE WHAT IT READS IS OF BULK AT MOST 1048576: true; the input reads as it did. -/
def codePlaceUptoRow : OpenClaim := { program := "ytgfhjkphdmkmoab", sum := "785cc4941ae80dd86033d21f2e2e8e01132503bf87fba0972251e94c6ab2f0ef", func := "cloakroom/cloakroomlaw01.CodePlace", spec := "codePlace", apart := false, narrowed := true }
def CodePlaceUptoSaid : Prop := codePlaceUptoRow.holds Try.pinned (OpenSpec.upto codePlaceSpec)

/-- 'cloakroomlaw02.DiskNames', WHERE WHAT IT READS IS OF BULK AT MOST 1048576: true; the input reads as it did. -/
def diskNamesUptoRow : OpenClaim := { program := "ytgfhjkphdmkmoab", sum := "785cc4941ae80dd86033d21f2e2e8e01132503bf87fba0972251e94c6ab2f0ef", func := "cloakroom/cloakroomlaw02.DiskNames", spec := "diskNames", apart := false, narrowed := true }
def DiskNamesUptoSaid : Prop := diskNamesUptoRow.holds Try.pinned (OpenSpec.upto diskNamesSpec)

/-- 'cloakroomlaw02.DiskDoes', WHERE WHAT IT READS IS OF BULK AT MOST 1048576: true; the input reads as it did. -/
def diskDoesUptoRow : OpenClaim := { program := "ytgfhjkphdmkmoab", sum := "785cc4941ae80dd86033d21f2e2e8e01132503bf87fba0972251e94c6ab2f0ef", func := "cloakroom/cloakroomlaw02.DiskDoes", spec := "diskDoes", apart := false, narrowed := true }
def DiskDoesUptoSaid : Prop := diskDoesUptoRow.holds Try.pinned (OpenSpec.upto diskDoesSpec)

/-- 'cloakroomlaw02.DiskLast', WHERE WHAT IT READS IS OF BULK AT MOST 1048576: true; the input reads as it did. -/
def diskLastUptoRow : OpenClaim := { program := "ytgfhjkphdmkmoab", sum := "785cc4941ae80dd86033d21f2e2e8e01132503bf87fba0972251e94c6ab2f0ef", func := "cloakroom/cloakroomlaw02.DiskLast", spec := "diskLast", apart := false, narrowed := true }
def DiskLastUptoSaid : Prop := diskLastUptoRow.holds Try.pinned (OpenSpec.upto diskLastSpec)

end Rows
end Go.Proofs.Ytgfhjkphdmkmoab
