/-
  (shaken)
-/
import Derived.Test.YtjmcgpdimhgegaaCmd
import Derived.Test.YtjmcgpdimhgegaaRItem
import Derived.Deep.Cut
import Derived.Deep.RegionHeld3
namespace Go.Proofs.Ytjmcgpdimhgegaa
open Go.RowKit
set_option linter.unusedSimpArgs false
set_option linter.unusedVariables false
set_option maxRecDepth 100000

/-- the slice v owns the texts ks, in a block from base on -/
def OwnTs (w : World) (base : Nat) (v : Value) (ks : List ByteArray) : Prop := w.ownsRow base 9 1 v ks.length (ks.map Value.string)
theorem OwnTs.nil (w : World) (base : Nat) : OwnTs w base (.slice none 0 0) [] := World.ownsRow_nil w base _ 1
section
variable {w : World} {ops : Array Oper} {o : Oper} {a : Act} {K : Act → World → Prop} {Q : Exit → Act → World → Prop} {E : Prop}
end

/-- so many texts, read -/
def sTexts : Nat → St → List ByteArray × St
  | 0, s => ([], s)
  | n + 1, s => (⟨(sText s).1.toArray⟩ :: (sTexts n (sText s).2).1, (sTexts n (sText s).2).2)
theorem sTexts_len : ∀ (n : Nat) (s : St), (sTexts n s).1.length = n
  | 0, _ => rfl
  | n + 1, s => by simp [sTexts, sTexts_len n]
/-- a command, read -/
def sCmd (s : St) : Cmd × St :=
  let p0 := sSingle s
  let p1 := sSmall 9223372036854775807 p0.2
  let pn := sSmall 8 p1.2
  let p2 := sTexts pn.1 pn.2
  let p3 := sText p2.2
  let p4 := sSmall 4294967295 p3.2
  let p5 := sSmall 9223372036854775807 p4.2
  let p6 := sSmall 18446744073709551615 p5.2
  let p7 := sSmall 18446744073709551615 p6.2
  (⟨p0.1, p1.1, p2.1, ⟨p3.1.toArray⟩, p4.1, p5.1, p6.1, p7.1⟩, p7.2)

end Go.Proofs.Ytjmcgpdimhgegaa
