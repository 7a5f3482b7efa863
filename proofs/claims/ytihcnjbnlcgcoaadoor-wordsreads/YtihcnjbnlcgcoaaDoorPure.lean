/-
  (shaken)
-/
import Derived.Test.YtihcnjbnlcgcoaaDoorRows
import Derived.WalkKit
import Derived.ProofKit
import Derived.OpenShut
import Derived.WalkSpells
import Derived.WalkLawsBesides
import Derived.Laws.Bits64b
import Derived.Laws.BitsAllLaws
namespace Go.Proofs.YtihcnjbnlcgcoaaDoor
open Go.RowKit
set_option linter.unusedSimpArgs false
set_option linter.unusedVariables false

/-- one byte more in a hash -/
def hstep (h : Int) (c : UInt8) : Int := IntKind.u64.wrap (bits BinOp.xor IntKind.u64 h (IntKind.u64.wrap ↑c.toNat) * 1099511628211)
def hashL (h : Int) (l : List UInt8) : Int := l.foldl hstep h
/-- the text of one byte that a tenant's number is -/
def tenantText (t : Int) : ByteArray := strOfNums [t]
def keyOk (s : ByteArray) : Bool := decide (1 ≤ s.size ∧ s.size ≤ 32)
def tenOk (t : Int) : Bool := decide (0 ≤ t ∧ t < 4)
def hash0 (l : List UInt8) : Int := hashL 14695981039346656037 l
/-- P1.2: what Shard answers -/
def shardOf (t : Int) (s : ByteArray) (n : Int) : Int × Int :=
  if tenOk t = false then (0, 2) else if keyOk s = false then (0, 3) else if n < 1 ∨ 4 < n then (0, 2) else (hash0 ((tenantText t).data.toList ++ s.data.toList) % n, 0)
/-- small bytes, with fuel -/
def smallF : Nat → Nat → List UInt8
  | 0, n => [UInt8.ofNat n]
  | f + 1, n => if n < 128 then [UInt8.ofNat n] else UInt8.ofNat (n % 128 + 128) :: smallF f (n / 128)
def small (n : Nat) : List UInt8 := smallF 9 n
/-- a text's bytes -/
def text (l : List UInt8) : List UInt8 := small l.length ++ l
/-- a reader: what is left to read, and whether something was wrong -/
structure St where
  l : List UInt8
  bad : Bool
def St.fail : St := ⟨[], true⟩
end Go.Proofs.YtihcnjbnlcgcoaaDoor
