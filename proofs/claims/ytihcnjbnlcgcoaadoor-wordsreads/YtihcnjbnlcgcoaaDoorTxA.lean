/-
  (shaken)
-/
import Derived.Test.YtihcnjbnlcgcoaaDoorOrC
import Derived.Test.YtihcnjbnlcgcoaaDoorGy
import Derived.Lib.Join
namespace Go.Proofs.YtihcnjbnlcgcoaaDoor
open Go.Proofs.YtihcnjbnlcgcoaaDoor.It
open Go.RowKit
set_option linter.unusedSimpArgs false
set_option linter.unusedVariables false
set_option maxRecDepth 100000

/-- a request -/
structure Rq where
  kind : Int
  cmd : Cm
  tenant : Int
  secret : ByteArray
  on : Bool
  close : Bool
def Rq.arr (r : Rq) (v : Value) : Array Value := #[.int .u8 r.kind, .int .u8 r.cmd.kind, .int .i64 r.cmd.tenant, v, .string r.cmd.value, .int .u32 r.cmd.flags, .int .i64 r.cmd.life, .int .u64 r.cmd.unique, .int .u64 r.cmd.by_, .int .i64 r.tenant, .string r.secret, .bool r.on, .bool r.close]
def Rq.cl (r : Rq) (v : Value) : List Value := [.int .u8 r.kind, .int .u8 r.cmd.kind, .int .i64 r.cmd.tenant, v, .string r.cmd.value, .int .u32 r.cmd.flags, .int .i64 r.cmd.life, .int .u64 r.cmd.unique, .int .u64 r.cmd.by_, .int .i64 r.tenant, .string r.secret, .bool r.on, .bool r.close]
def cz : Cm := ⟨0, 0, [], ⟨#[]⟩, 0, 0, 0, 0⟩
def rz : Rq := ⟨0, cz, 0, ⟨#[]⟩, false, false⟩
/-- bytes from 33 to 126 alone -/
def seenB (c : UInt8) : Bool := decide (33 ≤ c.toNat ∧ c.toNat ≤ 126)
def seen (s : ByteArray) : Bool := (bl s).all seenB
def wordOk (s : ByteArray) (m : Nat) : Bool := decide (0 < s.size) && decide (s.size ≤ m) && seen s
def Cm.isNone (c : Cm) : Bool := (c.kind == 0) && (c.tenant == 0) && ((c.keys.length : Int) == 0) && c.value.toList.isEmpty && (c.flags == 0) && (c.life == 0) && (c.unique == 0) && (c.by_ == 0)
/-- P14.3: has it a line, but for what its command is? -/
def Rq.hasLine (r : Rq) : Bool :=
  if r.kind = 1 then (r.tenant == 0) && r.secret.toList.isEmpty && !r.on && !r.close
  else if r.kind = 2 then decide (0 ≤ r.tenant ∧ r.tenant < 4) && wordOk r.secret 16 && r.cmd.isNone && !r.on && !r.close
  else if r.kind = 3 then r.cmd.isNone && (r.tenant == 0) && r.secret.toList.isEmpty && !r.close
  else if r.kind = 4 ∨ r.kind = 5 then r.cmd.isNone && (r.tenant == 0) && r.secret.toList.isEmpty && !r.on && !r.close
  else false
def Cm.wrE (c : Cm) : Int := if c.may = true then (if c.tenant = 0 ∧ c.keys.all seen = true then 0 else 8) else 100
def Rq.wrE (r : Rq) : Int := if r.hasLine = true then (if r.kind = 1 then r.cmd.wrE else 0) else 8
def dec (n : Int) : ByteArray := ⟨(decL n.toNat).toArray⟩
/-- a command's first word -/
def kw (k : Int) : ByteArray :=
  if k = 1 then ⟨#[103, 101, 116]⟩ else if k = 2 then ⟨#[115, 101, 116]⟩ else if k = 3 then ⟨#[97, 100, 100]⟩ else if k = 4 then ⟨#[114, 101, 112, 108, 97, 99, 101]⟩
  else if k = 5 then ⟨#[99, 97, 115]⟩ else if k = 6 then ⟨#[105, 110, 99, 114]⟩ else if k = 7 then ⟨#[100, 101, 99, 114]⟩ else if k = 8 then ⟨#[97, 112, 112, 101, 110, 100]⟩
  else if k = 9 then ⟨#[116, 111, 117, 99, 104]⟩ else if k = 10 then ⟨#[100, 101, 108, 101, 116, 101]⟩ else if k = 11 then ⟨#[102, 108, 117, 115, 104]⟩ else ⟨#[]⟩
/-- the words behind its keys -/
def Cm.args (c : Cm) : List ByteArray :=
  if c.kind = 2 ∨ c.kind = 3 ∨ c.kind = 4 then [dec c.flags, dec c.life, dec c.value.size]
  else if c.kind = 5 then [dec c.flags, dec c.life, dec c.value.size, dec c.unique]
  else if c.kind = 8 then [dec c.value.size]
  else if c.kind = 6 ∨ c.kind = 7 then [dec c.by_]
  else if c.kind = 9 then [dec c.life] else []
def Cm.words (c : Cm) : List ByteArray := kw c.kind :: (c.keys ++ c.args)
def Rq.words (r : Rq) : List ByteArray :=
  if r.kind = 2 then [⟨#[117, 115, 101, 114]⟩, dec r.tenant, r.secret]
  else if r.kind = 3 then [⟨#[116, 114, 97, 99, 107]⟩, if r.on = true then ⟨#[111, 110]⟩ else ⟨#[111, 102, 102]⟩]
  else if r.kind = 4 then [⟨#[112, 105, 110, 103]⟩]
  else if r.kind = 5 then [⟨#[113, 117, 105, 116]⟩]
  else r.cmd.words
def hasVal (k : Int) : Bool := decide (k = 2 ∨ k = 3 ∨ k = 4 ∨ k = 5 ∨ k = 8)
/-- words with single blanks between -/
def joinW (l : List ByteArray) : List UInt8 := Lib.join (l.map (·.data.toList)) [32]
def Rq.line (r : Rq) : List UInt8 := joinW r.words ++ [13, 10]
def Rq.wrL (r : Rq) : List UInt8 := r.line ++ (if hasVal r.cmd.kind = true then bl r.cmd.value ++ [13, 10] else [])
/-- what Write answers -/
def Rq.wr (r : Rq) : List UInt8 := if r.wrE = 0 then r.wrL else []
theorem joinW_cons (a : ByteArray) (l : List ByteArray) : joinW (a :: l) = bl a ++ l.flatMap fun x => 32 :: bl x := by
  unfold joinW
  rw [List.map_cons, Lib.join_cons, Lib.joinTail, List.map_map, List.flatMap_def]
  rfl
end Go.Proofs.YtihcnjbnlcgcoaaDoor
