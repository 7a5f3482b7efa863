/-
  (shaken)
-/
import Derived.Test.YtfjcaofmcjhdpaaGr
import Derived.Test.YtfjcaofmcjhdpaaPure
namespace Go.Proofs.Ytfjcaofmcjhdpaa
open Go.RowKit
set_option linter.unusedSimpArgs false
set_option linter.unusedVariables false
set_option maxRecDepth 100000

/-- a command -/
structure Cm where
  kind : Int
  tenant : Int
  keys : List ByteArray
  value : ByteArray
  flags : Int
  life : Int
  unique : Int
  by_ : Int
def Cm.arr (c : Cm) (v : Value) : Array Value := #[.int .u8 c.kind, .int .i64 c.tenant, v, .string c.value, .int .u32 c.flags, .int .i64 c.life, .int .u64 c.unique, .int .u64 c.by_]
def Cm.puts (c : Cm) : Bool := decide (2 ≤ c.kind) && decide (c.kind ≤ 5)
/-- P10.1: may its keys be, its value, its time, its flags and unique, its By -/
def Cm.kOk (c : Cm) : Bool :=
  if c.kind = 11 then decide (c.keys.length = 0) else decide (1 ≤ c.keys.length ∧ c.keys.length ≤ 8 ∧ (c.keys.length ≤ 1 ∨ c.kind = 1 ∨ c.kind = 10)) && c.keys.all keyOk && decide c.keys.Nodup
def Cm.vOk (c : Cm) : Bool := decide (c.value.size ≤ 512) && (decide (c.value.size = 0) || c.puts || decide (c.kind = 8))
def Cm.lOk (c : Cm) : Bool := decide (0 ≤ c.life ∧ c.life ≤ 1099511627776) && (decide (c.life = 0) || c.puts || decide (c.kind = 9))
def Cm.fOk (c : Cm) : Bool := (decide (c.flags = 0) || c.puts) && (decide (c.unique = 0) || decide (c.kind = 5))
def Cm.bOk (c : Cm) : Bool := decide (c.by_ = 0) || decide (c.kind = 6) || decide (c.kind = 7)
def Cm.may (c : Cm) : Bool := decide (1 ≤ c.kind ∧ c.kind ≤ 11) && tenOk c.tenant && c.kOk && c.vOk && c.lOk && c.fOk && c.bOk
/-- a key's shard -/
def Cm.of (c : Cm) (n : Int) (k : ByteArray) : Int := (shardOf c.tenant k n).1
theorem g_drewN {w : World} (n : Nat) : Below w.heap.size w (w.drewN n) := ⟨rfl, rfl, rfl, Nat.le_refl _, fun _ _ => rfl⟩
theorem g_quiet_on {w w' : World} (n : Nat) (h : Below w.heap.size w w') : Below w.heap.size w (w'.drewN n) := g_on h (g_drewN n)
/-- a command in a box: its cells -/
structure Cm.At (c : Cm) (v : Value) (w : World) (b : Nat) : Prop where
  lt : b < w.heap.size
  c0 : w.cell? ⟨b, 0, none⟩ = some (.int .u8 c.kind)
  c1 : w.cell? ⟨b, 1, none⟩ = some (.int .i64 c.tenant)
  c2 : w.cell? ⟨b, 2, none⟩ = some v
  c3 : w.cell? ⟨b, 3, none⟩ = some (.string c.value)
  c4 : w.cell? ⟨b, 4, none⟩ = some (.int .u32 c.flags)
  c5 : w.cell? ⟨b, 5, none⟩ = some (.int .i64 c.life)
  c6 : w.cell? ⟨b, 6, none⟩ = some (.int .u64 c.unique)
  c7 : w.cell? ⟨b, 7, none⟩ = some (.int .u64 c.by_)
theorem Cm.At.below {c : Cm} {v : Value} {w w' : World} {b : Nat} (h : c.At v w b) (hb : Below w.heap.size w w') : c.At v w' b :=
  ⟨Nat.lt_of_lt_of_le h.lt hb.size, (hb.cell (p := ⟨b, 0, none⟩) h.lt).trans h.c0, (hb.cell (p := ⟨b, 1, none⟩) h.lt).trans h.c1, (hb.cell (p := ⟨b, 2, none⟩) h.lt).trans h.c2, (hb.cell (p := ⟨b, 3, none⟩) h.lt).trans h.c3, (hb.cell (p := ⟨b, 4, none⟩) h.lt).trans h.c4, (hb.cell (p := ⟨b, 5, none⟩) h.lt).trans h.c5, (hb.cell (p := ⟨b, 6, none⟩) h.lt).trans h.c6, (hb.cell (p := ⟨b, 7, none⟩) h.lt).trans h.c7⟩
end Go.Proofs.Ytfjcaofmcjhdpaa
