/-
  (shaken)
-/
import Derived.Test.YtjmcgpdimhgegaaSmall
import Derived.Test.YtjmcgpdimhgegaaHash
import Derived.Deep.QuietTactic
import Derived.BigQuiet
namespace Go.Proofs.Ytjmcgpdimhgegaa
open Go.RowKit
set_option linter.unusedSimpArgs false
set_option linter.unusedVariables false
set_option maxRecDepth 100000

structure Itm where
  key : ByteArray
  value : ByteArray
  flags : Nat
  til : Int
  unique : Nat
structure Chg where
  kind : UInt8
  tenant : Int
  item : Itm
  key : ByteArray
  why : UInt8
  to : Int
  primary : Bool
def Itm.cells (x : Itm) : List Value := [.string x.key, .string x.value, .int .u32 x.flags, .int .i64 x.til, .int .u64 x.unique]
def Chg.cells (c : Chg) : List Value := [bcell c.kind, .int .i64 c.tenant, .string c.item.key, .string c.item.value, .int .u32 c.item.flags, .int .i64 c.item.til, .int .u64 c.item.unique, .string c.key, bcell c.why, .int .i64 c.to, .bool c.primary]
def Chg.val (c : Chg) : Value := .agg c.cells.toArray

def momOk (t : Int) : Bool := decide (0 ≤ t ∧ t ≤ 1099511627776)
theorem moment_any (t : Int) (w : World) :
    Calls Try.prog 42 #[.int .i64 t] w fun e w' => e = .returned (.bool (momOk t)) ∧ w = w' := by
  by_cases h0 : 0 ≤ t
  all_goals
    by_cases h1 : t ≤ 1099511627776
    all_goals
      go_enter Try.func42, Try.ntmps42
      go_wp2
      go_ret
      exact ⟨by simp [momOk, *], rfl⟩

end Go.Proofs.Ytjmcgpdimhgegaa
