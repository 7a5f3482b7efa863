/-
  Changes: what a change is, as data; what may be.
-/
import Derived.Test.YtlhlleokehkolaaSmall
import Derived.Test.YtlhlleokehkolaaHash
import Derived.Deep.QuietTactic
import Derived.BigQuiet
namespace Go.Proofs.Ytlhlleokehkolaa
open Go.RowKit
set_option linter.unusedSimpArgs false
set_option linter.unusedVariables false
set_option maxRecDepth 100000

structure Itm where
  key : ByteArray
  value : ByteArray
  flags : Nat
  til : Int
  unique : Nat
structure Chg where
  kind : UInt8
  tenant : Int
  item : Itm
  key : ByteArray
  why : UInt8
  to : Int
  primary : Bool
def Itm.cells (x : Itm) : List Value := [.string x.key, .string x.value, .int .u32 x.flags, .int .i64 x.til, .int .u64 x.unique]
def Chg.cells (c : Chg) : List Value := [bcell c.kind, .int .i64 c.tenant, .string c.item.key, .string c.item.value, .int .u32 c.item.flags, .int .i64 c.item.til, .int .u64 c.item.unique, .string c.key, bcell c.why, .int .i64 c.to, .bool c.primary]
def Chg.val (c : Chg) : Value := .agg c.cells.toArray

def momOk (t : Int) : Bool := decide (0 ≤ t ∧ t ≤ 1099511627776)
def itmOk (x : Itm) : Bool := keyOk x.key && decide (x.value.size ≤ 512) && momOk x.til

theorem moment_any (t : Int) (w : World) :
    Calls Try.prog 59 #[.int .i64 t] w fun e w' => e = .returned (.bool (momOk t)) ∧ w = w' := by
  by_cases h0 : 0 ≤ t
  all_goals
    by_cases h1 : t ≤ 1099511627776
    all_goals
      go_enter Try.func59, Try.ntmps59
      go_wp2
      go_ret
      exact ⟨by simp [momOk, *], rfl⟩

theorem itemMayBe_any (x : Itm) (w : World) :
    Calls Try.prog 74 #[.agg x.cells.toArray] w fun e w' => e = .returned (.bool (itmOk x)) ∧ Below w.heap.size w w' := by
  obtain ⟨key, value, flags, til, unique⟩ := x
  unfold Itm.cells itmOk
  simp only []
  go_enter Try.func74, Try.ntmps74
  go_wp2_with (first
    | (go_at_call 35; refine (keyMayBe_any _ _).mono ?_; rintro e w' ⟨rfl, rfl⟩)
    | (go_at_call 59; refine (moment_any _ _).mono ?_; rintro e w' ⟨rfl, rfl⟩))
  all_goals
    go_ret
    refine ⟨?_, (Below.refl _ _).alloc (Nat.le_refl _) _⟩
    first
      | (have h1 : keyOk key = true := by assumption
         have h2 : (value.size : Int) ≤ 512 := by assumption
         have h3 : value.size ≤ 512 := by omega
         simp [h1, h3]; done)
      | (have h1 : keyOk key = true := by assumption
         have h2 : (512 : Int) < (value.size : Int) := by assumption
         have h3 : ¬ value.size ≤ 512 := by omega
         simp [h1, h3]; done)
      | (have h1 : ¬ keyOk key = true := by assumption
         simp [h1]; done)

def noItm (x : Itm) : Bool := decide (x.key.toList = []) && (decide (x.value.toList = []) && (decide (x.flags = 0) && (decide (x.til = 0) && decide (x.unique = 0))))

theorem run_noItm (x : Itm) (w : World) : (binOp .eql 39 (.agg x.cells.toArray) (.agg #[.string ⟨#[]⟩, .string ⟨#[]⟩, .int .u32 0, .int .i64 0, .int .u64 0])).run Try.prog w = .ok (.bool (noItm x)) w := by
  obtain ⟨key, value, flags, til, unique⟩ := x
  unfold Itm.cells noItm
  simp only []
  by_cases h1 : key.toList = [] <;> by_cases h2 : value.toList = [] <;> by_cases h3 : flags = 0 <;> by_cases h4 : til = 0 <;> by_cases h5 : unique = 0 <;> go_simp

theorem op_noItm {w : World} {ops : Array Oper} {rest : List Oper} {o : Oper} {a : Act} {Q : Exit → Act → World → Prop} (hgd : o.guard = none) (s x : Operand) (ho : o.op = .binOp .eql 39 s x 39)
    (y : Itm) (hs : a.eval s = .agg y.cells.toArray) (hx : a.eval x = .agg #[.string ⟨#[]⟩, .string ⟨#[]⟩, .int .u32 0, .int .i64 0, .int .u64 0])
    (h : wpList Try.prog ops Q rest (a.put o.dst (.bool (noItm y))) w) : wpList Try.prog ops Q (o :: rest) a w := by
  refine wpList_plain hgd fun K hK => ?_
  unfold Oper.wp execOp
  have hg : (eqGuard BinOp.eql 39 s x (Value.agg y.cells.toArray) (Value.agg #[.string ⟨#[]⟩, .string ⟨#[]⟩, .int .u32 0, .int .i64 0, .int .u64 0])).run Try.prog w = .ok () w := by
    unfold Itm.cells
    go_simp
  simp only [ho, hs, hx, hg, run_noItm, Sem.run_bind, Sem.run_pure, Result.andThen_ok]
  exact hK _ _ h
end Go.Proofs.Ytlhlleokehkolaa
