/-
  The document's May of answers.
-/
import Derived.Test.YtfjcaofmcjhdpaaWoW
import Derived.Test.YtfjcaofmcjhdpaaItRefA
namespace Go.Proofs.Ytfjcaofmcjhdpaa
open Go.Proofs.Ytfjcaofmcjhdpaa.It
open Go.RowKit
set_option linter.unusedSimpArgs false
set_option linter.unusedVariables false
set_option maxRecDepth 100000

def mt1 (a : An) : Bool := decide (a.kind < 1) || decide (7 < a.kind) || (a.yes && !decide (a.kind = 2) && !decide (a.kind = 3))
def mt2 (a : An) : Bool := (decide (a.kind = 7) && (decide (a.key.size < 1) || decide (32 < a.key.size))) || (!decide (a.kind = 7) && !decide (a.key.size = 0))
def mt3 (a : An) : Bool := decide (a.of_ = 0) && decide (a.rk = 0) && decide (a.num = 0) && decide (a.items.length = 0)
def mt4 (a : An) : Bool := decide (a.of_ < 1) || decide (11 < a.of_) || decide (a.rk < 1) || decide (7 < a.rk) || decide (8 < a.items.length)
def mcnt (o : Int) : Bool := decide (o = 6) || decide (o = 7) || decide (o = 10)
def mt5 (a : An) : Bool := (decide (0 < a.items.length) && (!decide (a.of_ = 1) || !decide (a.rk = 1))) || (!decide (a.num = 0) && (!mcnt a.of_ || !decide (a.rk = 1))) || (decide (a.of_ = 10) && decide (8 < a.num))
def mchain (a : An) : Bool := if mt1 a = true then false else if mt2 a = true then false else if ¬ a.kind = 1 then mt3 a else if mt4 a = true then false else if mt5 a = true then false else !a.items.any badI
theorem memp (s : ByteArray) : s.toList.isEmpty = decide (s.size = 0) := by
  rw [ByteArray.toList_eq]
  cases s with
  | mk d =>
    cases d with
    | mk l =>
      cases l with
      | nil => rfl
      | cons x t => rfl
theorem may_chain (a : An) (h0 : 0 ≤ a.num) (h1 : a.num < 18446744073709551616) : a.may = mchain a := by
  obtain ⟨K, O, R, L, N, Y, k⟩ := a
  unfold An.may mchain mt1 mt2 mt3 mt4 mt5 resOk noRes mostI mostN isCmd mcnt
  dsimp only at *
  rw [memp]
  generalize L.any badI = B
  generalize hz : k.size = Z
  generalize hn : L.length = n
  rw [Bool.eq_iff_iff]
  clear hz hn
  cases Y <;> cases B <;> (repeat' split) <;> (simp only [Bool.and_eq_true, Bool.or_eq_true, Bool.not_eq_true', decide_eq_true_eq, decide_eq_false_iff_not, beq_iff_eq, Bool.not_true, Bool.not_false, Bool.false_eq_true, Bool.and_true, Bool.and_false, Bool.true_and, Bool.false_and, Bool.or_false, Bool.or_true, not_or, Bool.or_eq_false_iff, Bool.and_eq_false_iff, Bool.not_eq_false', iff_true, true_iff, iff_false, false_iff] at *) <;> (try omega)
theorem rcounts15_any (o : Int) (w : World) : Calls Try.prog 33 #[.int .u8 o] w fun e w' => e = .returned (.bool (mcnt o)) ∧ w' = w := by
  unfold mcnt
  by_cases h6 : o = 6
  · subst h6
    go_enter Try.func33, Try.ntmps33
    go_wp2
    go_ret
    exact ⟨rfl, rfl⟩
  have b6 : (o == 6) = false := by simpa using h6
  by_cases h7 : o = 7
  · subst h7
    go_enter Try.func33, Try.ntmps33
    go_wp2
    go_ret
    exact ⟨rfl, rfl⟩
  have b7 : (o == 7) = false := by simpa using h7
  by_cases h10 : o = 10
  · subst h10
    go_enter Try.func33, Try.ntmps33
    go_wp2
    go_ret
    exact ⟨rfl, rfl⟩
  have b10 : (o == 10) = false := by simpa using h10
  rw [decide_eq_false h6, decide_eq_false h7, decide_eq_false h10]
  go_enter Try.func33, Try.ntmps33
  go_wp2
  go_ret
  exact ⟨by first | rfl | simp, rfl⟩
end Go.Proofs.Ytfjcaofmcjhdpaa
