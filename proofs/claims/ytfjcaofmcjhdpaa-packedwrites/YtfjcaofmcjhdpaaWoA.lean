/-
  Answers as data: which may be, which have lines, the words of their lines. Package words' small functions.
-/
import Derived.Test.YtfjcaofmcjhdpaaOrI
import Derived.Test.YtfjcaofmcjhdpaaItFn
import Derived.Test.YtfjcaofmcjhdpaaGy
namespace Go.Proofs.Ytfjcaofmcjhdpaa
open Go.Proofs.Ytfjcaofmcjhdpaa.It
open Go.RowKit
set_option linter.unusedSimpArgs false
set_option linter.unusedVariables false
set_option maxRecDepth 100000

/-- an answer -/
structure An where
  kind : Int
  of_ : Int
  rk : Int
  items : List Im
  num : Int
  yes : Bool
  key : ByteArray
def An.arr (a : An) (v : Value) : Array Value := #[.int .u8 a.kind, .int .u8 a.of_, .int .u8 a.rk, v, .int .u64 a.num, .bool a.yes, .string a.key]
def An.cl (a : An) (v : Value) : List Value := [.int .u8 a.kind, .int .u8 a.of_, .int .u8 a.rk, v, .int .u64 a.num, .bool a.yes, .string a.key]
def Im.it (x : Im) : It := ⟨x.key, x.value, x.flags, x.till, x.unique⟩
/-- an item that may not be -/
def badI (x : Im) : Bool := !(ckE x.it == 0)
def mostI (of_ : Int) : Int := if of_ = 1 then 8 else 0
def mostN (of_ : Int) : Int := if of_ = 6 ∨ of_ = 7 then 18446744073709551615 else if of_ = 10 then 8 else 0
def isCmd (k : Int) : Bool := decide (1 ≤ k) && decide (k ≤ 11)
/-- a result that may be of that command -/
def resOk (of_ rk : Int) (L : List Im) (n : Int) : Bool :=
  isCmd of_ && decide (1 ≤ rk) && decide (rk ≤ 7) && decide ((L.length : Int) ≤ (if rk = 1 then mostI of_ else 0)) && decide (n ≤ (if rk = 1 then mostN of_ else 0)) && !L.any badI
def noRes (of_ rk : Int) (L : List Im) (n : Int) : Bool := (of_ == 0) && ((rk == 0) && ((L.length : Int) == 0) && (n == 0))
/-- P15.1: may an answer be? -/
def An.may (a : An) : Bool :=
  if a.kind = 1 then resOk a.of_ a.rk a.items a.num && !a.yes && a.key.toList.isEmpty
  else if a.kind = 2 ∨ a.kind = 3 then noRes a.of_ a.rk a.items a.num && a.key.toList.isEmpty
  else if a.kind = 7 then decide (0 < a.key.size) && decide (a.key.size ≤ 32) && noRes a.of_ a.rk a.items a.num && !a.yes
  else if a.kind = 4 ∨ a.kind = 5 ∨ a.kind = 6 then noRes a.of_ a.rk a.items a.num && !a.yes && a.key.toList.isEmpty
  else false

theorem wisCommand_any (k : Int) (w : World) : Calls Try.prog 49 #[.int .u8 k] w fun e w' => e = .returned (.bool (isCmd k)) ∧ w' = w := by
  go_enter Try.func49, Try.ntmps49
  by_cases h1 : 1 ≤ k
  · go_wp2
    go_ret
    exact ⟨by simp [isCmd, h1], rfl⟩
  · go_wp2
    go_ret
    exact ⟨by simp [isCmd]; omega, rfl⟩
theorem wmostItems_any (k : Int) (w : World) : Calls Try.prog 50 #[.int .u8 k] w fun e w' => e = .returned (.int .i64 (mostI k)) ∧ w' = w := by
  unfold mostI
  go_enter Try.func50, Try.ntmps50
  by_cases h1 : k = 1
  · subst h1
    go_wp2
    go_ret
    exact ⟨rfl, rfl⟩
  · have hb : (k == 1) = false := by simpa using h1
    rw [if_neg h1]
    go_wp2
    go_ret
    exact ⟨rfl, rfl⟩
theorem wmostNumber_any (k : Int) (w : World) : Calls Try.prog 51 #[.int .u8 k] w fun e w' => e = .returned (.int .u64 (mostN k)) ∧ w' = w := by
  unfold mostN
  go_enter Try.func51, Try.ntmps51
  by_cases h6 : k = 6
  · subst h6
    go_wp2
    go_ret
    exact ⟨rfl, rfl⟩
  · have hb6 : (k == 6) = false := by simpa using h6
    by_cases h7 : k = 7
    · subst h7
      go_wp2
      go_ret
      exact ⟨rfl, rfl⟩
    · have hb7 : (k == 7) = false := by simpa using h7
      rw [if_neg (by omega)]
      by_cases h10 : k = 10
      · subst h10
        go_wp2
        go_ret
        exact ⟨rfl, rfl⟩
      · have hb10 : (k == 10) = false := by simpa using h10
        rw [if_neg h10]
        go_wp2
        go_ret
        exact ⟨rfl, rfl⟩
theorem wmayNotBe_any (x : Im) (w : World) : Calls Try.prog 53 #[.agg #[.string x.key, .string x.value, .int .u32 x.flags, .int .i64 x.till, .int .u64 x.unique]] w fun e w' => e = .returned (.bool (badI x)) ∧ Below w.heap.size w w' := by
  obtain ⟨W, hW⟩ : ∃ W, W = w.alloc (.cells #[.string x.key, .string x.value, .int .u32 x.flags, .int .i64 x.till, .int .u64 x.unique] 34) := ⟨_, rfl⟩
  have HB : Hid (Below w.heap.size w W) := by rw [hW]; exact g_alloc _ _
  have HX : Hid (GBx W w.heap.size [.string x.key, .string x.value, .int .u32 x.flags, .int .i64 x.till, .int .u64 x.unique]) := by rw [hW]; exact GBx.made w [.string x.key, .string x.value, .int .u32 x.flags, .int .i64 x.till, .int .u64 x.unique] _
  have HC := Hid.mk2 (icheck_any x.it W)
  unfold badI
  obtain ⟨E, hE⟩ : ∃ E, E = ckE x.it := ⟨_, rfl⟩
  rw [← hE] at HC ⊢
  clear hE
  unfold Im.it It.v at HC
  dsimp only at HC
  have x0 := HX.out.c 0 (by simp)
  have x1 := HX.out.c 1 (by simp)
  have x2 := HX.out.c 2 (by simp)
  have x3 := HX.out.c 3 (by simp)
  have x4 := HX.out.c 4 (by simp)
  simp only [List.getElem_cons_zero, List.getElem_cons_succ] at x0 x1 x2 x3 x4
  go_enter Try.func53, Try.ntmps53
  go_upto_region 1 with (fail)
  rw [← hW]
  clear hW
  go_wp2_with (go_at_call 60; refine HC.out.mono ?_; rintro e w1 ⟨rfl, hw1⟩; have HB1 : Hid (Below w.heap.size w w1) := (by rw [hw1]; exact g_on HB.out (g_alloc _ _)); clear hw1)
  go_ret
  exact ⟨by first | rfl | simp, HB1.out⟩
end Go.Proofs.Ytfjcaofmcjhdpaa
