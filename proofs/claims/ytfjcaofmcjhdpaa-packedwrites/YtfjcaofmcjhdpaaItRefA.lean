/-
  (shaken)
-/
import Derived.Test.YtfjcaofmcjhdpaaItFn
namespace Go.Proofs.Ytfjcaofmcjhdpaa.It
open Go.RowKit
set_option linter.unusedSimpArgs false
set_option linter.unusedVariables false
set_option maxRecDepth 100000

theorem rmoment_any (n : Int) (w : World) :
    Calls Try.prog 46 #[.int .i64 n] w fun e w' => e = .returned (.bool (mom n)) ∧ w' = w := by
  unfold mom
  by_cases h : 0 ≤ n
  · have h' : decide (0 ≤ n) = true := by simpa using h
    go_enter Try.func46, Try.ntmps46
    go_wp2
    go_ret
    exact ⟨by simp [h], rfl⟩
  · have h' : decide (0 ≤ n) = false := by simpa using h
    go_enter Try.func46, Try.ntmps46
    go_wp2
    go_ret
    exact ⟨by simp [h], rfl⟩

theorem rcheck9_any (x : It) (w : World) :
    Calls Try.prog 34 #[x.v] w fun e w' => e = .returned (.int .i64 (ckE x)) ∧ w' = w.alloc x.obj := by
  obtain ⟨key, value, flags, till, unique⟩ := x
  unfold ckE It.v It.obj
  dsimp only
  by_cases h1 : key.size < 1
  · have h1' : decide ((key.size : Int) < 1) = true := by simp; omega
    rw [if_pos (Or.inl h1)]
    clear h1
    go_enter Try.func34, Try.ntmps34
    go_wp2
    go_ret
    exact ⟨rfl, rfl⟩
  have h1' : decide ((key.size : Int) < 1) = false := by simp; omega
  by_cases h2 : 32 < key.size
  · have h2' : decide ((32 : Int) < (key.size : Int)) = true := by simp; omega
    rw [if_pos (Or.inr (Or.inl h2))]
    clear h1 h2
    go_enter Try.func34, Try.ntmps34
    go_wp2
    go_ret
    exact ⟨rfl, rfl⟩
  have h2' : decide ((32 : Int) < (key.size : Int)) = false := by simp; omega
  by_cases h3 : 512 < value.size
  · have h3' : decide ((512 : Int) < (value.size : Int)) = true := by simp; omega
    rw [if_pos (Or.inr (Or.inr h3))]
    clear h1 h2 h3
    go_enter Try.func34, Try.ntmps34
    go_wp2
    go_ret
    exact ⟨rfl, rfl⟩
  have h3' : decide ((512 : Int) < (value.size : Int)) = false := by simp; omega
  rw [if_neg (by omega)]
  clear h1 h2 h3
  cases hm : mom till
  · go_enter Try.func34, Try.ntmps34
    go_wp2_with (go_at_call 46; refine (rmoment_any _ _).mono ?_; rintro e w1 ⟨rfl, rfl⟩)
    all_goals go_ret
    all_goals first | exact ⟨rfl, rfl⟩ | simp_all
  · go_enter Try.func34, Try.ntmps34
    go_wp2_with (go_at_call 46; refine (rmoment_any _ _).mono ?_; rintro e w1 ⟨rfl, rfl⟩)
    all_goals go_ret
    all_goals first | exact ⟨rfl, rfl⟩ | simp_all

end Go.Proofs.Ytfjcaofmcjhdpaa.It
