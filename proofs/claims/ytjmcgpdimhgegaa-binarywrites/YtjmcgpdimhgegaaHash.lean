/-
  (shaken)
-/
import Derived.Test.YtjmcgpdimhgegaaPure
namespace Go.Proofs.Ytjmcgpdimhgegaa
open Go.RowKit
set_option linter.unusedSimpArgs false
set_option linter.unusedVariables false

theorem tenantMayBe_any (t : Int) (w : World) :
    Calls Try.prog 40 #[.int .i64 t] w fun e w' => e = .returned (.bool (tenOk t)) ∧ w = w' := by
  by_cases h0 : 0 ≤ t
  all_goals
    by_cases h1 : t < 4
    all_goals
      go_enter Try.func40, Try.ntmps40
      go_wp2
      go_ret
      exact ⟨by simp [tenOk, *], rfl⟩

theorem keyMayBe_any (s : ByteArray) (w : World) :
    Calls Try.prog 41 #[.string s] w fun e w' => e = .returned (.bool (keyOk s)) ∧ w = w' := by
  by_cases h0 : 1 ≤ s.size
  · have e0 : (1 : Int) ≤ (s.size : Int) := by omega
    by_cases h1 : s.size ≤ 32
    · have e1 : (s.size : Int) ≤ 32 := by omega
      go_enter Try.func41, Try.ntmps41
      go_wp2
      go_ret
      exact ⟨by simp [keyOk, h0, h1], rfl⟩
    · have e1 : ¬ (s.size : Int) ≤ 32 := by omega
      have hd : decide ((s.size : Int) ≤ 32) = false := by simpa using e1
      go_enter Try.func41, Try.ntmps41
      go_wp2
      go_ret
      exact ⟨by simp [keyOk, h1], rfl⟩
  · have e0 : ¬ (1 : Int) ≤ (s.size : Int) := by omega
    have hd : decide ((1 : Int) ≤ (s.size : Int)) = false := by simpa using e0
    go_enter Try.func41, Try.ntmps41
    go_wp2
    go_ret
    exact ⟨by simp [keyOk, h0], rfl⟩


end Go.Proofs.Ytjmcgpdimhgegaa
