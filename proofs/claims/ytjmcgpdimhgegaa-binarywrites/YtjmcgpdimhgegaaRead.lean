/-
  (shaken)
-/
import Derived.Test.YtjmcgpdimhgegaaSmall
namespace Go.Proofs.Ytjmcgpdimhgegaa
open Go.RowKit
set_option linter.unusedSimpArgs false
set_option linter.unusedVariables false
set_option maxRecDepth 100000

/-- what the loop of Read knows behind k bytes -/
def Led (l : List UInt8) (k n : Nat) : Prop := k ≤ 10 ∧ k ≤ l.length ∧ (∀ j (h : j < l.length), j < k → 128 ≤ l[j].toNat) ∧ n = val (l.take k)
theorem Led.lt {l : List UInt8} {k n : Nat} (h : Led l k n) : n < 128 ^ k := by
  have := val_lt (l.take k)
  rw [List.length_take, Nat.min_eq_left h.2.1] at this
  rw [h.2.2.2]; exact this
theorem Led.zero {l : List UInt8} {k n : Nat} (h : Led l k n) (hk : k < 10) (hl : k < l.length) (h0 : 0 < k) (hx : l[k].toNat = 0) : readL l = none := by
  have := lead_eq l k hl h.2.2.1 (by omega)
  unfold readL
  rw [if_neg]
  rw [this]
  rintro ⟨_, _, _, h4⟩
  exact h4 ⟨h0, by simp [hl, hx]⟩
end Go.Proofs.Ytjmcgpdimhgegaa
