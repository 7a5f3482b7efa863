/-
  (shaken)
-/
import Derived.Test.YtjmcgpdimhgegaaCmd3
import Derived.Deep.RegionLaw
namespace Go.Proofs.Ytjmcgpdimhgegaa
open Go.RowKit
set_option linter.unusedSimpArgs false
set_option linter.unusedVariables false
set_option maxRecDepth 100000

theorem OwnTs.mono {w : World} {base base' : Nat} {v : Value} {ks : List ByteArray} (h : OwnTs w base v ks) (hb : base' ≤ base) : OwnTs w base' v ks := by
  refine ⟨h.1, ?_⟩
  rcases h.2 with h | ⟨g, cap, cur, e, hb1, rest⟩
  · exact .inl h
  · exact .inr ⟨g, cap, cur, e, by omega, rest⟩
end Go.Proofs.Ytjmcgpdimhgegaa
