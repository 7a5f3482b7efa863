/-
  From the rows' readings to the walks' words: a schedule (bytes) that came in.
-/
import Derived.Test.YtpnmokmadbapoaaTkIn
namespace Go.Proofs.Ytpnmokmadbapoaa
open Go.ChangeShapes Go.WideShapes Go.ChangeAt Go.RowKit
open Go.ChangeMaps (open_string shut_string)
set_option linter.unusedSimpArgs false
set_option linter.unusedVariables false
set_option maxRecDepth 100000

/-- bytes -/
def EU : GEl Int := ⟨5, 93, 1, 1, .int .u8 0, fun n => [.int .u8 n]⟩
theorem okU : GOk EU := ⟨Try.underlying93, by kernel_rfl, rfl, by decide, by decide, fun _ => rfl, fun a u h => by simp [EU] at h; subst h; rfl⟩
theorem GRd.byte {w : World} {ao : Option Addr} {l : List Int} {cap : Nat} (h : GRd EU w ao l cap) (hne : l ≠ []) : ∃ b off, ao = some ⟨b, off, none⟩ ∧ b < w.heap.size ∧ ∀ i (hi : i < l.length), w.cell? ⟨b, off + i, none⟩ = some (.int .u8 l[i]) := by
  obtain ⟨b, off, e, hb, hc⟩ := h.lies hne
  refine ⟨b, off, e, hb, fun i hi => ?_⟩
  have := hc i hi 0 (by decide)
  simpa [EU] using this
section
variable {H : Type} {enc : TypeId × Value → H} {W : World} {base : Nat} {sp : Nat → Bool} {bb : Bool}
theorem inSched_of {v : Value} {r : Reach} {b0 : Nat} {d : DataW H} {p : List MemPlace} (hsp : ∀ b, sp b = true) (hv : Value.okWide Try.prog W r b0 93 v)
    (hf : DataW.Trod enc Try.prog W base sp bb 93 v d p) : ∃ (ao : Option Addr) (l : List Int) (cap : Nat), v = .slice ao l.length cap ∧ GRd EU W ao l cap ∧ (∀ n ∈ l, 0 ≤ n ∧ n ≤ 255) := by
  obtain ⟨a, len, cap, rfl⟩ := okWide_slice Try.underlying93 hv
  obtain ⟨fuel, hf⟩ := hf
  obtain ⟨ao, l, c, e, hg, hq⟩ := g_open okU n8 (fun n => 0 ≤ n ∧ n ≤ 255) hsp (fun _ _ _ hx => by
    obtain ⟨n, e, _, g⟩ := DataW.trod_int Try.underlying5 hx
    exact ⟨n, e, bounds_u8 g⟩) (show DataW.trod enc Try.prog W base sp bb fuel 93 [.slice a len cap] = _ from hf)
  refine ⟨ao, l, c, e, hg, fun n hn => ?_⟩
  obtain ⟨i, hi, rfl⟩ := List.getElem_of_mem hn
  exact hq i hi
end
end Go.Proofs.Ytpnmokmadbapoaa
