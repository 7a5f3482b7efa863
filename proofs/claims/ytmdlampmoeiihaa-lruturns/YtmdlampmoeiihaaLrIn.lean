/-
  From the rows' readings to the walks' words: an order that came in, texts that came in.
-/
import Derived.Test.YtmdlampmoeiihaaLrMem
import Derived.ShutString
import Derived.ChangeOld
import Derived.Deep.Slices
import Derived.SliceStrings
import Derived.SizedLaws
namespace Go.Proofs.Ytmdlampmoeiihaa
open Go.ChangeShapes Go.WideShapes Go.ChangeAt Go.RowKit
open Go.ChangeMaps (open_string shut_string)
set_option linter.unusedSimpArgs false
set_option linter.unusedVariables false
set_option maxRecDepth 100000

theorem laidOut_all : laidOutB Try.prog = true := by kernel_rfl
variable {H : Type} {enc : TypeId × Value → H} {W : World} {base : Nat} {sp : Nat → Bool} {bb : Bool}
theorem Try.cord : Try.prog.cellsOf 24 = 2 := by kernel_rfl
theorem Try.cstrs : Try.prog.cellsOf 22 = 1 := by kernel_rfl
theorem Try.cstr : Try.prog.cellsOf 9 = 1 := by kernel_rfl
theorem texts_of {fuel : Nat} {u : Value} {x : DataW H × List MemPlace} (hsp : ∀ b, sp b = true) (h : DataW.trod enc Try.prog W base sp bb fuel 22 [u] = some x) : ∃ ao ks cap, u = .slice ao ks.length cap ∧ Tl W ao ks cap := by
  rcases open_strings Try.underlying22 Try.underlying9 Try.cstr h with ⟨hcs, _⟩ | ⟨a, len, cap, ss, hcs, _, hl, hm, hz, _, hcell, hss⟩
  · simp at hcs
    subst hcs
    exact ⟨none, [], 0, rfl, Tl.nil _⟩
  · simp at hcs
    subst hcs
    rw [if_pos (hsp _)] at hz
    have hlen2 : (ss.take len).length = len := by simp; omega
    refine ⟨some a, ss.take len, cap, by rw [hlen2], ⟨by rw [hlen2]; exact hl, hm, (by intro e; cases e), ?_⟩⟩
    by_cases h0 : len = 0
    · subst h0; exact .inl rfl
    · obtain ⟨b, off, spot⟩ := a
      have hspot : spot = none := by simpa [Addr.add] using World.cell?_spot (hcell 0 (by omega))
      subst hspot
      refine .inr ⟨b, off, rfl, World.block_lt_of_cell? W _ (hcell 0 (by omega)), fun j hj => ?_⟩
      have hj' : j < ss.length := by simp at hj; omega
      have := hcell j hj'
      rw [addr_add] at this
      rw [this]
      simp [hj']
theorem inOrder_of {v : Value} {r : Reach} {b0 : Nat} {d : DataW H} {p : List MemPlace} (hsp : ∀ b, sp b = true) (hv : Value.okWide Try.prog W r b0 24 v)
    (hf : DataW.Trod enc Try.prog W base sp bb 24 v d p) : ∃ aT cT aK cK T K, v = .agg #[.slice aT (T : List ByteArray).length cT, .slice aK (K : List ByteArray).length cK] ∧ Tl W aT T cT ∧ Tl W aK K cK := by
  obtain ⟨cs, rfl, hs⟩ := okWide_struct Try.underlying24 hv
  obtain ⟨fuel, hf⟩ := hf
  obtain ⟨xs, n, _, hx, hlen, hxl, hfs⟩ := DataW.trod_struct Try.underlying24 hf
  rw [Try.cord] at hs hlen
  obtain ⟨u0, u1, rfl⟩ : ∃ u0 u1, cs = #[u0, u1] := by
    cases cs with | mk l =>
    match l, hs with
    | [u0, u1], _ => exact ⟨u0, u1, rfl⟩
  match xs, hxl with
  | [y0, y1], _ =>
    have f0 := hfs 0 _ rfl
    have f1 := hfs 1 _ rfl
    simp [Try.cstrs, Value.cells] at f0 f1
    obtain ⟨aT, T, cT, rfl, hT⟩ := texts_of hsp f0
    obtain ⟨aK, K, cK, rfl, hK⟩ := texts_of hsp f1
    exact ⟨aT, cT, aK, cK, T, K, rfl, hT, hK⟩
theorem inTexts_of {v : Value} {r : Reach} {b0 : Nat} {d : DataW H} {p : List MemPlace} (hsp : ∀ b, sp b = true) (hv : Value.okWide Try.prog W r b0 22 v)
    (hf : DataW.Trod enc Try.prog W base sp bb 22 v d p) : ∃ ao cap l, v = .slice ao (l : List ByteArray).length cap ∧ Tl W ao l cap := by
  obtain ⟨a, len, cap, rfl⟩ := okWide_slice Try.underlying22 hv
  obtain ⟨fuel, hf⟩ := hf
  obtain ⟨ao, ks, cap', e, h⟩ := texts_of hsp hf
  exact ⟨ao, cap', ks, e, h⟩
end Go.Proofs.Ytmdlampmoeiihaa
