/-
  (shaken)
-/
import Derived.Test.YtfjcaofmcjhdpaaGr
import Derived.ShutString
import Derived.ChangeOld
import Derived.Deep.Slices
import Derived.SliceStrings
import Derived.SizedLaws
import Derived.ChangeMaps
import Derived.Carry
namespace Go.Proofs.Ytfjcaofmcjhdpaa
open Go.ChangeShapes Go.WideShapes Go.ChangeAt Go.RowKit
open Go.ChangeMaps (open_string shut_string)
set_option linter.unusedSimpArgs false
set_option linter.unusedVariables false
set_option maxRecDepth 100000

theorem g_open {α : Type} [Inhabited α] {E : GEl α} (K : GOk E) {H : Type} {enc : TypeId × Value → H} {W : World} {base : Nat} {sp : Nat → Bool} {bb : Bool} (hce : Try.prog.cellsOf E.e = E.sz) (Q : α → Prop) (hsp : ∀ b, sp b = true)
    (hel : ∀ (fuel : Nat) (cs : List Value) (x : DataW H × List MemPlace), DataW.trod enc Try.prog W base sp bb fuel E.e cs = some x → ∃ a, cs = E.cells a ∧ Q a)
    {fuel : Nat} {v : Value} {x : DataW H × List MemPlace} (hf : DataW.trod enc Try.prog W base sp bb fuel E.st [v] = some x) :
    ∃ (ao : Option Addr) (l : List α) (cap : Nat), v = .slice ao l.length cap ∧ GRd E W ao l cap ∧ ∀ i (hi : i < l.length), Q l[i] := by
  have hpos := K.pos
  rcases Deep.open_slice K.und hf with ⟨hcs, _⟩ | ⟨y, len, c, m, n, D, Pl, hcs, _, hl, hm, hz, _, hall⟩
  · simp at hcs
    subst hcs
    exact ⟨none, [], 0, rfl, GRd.nil W, fun i hi => by simp at hi⟩
  · simp at hcs
    subst hcs
    rw [if_pos (hsp _)] at hz
    subst hz
    rw [hce] at hall
    have hex : ∀ i, i < len → ∃ a : α, (∀ j (hj : j < (E.cells a).length), W.cell? (y.add (i * E.sz + j)) = some (E.cells a)[j]) ∧ Q a := by
      intro i hi
      obtain ⟨cs', h1, h2⟩ := hall i (by omega)
      obtain ⟨a, rfl, hq⟩ := hel _ _ _ h2
      refine ⟨a, fun j hj => ?_, hq⟩
      have h3 := (World.cells?_some h1).2.2 j (by have := K.len a; omega)
      rw [Deep.add_add] at h3
      rw [h3, List.getElem?_eq_getElem hj]
    obtain ⟨f, hfs⟩ := Deep.choose_lt hex
    have hlen : ((List.range len).map f).length = len := by simp
    refine ⟨some y, (List.range len).map f, m, by rw [hlen], ⟨by rw [hlen]; exact hl, hm, (by intro e; cases e), ?_⟩, fun i hi => by
      have hi' : i < len := by simpa using hi
      simpa using (hfs i hi').2⟩
    by_cases h0 : len = 0
    · subst h0; exact .inl rfl
    · obtain ⟨b, off, spot⟩ := y
      have hl0 : 0 < (E.cells (f 0)).length := by rw [K.len]; exact hpos
      have h00 := (hfs 0 (by omega)).1 0 hl0
      have hspot : spot = none := by simpa [Addr.add] using World.cell?_spot h00
      subst hspot
      refine .inr ⟨b, off, rfl, by rw [g_add] at h00; exact World.block_lt_of_cell? W ⟨b, off + (0 * E.sz + 0), none⟩ h00, fun i hi j hj => ?_⟩
      have hi' : i < len := by simpa using hi
      have hj' : j < (E.cells (f i)).length := by rw [K.len]; exact hj
      have := (hfs i hi').1 j hj'
      rw [g_add, ← Nat.add_assoc] at this
      simp only [List.getElem_map, List.getElem_range]
      rw [this, List.getElem?_eq_getElem hj']
end Go.Proofs.Ytfjcaofmcjhdpaa
