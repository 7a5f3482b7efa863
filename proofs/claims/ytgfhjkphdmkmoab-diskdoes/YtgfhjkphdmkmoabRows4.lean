/-
  From the rows' readings to the walks' words: a slice of bytes by its cell, a list of numbers, a list of lists of bytes that came in.
-/
import Derived.Test.YtgfhjkphdmkmoabDkMem
import Derived.Test.YtgfhjkphdmkmoabRows2
import Derived.Deep.Slices
import Derived.SizedLaws
namespace Go.Proofs.Ytgfhjkphdmkmoab
open Go.ChangeShapes Go.WideShapes Go.ChangeAt Go.RowKit
open Go.ChangeMaps (open_string shut_string)
set_option linter.unusedSimpArgs false
set_option linter.unusedVariables false
set_option maxRecDepth 100000

variable {H : Type} {enc : TypeId × Value → H} {W : World} {base : Nat} {sp : Nat → Bool} {bb : Bool}

theorem Try.pc8 : Try.prog.cellsOf 5 = 1 := by kernel_rfl
theorem Try.pcint : Try.prog.cellsOf 3 = 1 := by kernel_rfl
theorem Try.pcbytes : Try.prog.cellsOf 23 = 1 := by kernel_rfl
theorem Try.bytes8 : Try.prog.bytesOf 5 = 1 := by kernel_rfl

/-- a slice of bytes, by its cell; where its weight is within the reach, its bytes are -/
theorem inBytes_cells {fuel : Nat} {cs : List Value} {x : DataW H × List MemPlace} (hsp : ∀ b, sp b = true) (hf : DataW.trod enc Try.prog W base sp bb fuel 23 cs = some x) :
    ∃ a len cap l, cs = [.slice a len cap] ∧ InBytes W a len cap l ∧ ((∀ n ∈ x.1.weights Try.prog 23, n ≤ reachBytes) → cap ≤ 140737488351232) := by
  have hf' := hf
  rcases Deep.open_slice Try.underlying23 hf' with ⟨rfl, rfl⟩ | ⟨a, len, cap, m, n, D, Pl, rfl, _, hl, hm, hz, rfl, hall⟩
  · exact ⟨none, 0, 0, [], rfl, ⟨rfl, Nat.le_refl _, by simp [maxLen], fun _ => rfl, .inl rfl⟩, fun _ => by omega⟩
  · obtain ⟨l, hi⟩ := inBytes_of (base := base) hsp (d := _) (p := _) (⟨fuel, hf⟩ : DataW.Trod enc Try.prog W base sp bb 23 (.slice (some a) len cap) _ _)
    refine ⟨some a, len, cap, l, rfl, hi, fun hw => ?_⟩
    rw [if_pos (hsp _)] at hz
    subst hz
    have h1 := hw ((len + (m - len)) * Try.prog.bytesOf 5) (by simp [DataW.weights, Try.underlying23])
    rw [Try.bytes8] at h1
    simp only [reachBytes] at h1
    omega

theorem weightsAll_mem {P : Program} {e : TypeId} : ∀ {ds : List (DataW H)} {d : DataW H}, d ∈ ds → ∀ n ∈ d.weights P e, n ∈ DataW.weightsAll P e ds
  | [], _, h, _, _ => by cases h
  | c :: ds, d, h, n, hn => by
    simp only [DataW.weightsAll, List.mem_append]
    rcases List.mem_cons.1 h with rfl | h
    · exact .inl hn
    · exact .inr (weightsAll_mem h n hn)

end Go.Proofs.Ytgfhjkphdmkmoab
