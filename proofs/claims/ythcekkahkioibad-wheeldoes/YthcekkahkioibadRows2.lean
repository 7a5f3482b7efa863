/-
  From the rows' readings to the walks' words: a slice of bytes that came in.
-/
import Derived.Test.YthcekkahkioibadMem
import Derived.ShutString
import Derived.ChangeOld
namespace Go.Proofs.Ythcekkahkioibad
open Go.ChangeShapes Go.WideShapes Go.ChangeAt Go.RowKit
open Go.ChangeMaps (open_string shut_string)
set_option linter.unusedSimpArgs false
set_option linter.unusedVariables false

theorem laidOut_all : laidOutB Try.prog = true := by kernel_rfl
/-- a slice of bytes that came in, as the walk wants it -/
def InBytes (w : World) (a : Option Addr) (len cap : Nat) (l : List UInt8) : Prop :=
  l.length = len ∧ len ≤ cap ∧ cap ≤ maxLen ∧ (a = none → cap = 0) ∧ BsAt w w.heap.size a l

theorem byte_of_wf {n : Int} (h : (Lit.int .u8 n).wf = true) : (Value.int .u8 n) = bcell (UInt8.ofNat n.toNat) := by
  have hb : 0 ≤ n ∧ n < 256 := by
    have := bounds_u8 h
    omega
  have : (UInt8.ofNat n.toNat).toNat = n.toNat := by simp; omega
  unfold bcell
  rw [this]
  congr 1
  omega

theorem inBytes_of {H : Type} {enc : TypeId × Value → H} {W : World} {base : Nat} {sp : Nat → Bool} {bb : Bool} {a : Option Addr} {len cap : Nat} {d : DataW H} {p : List MemPlace} (hsp : ∀ b, sp b = true)
    (hf : DataW.Trod enc Try.prog W base sp bb 120 (.slice a len cap) d p) : ∃ l, InBytes W a len cap l := by
  obtain ⟨fuel, hf⟩ := hf
  rcases open_ints Try.underlying120 Try.underlying5 (by kernel_rfl) hf with ⟨hcs, _⟩ | ⟨x, l, c, zs, hcs, _, hl, hm, hz, _, hcell, hwz⟩
  · simp [Value.cells] at hcs
    obtain ⟨rfl, rfl, rfl⟩ := hcs
    exact ⟨[], rfl, Nat.le_refl _, by simp [maxLen], fun _ => rfl, .inl rfl⟩
  · simp [Value.cells] at hcs
    obtain ⟨rfl, rfl, rfl⟩ := hcs
    rw [if_pos (hsp _)] at hz
    refine ⟨(zs.take len).map fun n => UInt8.ofNat n.toNat, by simp; omega, hl, hm, fun e => (by cases e), ?_⟩
    by_cases h0 : len = 0
    · subst h0; exact .inl rfl
    · obtain ⟨b, off, spot⟩ := x
      have hspot : spot = none := by simpa [Addr.add] using World.cell?_spot (hcell 0 (by omega))
      subst hspot
      refine .inr ⟨b, off, rfl, World.block_lt_of_cell? W _ (hcell 0 (by omega)), fun j hj => ?_⟩
      have hj' : j < zs.length := by simp at hj; omega
      have := hcell j hj'
      rw [addr_add] at this
      rw [this]
      have hg : zs.getD j 0 = zs[j] := by simp [hj']
      rw [hg, byte_of_wf (hwz _ (List.getElem_mem hj'))]
      simp
end Go.Proofs.Ythcekkahkioibad
