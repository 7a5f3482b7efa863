/-
  From the rows' readings to the walks' words: bytes that came in.
-/
import Derived.Test.YtjmcgpdimhgegaaGi
import Derived.Test.YtjmcgpdimhgegaaGy
import Derived.Test.YtjmcgpdimhgegaaChecked
import Derived.OpenShut
namespace Go.Proofs.Ytjmcgpdimhgegaa
open Go.Proofs.Ytjmcgpdimhgegaa.It
open Go.ChangeShapes Go.WideShapes Go.ChangeAt Go.RowKit
open Go.ChangeMaps (open_string shut_string)
set_option linter.unusedSimpArgs false
set_option linter.unusedVariables false
set_option maxRecDepth 100000

theorem laidOut_all : laidOutB Try.prog = true := by kernel_rfl
theorem Try.k8 : Try.prog.cellsOf 5 = 1 := by kernel_rfl
instance : Inhabited UInt8 := ⟨0⟩
variable {H : Type} {enc : TypeId × Value → H} {W : World} {base : Nat} {sp : Nat → Bool} {bb : Bool}
/-- bytes that came in -/
theorem inBytes14_of {v : Value} {r : Reach} {b0 : Nat} {d : DataW H} {p : List MemPlace} (hsp : ∀ b, sp b = true) (hv : Value.okWide Try.prog W r b0 30 v)
    (hf : DataW.Trod enc Try.prog W base sp bb 30 v d p) : ∃ (ao : Option Addr) (l : List UInt8) (cap : Nat), v = .slice ao l.length cap ∧ GRd EY W ao l cap := by
  obtain ⟨a, len, cap, rfl⟩ := okWide_slice Try.underlying30 hv
  obtain ⟨fuel, hf⟩ := hf
  obtain ⟨ao, l, c, e, hg, _⟩ := g_open okY Try.k8 (fun _ => True) hsp (fun _ cs _ hx => by
    obtain ⟨n, e, _, g⟩ := DataW.trod_int Try.underlying5 hx
    have hb := bounds_u8 g
    refine ⟨UInt8.ofNat n.toNat, ?_, trivial⟩
    rw [e]
    have : ((UInt8.ofNat n.toNat).toNat : Int) = n := by
      have h2 : n.toNat < 256 := by omega
      rw [UInt8.toNat_ofNat_of_lt' h2]
      omega
    show [Value.int .u8 n] = [.int .u8 ((UInt8.ofNat n.toNat).toNat : Int)]
    rw [this]) (show DataW.trod enc Try.prog W base sp bb fuel 30 [.slice a len cap] = _ from hf)
  exact ⟨ao, l, c, e, hg⟩
end Go.Proofs.Ytjmcgpdimhgegaa
