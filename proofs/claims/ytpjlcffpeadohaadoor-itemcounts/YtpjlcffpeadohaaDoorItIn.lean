/-
  From the rows' readings to the walks' words: an item that came in.
-/
import Derived.Test.YtpjlcffpeadohaaDoorItFn
import Derived.ShutString
import Derived.ChangeOld
import Derived.Deep.Slices
import Derived.SliceStrings
import Derived.SizedLaws
import Derived.ChangeMaps
import Derived.Carry
import Derived.OpenShut
namespace Go.Proofs.YtpjlcffpeadohaaDoor
open Go.ChangeShapes Go.WideShapes Go.ChangeAt Go.RowKit
open Go.ChangeMaps (open_string shut_string)
set_option linter.unusedSimpArgs false
set_option linter.unusedVariables false
set_option maxRecDepth 100000

theorem laidOut_all : laidOutB Tryd.prog = true := by kernel_rfl
theorem Tryd.c64 : Tryd.prog.cellsOf 3 = 1 := by kernel_rfl
theorem Tryd.cstr : Tryd.prog.cellsOf 9 = 1 := by kernel_rfl
theorem Tryd.cu32 : Tryd.prog.cellsOf 31 = 1 := by kernel_rfl
theorem Tryd.cu64 : Tryd.prog.cellsOf 25 = 1 := by kernel_rfl
theorem Tryd.citem : Tryd.prog.cellsOf 33 = 5 := by kernel_rfl

theorem inItem_of {H : Type} {enc : TypeId × Value → H} {W : World} {base : Nat} {sp : Nat → Bool} {bb : Bool} {v : Value} {r : Reach} {b0 : Nat} {d : DataW H} {p : List MemPlace} (hv : Value.okWide Tryd.prog W r b0 33 v)
    (hf : DataW.Trod enc Tryd.prog W base sp bb 33 v d p) : ∃ x : It, v = x.v := by
  obtain ⟨cs, rfl, hs⟩ := okWide_struct Tryd.underlying33 hv
  obtain ⟨fuel, hf⟩ := hf
  obtain ⟨xs, n, _, _, hlen, hxl, hfs⟩ := DataW.trod_struct Tryd.underlying33 hf
  rw [Tryd.citem] at hs hlen
  obtain ⟨u0, u1, u2, u3, u4, rfl⟩ : ∃ u0 u1 u2 u3 u4, cs = #[u0, u1, u2, u3, u4] := by
    cases cs with | mk l =>
    match l, hs with
    | [u0, u1, u2, u3, u4], _ => exact ⟨u0, u1, u2, u3, u4, rfl⟩
  match xs, hxl with
  | [y0, y1, y2, y3, y4], _ =>
    have f0 := hfs 0 _ rfl
    have f1 := hfs 1 _ rfl
    have f2 := hfs 2 _ rfl
    have f3 := hfs 3 _ rfl
    have f4 := hfs 4 _ rfl
    simp [Tryd.cstr, Tryd.cu32, Tryd.c64, Tryd.cu64, Value.cells] at f0 f1 f2 f3 f4
    obtain ⟨s0, e0, _, _⟩ := DataW.trod_string Tryd.underlying9 f0
    obtain ⟨s1, e1, _, _⟩ := DataW.trod_string Tryd.underlying9 f1
    obtain ⟨n2, e2, _, g2⟩ := DataW.trod_int Tryd.underlying31 f2
    obtain ⟨n3, e3, _, g3⟩ := DataW.trod_int Tryd.underlying3 f3
    obtain ⟨n4, e4, _, g4⟩ := DataW.trod_int Tryd.underlying25 f4
    simp at e0 e1 e2 e3 e4
    subst e0 e1 e2 e3 e4
    exact ⟨⟨s0, s1, n2, n3, n4⟩, rfl⟩
end Go.Proofs.YtpjlcffpeadohaaDoor
