/-
  From the rows' readings to the walks' words: a command, and results, that came in.
-/
import Derived.Test.YtiefdflkbihmkaaGi
import Derived.Test.YtiefdflkbihmkaaOrI
import Derived.OpenShut
namespace Go.Proofs.Ytiefdflkbihmkaa
open Go.ChangeShapes Go.WideShapes Go.ChangeAt Go.RowKit
open Go.ChangeMaps (open_string shut_string)
set_option linter.unusedSimpArgs false
set_option linter.unusedVariables false
set_option maxRecDepth 100000

theorem laidOut_all : laidOutB Try.prog = true := by kernel_rfl
theorem Try.c8 : Try.prog.cellsOf 5 = 1 := by kernel_rfl
theorem Try.c64 : Try.prog.cellsOf 3 = 1 := by kernel_rfl
theorem Try.cstr : Try.prog.cellsOf 9 = 1 := by kernel_rfl
theorem Try.cu32 : Try.prog.cellsOf 24 = 1 := by kernel_rfl
theorem Try.cu64 : Try.prog.cellsOf 25 = 1 := by kernel_rfl
theorem Try.cstrs : Try.prog.cellsOf 23 = 1 := by kernel_rfl
theorem Try.cims : Try.prog.cellsOf 34 = 1 := by kernel_rfl
theorem Try.ccmd : Try.prog.cellsOf 27 = 8 := by kernel_rfl
theorem Try.citem : Try.prog.cellsOf 63 = 5 := by kernel_rfl
theorem Try.cres : Try.prog.cellsOf 36 = 3 := by kernel_rfl
instance : Inhabited Im := ⟨⟨⟨#[]⟩, ⟨#[]⟩, 0, 0, 0⟩⟩
instance : Inhabited Rr := ⟨⟨0, none, 0, [], 0⟩⟩
instance : Inhabited ByteArray := ⟨⟨#[]⟩⟩

variable {H : Type} {enc : TypeId × Value → H} {W : World} {base : Nat} {sp : Nat → Bool} {bb : Bool}
theorem str_of_cells {fuel : Nat} {cs : List Value} {x : DataW H × List MemPlace} (h : DataW.trod enc Try.prog W base sp bb fuel 9 cs = some x) : ∃ s : ByteArray, cs = ES.cells s ∧ True := by
  obtain ⟨s, e, _, _⟩ := DataW.trod_string Try.underlying9 h
  exact ⟨s, e, trivial⟩
theorem im_of_cells {fuel : Nat} {cs : List Value} {x : DataW H × List MemPlace} (h : DataW.trod enc Try.prog W base sp bb fuel 63 cs = some x) : ∃ y : Im, cs = EM.cells y ∧ True := by
  obtain ⟨xs, n, _, _, hlen, hxl, hf⟩ := DataW.trod_struct Try.underlying63 h
  rw [Try.citem] at hlen
  match cs, hlen, xs, hxl with
  | [v0, v1, v2, v3, v4], _, [y0, y1, y2, y3, y4], _ =>
    have f0 := hf 0 _ rfl
    have f1 := hf 1 _ rfl
    have f2 := hf 2 _ rfl
    have f3 := hf 3 _ rfl
    have f4 := hf 4 _ rfl
    simp [Try.cstr, Try.cu32, Try.c64, Try.cu64] at f0 f1 f2 f3 f4
    obtain ⟨s0, e0, _, _⟩ := DataW.trod_string Try.underlying9 f0
    obtain ⟨s1, e1, _, _⟩ := DataW.trod_string Try.underlying9 f1
    obtain ⟨n2, e2, _, g2⟩ := DataW.trod_int Try.underlying24 f2
    obtain ⟨n3, e3, _, g3⟩ := DataW.trod_int Try.underlying3 f3
    obtain ⟨n4, e4, _, g4⟩ := DataW.trod_int Try.underlying25 f4
    simp at e0 e1 e2 e3 e4
    subst e0 e1 e2 e3 e4
    exact ⟨⟨s0, s1, n2, n3, n4⟩, rfl, trivial⟩
/-- what is known of a result that came in -/
def RrOk (W : World) (r : Rr) : Prop := GRd EM W r.io r.items r.ic ∧ (0 ≤ r.kind ∧ r.kind ≤ 255) ∧ (0 ≤ r.number ∧ r.number < 18446744073709551616)
theorem rr_of_cells (hsp : ∀ b, sp b = true) {fuel : Nat} {cs : List Value} {x : DataW H × List MemPlace} (h : DataW.trod enc Try.prog W base sp bb fuel 36 cs = some x) : ∃ r : Rr, cs = ER.cells r ∧ RrOk W r := by
  obtain ⟨xs, n, _, _, hlen, hxl, hf⟩ := DataW.trod_struct Try.underlying36 h
  rw [Try.cres] at hlen
  match cs, hlen, xs, hxl with
  | [v0, v1, v2], _, [y0, y1, y2], _ =>
    have f0 := hf 0 _ rfl
    have f1 := hf 1 _ rfl
    have f2 := hf 2 _ rfl
    simp [Try.c8, Try.cims, Try.cu64] at f0 f1 f2
    obtain ⟨n0, e0, _, g0⟩ := DataW.trod_int Try.underlying5 f0
    obtain ⟨n2, e2, _, g2⟩ := DataW.trod_int Try.underlying25 f2
    obtain ⟨ao, l, cap, e1, hg, _⟩ := g_open okM Try.citem (fun _ => True) hsp (fun _ _ _ hx => im_of_cells hx) f1
    simp at e0 e2
    subst e0 e1 e2
    have b0 := bounds_u8 g0
    have b2 := bounds_u64 g2
    exact ⟨⟨n0, ao, cap, l, n2⟩, rfl, hg, b0, by dsimp only; omega⟩
theorem inCmd_of {v : Value} {r : Reach} {b0 : Nat} {d : DataW H} {p : List MemPlace} (hsp : ∀ b, sp b = true) (hv : Value.okWide Try.prog W r b0 27 v)
    (hf : DataW.Trod enc Try.prog W base sp bb 27 v d p) : ∃ (c : Cm) (ko : Option Addr) (kc : Nat), v = .agg (c.arr (.slice ko c.keys.length kc)) ∧ GRd ES W ko c.keys kc ∧ (0 ≤ c.kind ∧ c.kind ≤ 255) := by
  obtain ⟨cs, rfl, hs⟩ := okWide_struct Try.underlying27 hv
  obtain ⟨fuel, hf⟩ := hf
  obtain ⟨xs, n, _, hx, hlen, hxl, hfs⟩ := DataW.trod_struct Try.underlying27 hf
  rw [Try.ccmd] at hs hlen
  obtain ⟨u0, u1, u2, u3, u4, u5, u6, u7, rfl⟩ : ∃ u0 u1 u2 u3 u4 u5 u6 u7, cs = #[u0, u1, u2, u3, u4, u5, u6, u7] := by
    cases cs with | mk l =>
    match l, hs with
    | [u0, u1, u2, u3, u4, u5, u6, u7], _ => exact ⟨u0, u1, u2, u3, u4, u5, u6, u7, rfl⟩
  match xs, hxl with
  | [y0, y1, y2, y3, y4, y5, y6, y7], _ =>
    have f0 := hfs 0 _ rfl
    have f1 := hfs 1 _ rfl
    have f2 := hfs 2 _ rfl
    have f3 := hfs 3 _ rfl
    have f4 := hfs 4 _ rfl
    have f5 := hfs 5 _ rfl
    have f6 := hfs 6 _ rfl
    have f7 := hfs 7 _ rfl
    simp [Try.c8, Try.c64, Try.cstrs, Try.cstr, Try.cu32, Try.cu64, Value.cells] at f0 f1 f2 f3 f4 f5 f6 f7
    obtain ⟨n0, e0, _, g0⟩ := DataW.trod_int Try.underlying5 f0
    obtain ⟨n1, e1, _, g1⟩ := DataW.trod_int Try.underlying3 f1
    obtain ⟨s3, e3, _, g3⟩ := DataW.trod_string Try.underlying9 f3
    obtain ⟨n4, e4, _, g4⟩ := DataW.trod_int Try.underlying24 f4
    obtain ⟨n5, e5, _, g5⟩ := DataW.trod_int Try.underlying3 f5
    obtain ⟨n6, e6, _, g6⟩ := DataW.trod_int Try.underlying25 f6
    obtain ⟨n7, e7, _, g7⟩ := DataW.trod_int Try.underlying25 f7
    obtain ⟨ko, l, kc, e2, hg, _⟩ := g_open okS Try.cstr (fun _ => True) hsp (fun _ _ _ hx => str_of_cells hx) f2
    simp at e0 e1 e3 e4 e5 e6 e7
    subst e0 e1 e2 e3 e4 e5 e6 e7
    have b0 := bounds_u8 g0
    exact ⟨⟨n0, n1, l, s3, n4, n5, n6, n7⟩, ko, kc, rfl, hg, by omega⟩
theorem inResults_of {v : Value} {r : Reach} {b0 : Nat} {d : DataW H} {p : List MemPlace} (hsp : ∀ b, sp b = true) (hv : Value.okWide Try.prog W r b0 39 v)
    (hf : DataW.Trod enc Try.prog W base sp bb 39 v d p) : ∃ (lo : Option Addr) (l : List Rr) (lc : Nat), v = .slice lo l.length lc ∧ Rl W lo l lc ∧ (∀ r ∈ l, RrOk W r) := by
  obtain ⟨a, len, cap, rfl⟩ := okWide_slice Try.underlying39 hv
  obtain ⟨fuel, hf⟩ := hf
  obtain ⟨lo, l, lc, e, hg, hq⟩ := g_open okR Try.cres (RrOk W) hsp (fun _ _ _ hx => rr_of_cells hsp hx) (show DataW.trod enc Try.prog W base sp bb fuel 39 [.slice a len cap] = _ from hf)
  refine ⟨lo, l, lc, e, ⟨hg, fun i hi => (hq i hi).1⟩, fun r hr => ?_⟩
  obtain ⟨i, hi, rfl⟩ := List.getElem_of_mem hr
  exact hq i hi
end Go.Proofs.Ytiefdflkbihmkaa
