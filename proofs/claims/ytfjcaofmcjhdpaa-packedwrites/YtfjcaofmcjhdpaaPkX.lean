/-
  From the rows' readings to the walks' words: answers and bytes that came in (package packed).
-/
import Derived.Test.YtfjcaofmcjhdpaaPkJ
import Derived.Test.YtfjcaofmcjhdpaaGi
import Derived.Test.YtfjcaofmcjhdpaaChecked
import Derived.OpenShut
namespace Go.Proofs.Ytfjcaofmcjhdpaa
open Go.Proofs.Ytfjcaofmcjhdpaa.It
open Go.ChangeShapes Go.WideShapes Go.ChangeAt Go.RowKit
open Go.ChangeMaps (open_string shut_string)
set_option linter.unusedSimpArgs false
set_option linter.unusedVariables false
set_option maxRecDepth 100000

theorem laidOut_all : laidOutB Try.prog = true := by kernel_rfl
theorem own : ownKnob Try.prog.godebug = none := by kernel_rfl
theorem Try.k8 : Try.prog.cellsOf 5 = 1 := by kernel_rfl
theorem Try.k64 : Try.prog.cellsOf 3 = 1 := by kernel_rfl
theorem Try.kstr : Try.prog.cellsOf 9 = 1 := by kernel_rfl
theorem Try.ku32 : Try.prog.cellsOf 32 = 1 := by kernel_rfl
theorem Try.ku64 : Try.prog.cellsOf 27 = 1 := by kernel_rfl
theorem Try.kbool : Try.prog.cellsOf 4 = 1 := by kernel_rfl
theorem Try.kims : Try.prog.cellsOf 26 = 1 := by kernel_rfl
theorem Try.kitem : Try.prog.cellsOf 34 = 5 := by kernel_rfl
theorem Try.kres : Try.prog.cellsOf 29 = 3 := by kernel_rfl
theorem Try.kans : Try.prog.cellsOf 31 = 7 := by kernel_rfl
instance : Inhabited ByteArray := ⟨⟨#[]⟩⟩
instance : Inhabited Im := ⟨⟨⟨#[]⟩, ⟨#[]⟩, 0, 0, 0⟩⟩
variable {H : Type} {enc : TypeId × Value → H} {W : World} {base : Nat} {sp : Nat → Bool} {bb : Bool}
/-- what is known of an item that came in -/
def ImIn (x : Im) : Prop := (x.key.size ≤ maxLen ∧ x.value.size ≤ maxLen) ∧ (0 ≤ x.flags ∧ x.flags < 4294967296 ∧ 0 ≤ x.unique ∧ x.unique < 18446744073709551616)
theorem im_of_cells {fuel : Nat} {cs : List Value} {x : DataW H × List MemPlace} (h : DataW.trod enc Try.prog W base sp bb fuel 34 cs = some x) : ∃ y : Im, cs = EM.cells y ∧ ImIn y := by
  obtain ⟨xs, n, _, _, hlen, hxl, hf⟩ := DataW.trod_struct Try.underlying34 h
  rw [Try.kitem] at hlen
  match cs, hlen, xs, hxl with
  | [v0, v1, v2, v3, v4], _, [y0, y1, y2, y3, y4], _ =>
    have f0 := hf 0 _ rfl
    have f1 := hf 1 _ rfl
    have f2 := hf 2 _ rfl
    have f3 := hf 3 _ rfl
    have f4 := hf 4 _ rfl
    simp [Try.kstr, Try.ku32, Try.k64, Try.ku64] at f0 f1 f2 f3 f4
    obtain ⟨s0, e0, _, g0⟩ := DataW.trod_string Try.underlying9 f0
    obtain ⟨s1, e1, _, g1⟩ := DataW.trod_string Try.underlying9 f1
    obtain ⟨n2, e2, _, g2⟩ := DataW.trod_int Try.underlying32 f2
    obtain ⟨n3, e3, _, g3⟩ := DataW.trod_int Try.underlying3 f3
    obtain ⟨n4, e4, _, g4⟩ := DataW.trod_int Try.underlying27 f4
    simp at e0 e1 e2 e3 e4
    subst e0 e1 e2 e3 e4
    have c2 := bounds_u32 g2
    have c4 := bounds_u64 g4
    exact ⟨⟨s0, s1, n2, n3, n4⟩, rfl, ⟨g0, g1⟩, by dsimp only; omega, by dsimp only; omega, by dsimp only; omega, by dsimp only; omega⟩
/-- an answer that came in -/
structure AnIn (W : World) (a : An) (io : Option Addr) (ic : Nat) : Prop where
  rd : GRd EM W io a.items ic
  key : a.key.size ≤ maxLen
  its : ∀ x ∈ a.items, ImIn x
  kind : 0 ≤ a.kind ∧ a.kind ≤ 255
  of_ : 0 ≤ a.of_ ∧ a.of_ ≤ 255
  rk : 0 ≤ a.rk ∧ a.rk ≤ 255
  num : 0 ≤ a.num ∧ a.num < 18446744073709551616
theorem AnIn.pf {W : World} {a : An} {io : Option Addr} {ic : Nat} (h : AnIn W a io ic) : a.Pf := ⟨h.kind, h.of_, h.rk, h.num, fun x hx => ⟨⟨(h.its x hx).2.1, (h.its x hx).2.2.1⟩, (h.its x hx).2.2.2⟩⟩
theorem inAns_of {v : Value} {r : Reach} {b0 : Nat} {d : DataW H} {p : List MemPlace} (hsp : ∀ b, sp b = true) (hv : Value.okWide Try.prog W r b0 31 v)
    (hf : DataW.Trod enc Try.prog W base sp bb 31 v d p) : ∃ (a : An) (io : Option Addr) (ic : Nat), v = .agg (a.arr (.slice io a.items.length ic)) ∧ AnIn W a io ic := by
  obtain ⟨cs, rfl, hs⟩ := okWide_struct Try.underlying31 hv
  obtain ⟨fuel, hf⟩ := hf
  obtain ⟨xs, n, _, hx, hlen, hxl, hfs⟩ := DataW.trod_struct Try.underlying31 hf
  rw [Try.kans] at hs hlen
  obtain ⟨z0, z1, u0, u1, u2, z3, z4, rfl⟩ : ∃ z0 z1 u0 u1 u2 z3 z4, cs = #[z0, z1, u0, u1, u2, z3, z4] := by
    cases cs with | mk l =>
    match l, hs with
    | [z0, z1, u0, u1, u2, z3, z4], _ => exact ⟨z0, z1, u0, u1, u2, z3, z4, rfl⟩
  match xs, hxl with
  | [y0, y1, y2, y3, y4], _ =>
    have f0 := hfs 0 _ rfl
    have f1 := hfs 1 _ rfl
    have f2 := hfs 2 _ rfl
    have f3 := hfs 3 _ rfl
    have f4 := hfs 4 _ rfl
    simp [Try.k8, Try.kstr, Try.kbool, Try.kres, Value.cells] at f0 f1 f2 f3 f4
    obtain ⟨m0, e0, _, g0⟩ := DataW.trod_int Try.underlying5 f0
    obtain ⟨m1, e1, _, g1⟩ := DataW.trod_int Try.underlying5 f1
    obtain ⟨m3, e3, _⟩ := DataW.trod_bool Try.underlying4 f3
    obtain ⟨m4, e4, _, g4⟩ := DataW.trod_string Try.underlying9 f4
    obtain ⟨xs1, n1, _, hx1, hlen1, hxl1, hfs1⟩ := DataW.trod_struct Try.underlying29 f2
    match xs1, hxl1 with
    | [t0, t1, t2], _ =>
      have a0 := hfs1 0 _ rfl
      have a1 := hfs1 1 _ rfl
      have a2 := hfs1 2 _ rfl
      simp [Try.k8, Try.kims, Try.ku64, Value.cells] at a0 a1 a2
      obtain ⟨n0, b0, _, q0⟩ := DataW.trod_int Try.underlying5 a0
      obtain ⟨n2, b2, _, q2⟩ := DataW.trod_int Try.underlying27 a2
      obtain ⟨io, l, ic, b1, hg, hp⟩ := g_open okM Try.kitem ImIn hsp (fun _ _ _ hx => im_of_cells hx) a1
      simp at e0 e1 e3 e4 b0 b2
      subst e0 e1 e3 e4 b0 b1 b2
      have c0 := bounds_u8 g0
      have c1 := bounds_u8 g1
      have c2 := bounds_u8 q0
      have c3 := bounds_u64 q2
      exact ⟨⟨m0, m1, n0, l, n2, m3, m4⟩, io, ic, rfl, hg, g4, (fun x hx => by obtain ⟨i, hi, rfl⟩ := List.getElem_of_mem hx; exact hp i hi), by dsimp only; omega, by dsimp only; omega, by dsimp only; omega, by dsimp only; omega⟩
/-- bytes that came in -/
theorem inBytes14_of {v : Value} {r : Reach} {b0 : Nat} {d : DataW H} {p : List MemPlace} (hsp : ∀ b, sp b = true) (hv : Value.okWide Try.prog W r b0 22 v)
    (hf : DataW.Trod enc Try.prog W base sp bb 22 v d p) : ∃ (ao : Option Addr) (l : List UInt8) (cap : Nat), v = .slice ao l.length cap ∧ GRd EY W ao l cap := by
  obtain ⟨a, len, cap, rfl⟩ := okWide_slice Try.underlying22 hv
  obtain ⟨fuel, hf⟩ := hf
  obtain ⟨ao, l, c, e, hg, _⟩ := g_open okY Try.k8 (fun _ => True) hsp (fun _ cs _ hx => by
    obtain ⟨n, e, _, g⟩ := DataW.trod_int Try.underlying5 hx
    have hb := bounds_u8 g
    refine ⟨UInt8.ofNat n.toNat, ?_, trivial⟩
    rw [e]
    have : ((UInt8.ofNat n.toNat).toNat : Int) = n := by
      have h2 : n.toNat < 256 := by omega
      rw [UInt8.toNat_ofNat_of_lt' h2]
      omega
    show [Value.int .u8 n] = [.int .u8 ((UInt8.ofNat n.toNat).toNat : Int)]
    rw [this]) (show DataW.trod enc Try.prog W base sp bb fuel 22 [.slice a len cap] = _ from hf)
  exact ⟨ao, l, c, e, hg⟩
end Go.Proofs.Ytfjcaofmcjhdpaa
