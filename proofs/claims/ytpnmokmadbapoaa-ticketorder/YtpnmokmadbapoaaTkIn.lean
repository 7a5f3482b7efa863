/-
  From the rows' readings to the walks' words: tickets, inboxes and a schedule that came in.
-/
import Derived.Test.YtpnmokmadbapoaaGi
import Derived.Test.YtpnmokmadbapoaaTkD
import Derived.OpenShut
namespace Go.Proofs.Ytpnmokmadbapoaa
open Go.ChangeShapes Go.WideShapes Go.ChangeAt Go.RowKit
open Go.ChangeMaps (open_string shut_string)
set_option linter.unusedSimpArgs false
set_option linter.unusedVariables false
set_option maxRecDepth 100000

theorem laidOut_all : laidOutB Try.prog = true := by kernel_rfl
theorem n8 : Try.prog.cellsOf 5 = 1 := by kernel_rfl
theorem n64 : Try.prog.cellsOf 3 = 1 := by kernel_rfl
theorem nstr : Try.prog.cellsOf 9 = 1 := by kernel_rfl
theorem nu32 : Try.prog.cellsOf 24 = 1 := by kernel_rfl
theorem nu64 : Try.prog.cellsOf 25 = 1 := by kernel_rfl
theorem nstrs : Try.prog.cellsOf 23 = 1 := by kernel_rfl
theorem ncmd : Try.prog.cellsOf 27 = 8 := by kernel_rfl
theorem ntk : Try.prog.cellsOf 68 = 12 := by kernel_rfl
theorem nbx : Try.prog.cellsOf 92 = 1 := by kernel_rfl
theorem nbxs : Try.prog.cellsOf 60 = 1 := by kernel_rfl
theorem nqueue : Try.prog.cellsOf 62 = 2 := by kernel_rfl
instance : Inhabited Td := ⟨⟨⟨0, 0, ⟨0, 0, [], ⟨#[]⟩, 0, 0, 0, 0⟩, 0, 0⟩, none, 0⟩⟩
instance : Inhabited Bx := ⟨⟨[], none, 0⟩⟩
instance : Inhabited ByteArray := ⟨⟨#[]⟩⟩

variable {H : Type} {enc : TypeId × Value → H} {W : World} {base : Nat} {sp : Nat → Bool} {bb : Bool}
theorem str_of_cells {fuel : Nat} {cs : List Value} {x : DataW H × List MemPlace} (h : DataW.trod enc Try.prog W base sp bb fuel 9 cs = some x) : ∃ s : ByteArray, cs = ES.cells s ∧ True := by
  obtain ⟨s, e, _, _⟩ := DataW.trod_string Try.underlying9 h
  exact ⟨s, e, trivial⟩
theorem cm_of_cells (hsp : ∀ b, sp b = true) {fuel : Nat} {cs : List Value} {x : DataW H × List MemPlace} (h : DataW.trod enc Try.prog W base sp bb fuel 27 cs = some x) : ∃ (c : Cm) (ko : Option Addr) (kc : Nat), cs = [.int .u8 c.kind, .int .i64 c.tenant, .slice ko c.keys.length kc, .string c.value, .int .u32 c.flags, .int .i64 c.life, .int .u64 c.unique, .int .u64 c.by_] ∧ GRd ES W ko c.keys kc := by
  obtain ⟨xs, n, _, hx, hlen, hxl, hfs⟩ := DataW.trod_struct Try.underlying27 h
  rw [ncmd] at hlen
  match cs, hlen, xs, hxl with
  | [u0, u1, u2, u3, u4, u5, u6, u7], _, [y0, y1, y2, y3, y4, y5, y6, y7], _ =>
    have f0 := hfs 0 _ rfl
    have f1 := hfs 1 _ rfl
    have f2 := hfs 2 _ rfl
    have f3 := hfs 3 _ rfl
    have f4 := hfs 4 _ rfl
    have f5 := hfs 5 _ rfl
    have f6 := hfs 6 _ rfl
    have f7 := hfs 7 _ rfl
    simp [n8, n64, nstrs, nstr, nu32, nu64] at f0 f1 f2 f3 f4 f5 f6 f7
    obtain ⟨m0, e0, _, g0⟩ := DataW.trod_int Try.underlying5 f0
    obtain ⟨m1, e1, _, g1⟩ := DataW.trod_int Try.underlying3 f1
    obtain ⟨s3, e3, _, g3⟩ := DataW.trod_string Try.underlying9 f3
    obtain ⟨m4, e4, _, g4⟩ := DataW.trod_int Try.underlying24 f4
    obtain ⟨m5, e5, _, g5⟩ := DataW.trod_int Try.underlying3 f5
    obtain ⟨m6, e6, _, g6⟩ := DataW.trod_int Try.underlying25 f6
    obtain ⟨m7, e7, _, g7⟩ := DataW.trod_int Try.underlying25 f7
    obtain ⟨ko, l, kc, e2, hg, _⟩ := g_open okS nstr (fun _ => True) hsp (fun _ _ _ hx => str_of_cells hx) f2
    simp at e0 e1 e3 e4 e5 e6 e7
    subst e0 e1 e2 e3 e4 e5 e6 e7
    exact ⟨⟨m0, m1, l, s3, m4, m5, m6, m7⟩, ko, kc, rfl, hg⟩
theorem tk_of_cells (hsp : ∀ b, sp b = true) {fuel : Nat} {cs : List Value} {x : DataW H × List MemPlace} (h : DataW.trod enc Try.prog W base sp bb fuel 68 cs = some x) : ∃ d : Td, cs = ET.cells d ∧ GRd ES W d.so d.t.c.keys d.sc := by
  obtain ⟨xs, n, _, hx, hlen, hxl, hfs⟩ := DataW.trod_struct Try.underlying68 h
  rw [ntk] at hlen
  match cs, hlen, xs, hxl with
  | [u0, u1, u2, u3, u4, u5, u6, u7, u8, u9, u10, u11], _, [y0, y1, y2, y3, y4], _ =>
    have f0 := hfs 0 _ rfl
    have f1 := hfs 1 _ rfl
    have f2 := hfs 2 _ rfl
    have f3 := hfs 3 _ rfl
    have f4 := hfs 4 _ rfl
    simp [n8, n64, ncmd] at f0 f1 f2 f3 f4
    obtain ⟨m0, e0, _, g0⟩ := DataW.trod_int Try.underlying3 f0
    obtain ⟨m1, e1, _, g1⟩ := DataW.trod_int Try.underlying5 f1
    obtain ⟨c, ko, kc, e2, hd⟩ := cm_of_cells hsp f2
    obtain ⟨m3, e3, _, g3⟩ := DataW.trod_int Try.underlying3 f3
    obtain ⟨m4, e4, _, g4⟩ := DataW.trod_int Try.underlying3 f4
    simp at e0 e1 e2 e3 e4
    obtain ⟨rfl, rfl, rfl, rfl, rfl, rfl, rfl, rfl⟩ := e2
    subst e0 e1 e3 e4
    exact ⟨⟨⟨m0, m1, c, m3, m4⟩, ko, kc⟩, rfl, hd⟩
/-- what is known of a box that came in -/
structure BxIn (W : World) (b : Bx) : Prop where
  row : GRd ET W b.ao b.l b.cap
  keys : ∀ d ∈ b.l, GRd ES W d.so d.t.c.keys d.sc
theorem tks_of (hsp : ∀ b, sp b = true) {fuel : Nat} {v : Value} {x : DataW H × List MemPlace} (h : DataW.trod enc Try.prog W base sp bb fuel 92 [v] = some x) : ∃ b : Bx, v = b.v ∧ BxIn W b := by
  obtain ⟨ao, l, cap, e, hg, hq⟩ := g_open okT ntk (fun d => GRd ES W d.so d.t.c.keys d.sc) hsp (fun _ _ _ hx => tk_of_cells hsp hx) h
  refine ⟨⟨l, ao, cap⟩, e, hg, fun d hd => ?_⟩
  obtain ⟨i, hi, rfl⟩ := List.getElem_of_mem hd
  exact hq i hi
theorem bx_of_cells (hsp : ∀ b, sp b = true) {fuel : Nat} {cs : List Value} {x : DataW H × List MemPlace} (h : DataW.trod enc Try.prog W base sp bb fuel 92 cs = some x) : ∃ b : Bx, cs = EB.cells b ∧ BxIn W b := by
  have hl : cs.length = 1 := by
    rcases Deep.open_slice okT.und h with ⟨hcs, _⟩ | ⟨y, len, c, m, n, D, Pl, hcs, _⟩
    · rw [hcs]; rfl
    · rw [hcs]; rfl
  match cs, hl with
  | [v], _ =>
    obtain ⟨b, e, hb⟩ := tks_of hsp h
    exact ⟨b, by rw [e]; rfl, hb⟩
theorem inQueue_of {v : Value} {r : Reach} {b0 : Nat} {d : DataW H} {p : List MemPlace} (hsp : ∀ b, sp b = true) (hv : Value.okWide Try.prog W r b0 62 v)
    (hf : DataW.Trod enc Try.prog W base sp bb 62 v d p) : ∃ (next : Int) (ao : Option Addr) (B : List Bx) (cap : Nat), v = .agg #[.int .i64 next, .slice ao B.length cap] ∧ Qr W ao B cap := by
  obtain ⟨cs, rfl, hs⟩ := okWide_struct Try.underlying62 hv
  obtain ⟨fuel, hf⟩ := hf
  obtain ⟨xs, n, _, hx, hlen, hxl, hfs⟩ := DataW.trod_struct Try.underlying62 hf
  rw [nqueue] at hs hlen
  obtain ⟨u0, u1, rfl⟩ : ∃ u0 u1, cs = #[u0, u1] := by
    cases cs with | mk l =>
    match l, hs with
    | [u0, u1], _ => exact ⟨u0, u1, rfl⟩
  match xs, hxl with
  | [y0, y1], _ =>
    have f0 := hfs 0 _ rfl
    have f1 := hfs 1 _ rfl
    simp [n64, nbxs, Value.cells] at f0 f1
    obtain ⟨m0, e0, _, g0⟩ := DataW.trod_int Try.underlying3 f0
    obtain ⟨ao, B, cap, e1, hg, hq⟩ := g_open okB nbx (BxIn W) hsp (fun _ _ _ hx => bx_of_cells hsp hx) f1
    simp at e0
    subst e0 e1
    have hall : ∀ b ∈ B, BxIn W b := by
      intro b hb
      obtain ⟨i, hi, rfl⟩ := List.getElem_of_mem hb
      exact hq i hi
    exact ⟨m0, ao, B, cap, rfl, hg, fun b hb => (hall b hb).row, fun b hb => (hall b hb).keys⟩
theorem inTickets_of {v : Value} {r : Reach} {b0 : Nat} {d : DataW H} {p : List MemPlace} (hsp : ∀ b, sp b = true) (hv : Value.okWide Try.prog W r b0 92 v)
    (hf : DataW.Trod enc Try.prog W base sp bb 92 v d p) : ∃ b : Bx, v = b.v ∧ BxIn W b := by
  obtain ⟨a, len, cap, rfl⟩ := okWide_slice Try.underlying92 hv
  obtain ⟨fuel, hf⟩ := hf
  exact tks_of hsp (show DataW.trod enc Try.prog W base sp bb fuel 92 [.slice a len cap] = _ from hf)
end Go.Proofs.Ytpnmokmadbapoaa
