/-
  From the rows' readings to the walks' words: a slab that came in.
-/
import Derived.Test.YtkcgleahbhmggaaSbMem
import Derived.ShutString
import Derived.ChangeOld
import Derived.Deep.Slices
import Derived.SizedLaws
namespace Go.Proofs.Ytkcgleahbhmggaa
open Go.ChangeShapes Go.WideShapes Go.ChangeAt Go.RowKit
open Go.ChangeMaps (open_string shut_string)
set_option linter.unusedSimpArgs false
set_option linter.unusedVariables false
set_option maxRecDepth 100000

theorem laidOut_all : laidOutB Try.prog = true := by kernel_rfl
variable {H : Type} {enc : TypeId × Value → H} {W : World} {base : Nat} {sp : Nat → Bool} {bb : Bool}
theorem Try.pcint : Try.prog.cellsOf 3 = 1 := by kernel_rfl
theorem Try.pcu16 : Try.prog.cellsOf 28 = 1 := by kernel_rfl
theorem Try.pcpages : Try.prog.cellsOf 31 = 1 := by kernel_rfl
theorem Try.pcpage : Try.prog.cellsOf 30 = 3 := by kernel_rfl
theorem Try.pcslab : Try.prog.cellsOf 33 = 1 := by kernel_rfl
theorem u16_of_wf {n : Int} (h : (Lit.int .u16 n).wf = true) : 0 ≤ n ∧ n < 65536 := by
  have := bounds_u16 h
  omega
theorem page_of_cells {fuel : Nat} {cs : List Value} {x : DataW H × List MemPlace} (h : DataW.trod enc Try.prog W base sp bb fuel 30 cs = some x) :
    ∃ p : Pg, cs = [.int .i64 p.t, .int .i64 p.c, .int .u16 (p.u : Int)] := by
  obtain ⟨xs, n, _, hx, hlen, hxl, hf⟩ := DataW.trod_struct Try.underlying30 h
  rw [Try.pcpage] at hlen
  match cs, hlen, xs, hxl with
  | [v0, v1, v2], _, [y0, y1, y2], _ =>
    have f0 := hf 0 _ rfl
    have f1 := hf 1 _ rfl
    have f2 := hf 2 _ rfl
    simp [Try.pcint, Try.pcu16] at f0 f1 f2
    obtain ⟨n0, e0, _, g0⟩ := DataW.trod_int Try.underlying3 f0
    obtain ⟨n1, e1, _, g1⟩ := DataW.trod_int Try.underlying3 f1
    obtain ⟨n2, e2, _, g2⟩ := DataW.trod_int Try.underlying28 f2
    simp at e0 e1 e2
    subst e0 e1 e2
    have hb := u16_of_wf g2
    exact ⟨⟨n0, n1, n2.toNat, by omega⟩, by simp; omega⟩
/-- a slab that came in -/
theorem inSlab_of {v : Value} {r : Reach} {b0 : Nat} {d : DataW H} {p : List MemPlace} (hsp : ∀ b, sp b = true) (hv : Value.okWide Try.prog W r b0 33 v)
    (hf : DataW.Trod enc Try.prog W base sp bb 33 v d p) : ∃ a cap ps, v = .agg #[.slice a ps.length cap] ∧ Sb W a ps cap := by
  obtain ⟨cs, rfl, hs⟩ := okWide_struct Try.underlying33 hv
  obtain ⟨fuel, hf⟩ := hf
  obtain ⟨xs, n, _, hx, hlen, hxl, hfs⟩ := DataW.trod_struct Try.underlying33 hf
  rw [Try.pcslab] at hs hlen
  obtain ⟨u, rfl⟩ : ∃ u, cs = #[u] := by
    cases cs with | mk l =>
    match l, hs with
    | [u], _ => exact ⟨u, rfl⟩
  match xs, hxl with
  | [y0], _ =>
    have f0 := hfs 0 _ rfl
    simp [Try.pcpages, Value.cells] at f0
    rcases Deep.open_slice Try.underlying31 f0 with ⟨hcs, _⟩ | ⟨x, len, cap, m, n, D, Pl, hcs, _, hl, hm, hz, hd, hall⟩
    · simp [Value.cells] at hcs
      subst hcs
      exact ⟨none, 0, [], rfl, Sb.nil _⟩
    · simp [Value.cells] at hcs
      subst hcs
      rw [if_pos (hsp _)] at hz
      subst hz
      rw [Try.pcpage] at hall
      have hex : ∀ i, i < len → ∃ q : Pg, W.cell? (x.add (i * 3)) = some (.int .i64 q.t) ∧ W.cell? (x.add (i * 3 + 1)) = some (.int .i64 q.c) ∧ W.cell? (x.add (i * 3 + 2)) = some (.int .u16 (q.u : Int)) := by
        intro i hi
        obtain ⟨cs', h1, h2⟩ := hall i (by omega)
        obtain ⟨q, rfl⟩ := page_of_cells h2
        have h3 := (World.cells?_some h1).2.2 0 (by omega)
        have h4 := (World.cells?_some h1).2.2 1 (by omega)
        have h5 := (World.cells?_some h1).2.2 2 (by omega)
        rw [Deep.add_add] at h3 h4 h5
        exact ⟨q, by simpa using h3, by simpa using h4, by simpa using h5⟩
      have : Inhabited Pg := ⟨pz⟩
      obtain ⟨f, hfs⟩ := Deep.choose_lt hex
      refine ⟨some x, _, (List.range len).map f, by simp, by simpa using hl, hm, (by intro e; cases e), ?_⟩
      by_cases h0 : len = 0
      · subst h0; exact .inl rfl
      · obtain ⟨b, off, spot⟩ := x
        have h00 := (hfs 0 (by omega)).1
        have hspot : spot = none := by simpa [Addr.add] using World.cell?_spot h00
        subst hspot
        refine .inr ⟨b, off, rfl, World.block_lt_of_cell? W _ h00, fun i hi => ?_⟩
        have hi' : i < len := by simpa using hi
        obtain ⟨c0, c1, c2⟩ := hfs i hi'
        rw [addr_add] at c0 c1 c2
        have e : ((List.range len).map f)[i] = f i := by simp
        rw [e]
        exact ⟨c0, by rw [Nat.add_assoc]; exact c1, by rw [Nat.add_assoc]; exact c2⟩
end Go.Proofs.Ytkcgleahbhmggaa
