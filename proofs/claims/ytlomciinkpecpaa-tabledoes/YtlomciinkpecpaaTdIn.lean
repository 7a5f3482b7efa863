/-
  From the rows' readings to the walks' words: calls of a table that came in.
-/
import Derived.Test.YtlomciinkpecpaaTdOne
import Derived.Deep.Slices
import Derived.ChangeSlices
import Derived.Test.YtlomciinkpecpaaChecked
namespace Go.Proofs.Ytlomciinkpecpaa
open Go.ChangeShapes Go.WideShapes Go.ChangeAt Go.RowKit
open Go.ChangeMaps (open_string shut_string)
set_option linter.unusedSimpArgs false
set_option linter.unusedVariables false
set_option maxRecDepth 100000

theorem laidOut_all : laidOutB Try.prog = true := by kernel_rfl
theorem Try.c64 : Try.prog.cellsOf 3 = 1 := by kernel_rfl
theorem Try.cstr : Try.prog.cellsOf 9 = 1 := by kernel_rfl
theorem Try.cname : Try.prog.cellsOf 28 = 2 := by kernel_rfl
/-- a call: its kind, name, moment -/
structure Dq where
  k : Nat
  y : Nm
  u : Int
  lt : k < 256
/-- calls lie at the address -/
def QAt (w : World) (ao : Option Addr) (T : List Dq) : Prop :=
  T = [] ∨ ∃ b off, ao = some ⟨b, off, none⟩ ∧ b < w.heap.size ∧ ∀ i (hi : i < T.length), w.cell? ⟨b, off + i * 4, none⟩ = some (.int .u8 (T[i].k : Int)) ∧ w.cell? ⟨b, off + i * 4 + 1, none⟩ = some (.int .i64 T[i].y.tenant) ∧ w.cell? ⟨b, off + i * 4 + 2, none⟩ = some (.string T[i].y.key) ∧ w.cell? ⟨b, off + i * 4 + 3, none⟩ = some (.int .i64 T[i].u)
theorem QAt.below {w w' : World} {ao : Option Addr} {T : List Dq} (h : QAt w ao T) (hb : Below w.heap.size w w') : QAt w' ao T := by
  rcases h with rfl | ⟨b, off, rfl, hlt, hc⟩
  · exact .inl rfl
  · refine .inr ⟨b, off, rfl, Nat.lt_of_lt_of_le hlt hb.size, fun i hi => ?_⟩
    obtain ⟨c0, c1, c2, c3⟩ := hc i hi
    exact ⟨(bcl hb _ _ hlt).trans c0, (bcl hb _ _ hlt).trans c1, (bcl hb _ _ hlt).trans c2, (bcl hb _ _ hlt).trans c3⟩
/-- calls that came in, as the walk wants them -/
def InDos (w : World) (a : Option Addr) (len cap : Nat) (T : List Dq) : Prop := T.length = len ∧ len ≤ cap ∧ cap ≤ maxLen ∧ QAt w a T

theorem Try.cdo : Try.prog.cellsOf 48 = 4 := by kernel_rfl
theorem Try.cu8 : Try.prog.cellsOf 5 = 1 := by kernel_rfl
theorem u8_of_wf {n : Int} (h : (Lit.int .u8 n).wf = true) : 0 ≤ n ∧ n < 256 := by
  have := bounds_u8 h
  omega

variable {H : Type} {enc : TypeId × Value → H} {W : World} {base : Nat} {sp : Nat → Bool} {bb : Bool}
theorem name_of_cells {fuel : Nat} {cs : List Value} {x : DataW H × List MemPlace} (h : DataW.trod enc Try.prog W base sp bb fuel 28 cs = some x) :
    ∃ y : Nm, cs = [.int .i64 y.tenant, .string y.key] := by
  obtain ⟨xs, n, _, _, hlen, hxl, hf⟩ := DataW.trod_struct Try.underlying28 h
  rw [Try.cname] at hlen
  match cs, hlen, xs, hxl with
  | [v0, v1], _, [y0, y1], _ =>
    have f0 := hf 0 _ rfl
    have f1 := hf 1 _ rfl
    simp [Try.cstr, Try.c64] at f0 f1
    obtain ⟨n0, e0, _, g0⟩ := DataW.trod_int Try.underlying3 f0
    obtain ⟨s1, e1, _, _⟩ := DataW.trod_string Try.underlying9 f1
    simp at e0 e1
    subst e0 e1
    exact ⟨⟨n0, s1⟩, rfl⟩
theorem do_of_cells {fuel : Nat} {cs : List Value} {x : DataW H × List MemPlace} (h : DataW.trod enc Try.prog W base sp bb fuel 48 cs = some x) :
    ∃ q : Dq, cs = [.int .u8 (q.k : Int), .int .i64 q.y.tenant, .string q.y.key, .int .i64 q.u] := by
  obtain ⟨xs, n, _, _, hlen, hxl, hf⟩ := DataW.trod_struct Try.underlying48 h
  rw [Try.cdo] at hlen
  match cs, hlen, xs, hxl with
  | [v0, v1, v2, v3], _, [y0, y1, y2], _ =>
    have f0 := hf 0 _ rfl
    have f1 := hf 1 _ rfl
    have f2 := hf 2 _ rfl
    simp [Try.cname, Try.c64, Try.cu8] at f0 f1 f2
    obtain ⟨n0, e0, _, g0⟩ := DataW.trod_int Try.underlying5 f0
    obtain ⟨y, e1⟩ := name_of_cells f1
    obtain ⟨n2, e2, _, g2⟩ := DataW.trod_int Try.underlying3 f2
    simp at e0 e1 e2
    obtain ⟨e10, e11⟩ := e1
    have hb := u8_of_wf g0
    obtain ⟨k, rfl⟩ : ∃ k : Nat, n0 = (k : Int) := ⟨n0.toNat, by omega⟩
    subst e0 e10 e11 e2
    exact ⟨⟨k, y, n2, by omega⟩, rfl⟩

theorem inDos_of {a : Option Addr} {len cap : Nat} {d : DataW H} {p : List MemPlace} (hsp : ∀ b, sp b = true)
    (hf : DataW.Trod enc Try.prog W base sp bb 43 (.slice a len cap) d p) : ∃ T, InDos W a len cap T := by
  obtain ⟨fuel, hf⟩ := hf
  rcases Deep.open_slice Try.underlying43 hf with ⟨hcs, _⟩ | ⟨x, l, c, m, n, D, Pl, hcs, _, hl, hm, hz, _, hall⟩
  · simp [Value.cells] at hcs
    obtain ⟨rfl, rfl, rfl⟩ := hcs
    exact ⟨[], rfl, Nat.le_refl _, by simp [maxLen], .inl rfl⟩
  · simp [Value.cells] at hcs
    obtain ⟨rfl, rfl, rfl⟩ := hcs
    rw [if_pos (hsp _)] at hz
    subst hz
    rw [Try.cdo] at hall
    have hex : ∀ i, i < len → ∃ q : Dq, W.cell? (x.add (i * 4)) = some (.int .u8 (q.k : Int)) ∧ W.cell? (x.add (i * 4 + 1)) = some (.int .i64 q.y.tenant) ∧ W.cell? (x.add (i * 4 + 2)) = some (.string q.y.key) ∧ W.cell? (x.add (i * 4 + 3)) = some (.int .i64 q.u) := by
      intro i hi
      obtain ⟨cs', h1, h2⟩ := hall i (by omega)
      obtain ⟨q, rfl⟩ := do_of_cells h2
      refine ⟨q, ?_, ?_, ?_, ?_⟩
      · have h3 := (World.cells?_some h1).2.2 0 (by omega)
        rw [Deep.add_add] at h3
        exact h3
      · have h3 := (World.cells?_some h1).2.2 1 (by omega)
        rw [Deep.add_add] at h3
        exact h3
      · have h3 := (World.cells?_some h1).2.2 2 (by omega)
        rw [Deep.add_add] at h3
        exact h3
      · have h3 := (World.cells?_some h1).2.2 3 (by omega)
        rw [Deep.add_add] at h3
        exact h3
    have : Inhabited Dq := ⟨⟨0, ⟨0, ⟨#[]⟩⟩, 0, by omega⟩⟩
    obtain ⟨f, hfs⟩ := Deep.choose_lt hex
    refine ⟨(List.range len).map f, by simp, hl, hm, ?_⟩
    by_cases h0 : len = 0
    · subst h0; exact .inl rfl
    · obtain ⟨b, off, spot⟩ := x
      have h00 := (hfs 0 (by omega)).1
      have hspot : spot = none := by simpa [Addr.add] using World.cell?_spot h00
      subst hspot
      refine .inr ⟨b, off, rfl, World.block_lt_of_cell? W _ h00, fun i hi => ?_⟩
      have hi' : i < len := by simpa using hi
      obtain ⟨k0, k1, k2, k3⟩ := hfs i hi'
      rw [addr_add] at k0 k1 k2 k3
      rw [← Nat.add_assoc] at k1 k2 k3
      simp only [List.getElem_map, List.getElem_range]
      exact ⟨k0, k1, k2, k3⟩
end Go.Proofs.Ytlomciinkpecpaa
