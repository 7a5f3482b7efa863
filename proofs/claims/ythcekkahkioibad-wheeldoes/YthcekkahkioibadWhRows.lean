/-
  From the rows' readings to the walks' words: names with their moments that came in.
-/
import Derived.Test.YthcekkahkioibadWhLess
import Derived.Deep.Slices
namespace Go.Proofs.Ythcekkahkioibad
open Go.ChangeShapes Go.WideShapes Go.ChangeAt Go.RowKit
open Go.ChangeMaps (open_string shut_string)
set_option linter.unusedSimpArgs false
set_option linter.unusedVariables false
set_option maxRecDepth 100000

/-- names with their moments that came in, as the walk wants them -/
def InDues (w : World) (a : Option Addr) (len cap : Nat) (T : List NU) : Prop := T.length = len ∧ len ≤ cap ∧ cap ≤ maxLen ∧ TAt w a T

theorem Try.c64 : Try.prog.cellsOf 3 = 1 := by kernel_rfl
theorem Try.cstr : Try.prog.cellsOf 9 = 1 := by kernel_rfl
theorem Try.cname : Try.prog.cellsOf 24 = 2 := by kernel_rfl
theorem Try.cdue : Try.prog.cellsOf 57 = 3 := by kernel_rfl

variable {H : Type} {enc : TypeId × Value → H} {W : World} {base : Nat} {sp : Nat → Bool} {bb : Bool}
theorem name_of_cells {fuel : Nat} {cs : List Value} {x : DataW H × List MemPlace} (h : DataW.trod enc Try.prog W base sp bb fuel 24 cs = some x) :
    ∃ y : Nm, cs = [.int .i64 y.tenant, .string y.key] := by
  obtain ⟨xs, n, _, _, hlen, hxl, hf⟩ := DataW.trod_struct Try.underlying24 h
  rw [Try.cname] at hlen
  match cs, hlen, xs, hxl with
  | [v0, v1], _, [y0, y1], _ =>
    have f0 := hf 0 _ rfl
    have f1 := hf 1 _ rfl
    simp [Try.cstr, Try.c64] at f0 f1
    obtain ⟨n0, e0, _, g0⟩ := DataW.trod_int Try.underlying3 f0
    obtain ⟨s1, e1, _, _⟩ := DataW.trod_string Try.underlying9 f1
    simp at e0 e1
    subst e0 e1
    exact ⟨⟨n0, s1⟩, rfl⟩
theorem due_of_cells {fuel : Nat} {cs : List Value} {x : DataW H × List MemPlace} (h : DataW.trod enc Try.prog W base sp bb fuel 57 cs = some x) :
    ∃ q : NU, cs = [.int .i64 q.1.tenant, .string q.1.key, .int .i64 q.2] := by
  obtain ⟨xs, n, _, _, hlen, hxl, hf⟩ := DataW.trod_struct Try.underlying57 h
  rw [Try.cdue] at hlen
  match cs, hlen, xs, hxl with
  | [v0, v1, v2], _, [y0, y1], _ =>
    have f0 := hf 0 _ rfl
    have f1 := hf 1 _ rfl
    simp [Try.cname, Try.c64] at f0 f1
    obtain ⟨y, e0⟩ := name_of_cells f0
    obtain ⟨n1, e1, _, g1⟩ := DataW.trod_int Try.underlying3 f1
    simp at e0 e1
    obtain ⟨e00, e01⟩ := e0
    subst e00 e01 e1
    exact ⟨(y, n1), rfl⟩

theorem inDues_of {a : Option Addr} {len cap : Nat} {d : DataW H} {p : List MemPlace} (hsp : ∀ b, sp b = true)
    (hf : DataW.Trod enc Try.prog W base sp bb 53 (.slice a len cap) d p) : ∃ T, InDues W a len cap T := by
  obtain ⟨fuel, hf⟩ := hf
  rcases Deep.open_slice Try.underlying53 hf with ⟨hcs, _⟩ | ⟨x, l, c, m, n, D, Pl, hcs, _, hl, hm, hz, _, hall⟩
  · simp [Value.cells] at hcs
    obtain ⟨rfl, rfl, rfl⟩ := hcs
    exact ⟨[], rfl, Nat.le_refl _, by simp [maxLen], .inl rfl⟩
  · simp [Value.cells] at hcs
    obtain ⟨rfl, rfl, rfl⟩ := hcs
    rw [if_pos (hsp _)] at hz
    subst hz
    rw [Try.cdue] at hall
    have hex : ∀ i, i < len → ∃ q : NU, W.cell? (x.add (i * 3)) = some (.int .i64 q.1.tenant) ∧ W.cell? (x.add (i * 3 + 1)) = some (.string q.1.key) ∧ W.cell? (x.add (i * 3 + 2)) = some (.int .i64 q.2) := by
      intro i hi
      obtain ⟨cs', h1, h2⟩ := hall i (by omega)
      obtain ⟨q, rfl⟩ := due_of_cells h2
      refine ⟨q, ?_, ?_, ?_⟩
      · have h3 := (World.cells?_some h1).2.2 0 (by omega)
        rw [Deep.add_add] at h3
        exact h3
      · have h3 := (World.cells?_some h1).2.2 1 (by omega)
        rw [Deep.add_add] at h3
        exact h3
      · have h3 := (World.cells?_some h1).2.2 2 (by omega)
        rw [Deep.add_add] at h3
        exact h3
    have : Inhabited NU := ⟨(⟨0, ⟨#[]⟩⟩, 0)⟩
    obtain ⟨f, hfs⟩ := Deep.choose_lt hex
    refine ⟨(List.range len).map f, by simp, hl, hm, ?_⟩
    by_cases h0 : len = 0
    · subst h0; exact .inl rfl
    · obtain ⟨b, off, spot⟩ := x
      have h00 := (hfs 0 (by omega)).1
      have hspot : spot = none := by simpa [Addr.add] using World.cell?_spot h00
      subst hspot
      refine .inr ⟨b, off, rfl, World.block_lt_of_cell? W _ h00, fun i hi => ?_⟩
      have hi' : i < len := by simpa using hi
      obtain ⟨k0, k1, k2⟩ := hfs i hi'
      rw [addr_add] at k0 k1 k2
      rw [← Nat.add_assoc] at k1 k2
      simp only [List.getElem_map, List.getElem_range]
      exact ⟨k0, k1, k2⟩
end Go.Proofs.Ythcekkahkioibad
