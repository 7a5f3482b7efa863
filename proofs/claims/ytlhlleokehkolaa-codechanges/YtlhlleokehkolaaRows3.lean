/-
  From the rows' readings to the walks' words: a slice of changes that came in.
-/
import Derived.Test.YtlhlleokehkolaaAlive
import Derived.Test.YtlhlleokehkolaaRows2
import Derived.Deep.Slices
namespace Go.Proofs.Ytlhlleokehkolaa
open Go.ChangeShapes Go.WideShapes Go.ChangeAt Go.RowKit
open Go.ChangeMaps (open_string shut_string)
set_option linter.unusedSimpArgs false
set_option linter.unusedVariables false
set_option maxRecDepth 100000

variable {H : Type} {enc : TypeId × Value → H} {W : World} {base : Nat} {sp : Nat → Bool} {bb : Bool}

theorem Try.c8 : Try.prog.cellsOf 5 = 1 := by kernel_rfl
theorem Try.c64 : Try.prog.cellsOf 3 = 1 := by kernel_rfl
theorem Try.cstr : Try.prog.cellsOf 9 = 1 := by kernel_rfl
theorem Try.cu32 : Try.prog.cellsOf 34 = 1 := by kernel_rfl
theorem Try.cu64 : Try.prog.cellsOf 22 = 1 := by kernel_rfl
theorem Try.cbool : Try.prog.cellsOf 4 = 1 := by kernel_rfl
theorem Try.citem : Try.prog.cellsOf 39 = 5 := by kernel_rfl
theorem Try.cchg : Try.prog.cellsOf 41 = 11 := by kernel_rfl

theorem u8_of {n : Int} (h : (Lit.int .u8 n).wf = true) : ∃ c : UInt8, Value.int .u8 n = bcell c := ⟨_, byte_of_wf h⟩
theorem u32_of {n : Int} (h : (Lit.int .u32 n).wf = true) : ∃ m : Nat, n = (m : Int) ∧ m ≤ 4294967295 := by
  have := bounds_u32 h
  exact ⟨n.toNat, by omega, by omega⟩
theorem u64_of {n : Int} (h : (Lit.int .u64 n).wf = true) : ∃ m : Nat, n = (m : Int) ∧ Fits m := by
  have := bounds_u64 h
  exact ⟨n.toNat, by omega, by unfold Fits; omega⟩

theorem item_of_cells {fuel : Nat} {cs : List Value} {x : DataW H × List MemPlace} (h : DataW.trod enc Try.prog W base sp bb fuel 39 cs = some x) :
    ∃ y : Itm, cs = y.cells ∧ y.flags ≤ 4294967295 ∧ Fits y.unique := by
  obtain ⟨xs, n, _, _, hlen, hxl, hf⟩ := DataW.trod_struct Try.underlying39 h
  rw [Try.citem] at hlen
  match cs, hlen, xs, hxl with
  | [v0, v1, v2, v3, v4], _, [y0, y1, y2, y3, y4], _ =>
    have f0 := hf 0 _ rfl
    have f1 := hf 1 _ rfl
    have f2 := hf 2 _ rfl
    have f3 := hf 3 _ rfl
    have f4 := hf 4 _ rfl
    simp [Try.cstr, Try.cu32, Try.c64, Try.cu64] at f0 f1 f2 f3 f4
    obtain ⟨s0, e0, _, _⟩ := DataW.trod_string Try.underlying9 f0
    obtain ⟨s1, e1, _, _⟩ := DataW.trod_string Try.underlying9 f1
    obtain ⟨n2, e2, _, g2⟩ := DataW.trod_int Try.underlying34 f2
    obtain ⟨n3, e3, _, g3⟩ := DataW.trod_int Try.underlying3 f3
    obtain ⟨n4, e4, _, g4⟩ := DataW.trod_int Try.underlying22 f4
    obtain ⟨m2, rfl, b2⟩ := u32_of g2
    obtain ⟨m4, rfl, b4⟩ := u64_of g4
    simp at e0 e1 e2 e3 e4
    subst e0 e1 e2 e3 e4
    exact ⟨⟨s0, s1, m2, n3, m4⟩, rfl, b2, b4⟩

theorem chg_of_cells {fuel : Nat} {cs : List Value} {x : DataW H × List MemPlace} (h : DataW.trod enc Try.prog W base sp bb fuel 41 cs = some x) :
    ∃ c : Chg, cs = c.cells ∧ c.Good := by
  obtain ⟨xs, n, _, _, hlen, hxl, hf⟩ := DataW.trod_struct Try.underlying41 h
  rw [Try.cchg] at hlen
  match cs, hlen, xs, hxl with
  | [v0, v1, v2, v3, v4, v5, v6, v7, v8, v9, v10], _, [y0, y1, y2, y3, y4, y5, y6], _ =>
    have f0 := hf 0 _ rfl
    have f1 := hf 1 _ rfl
    have f2 := hf 2 _ rfl
    have f3 := hf 3 _ rfl
    have f4 := hf 4 _ rfl
    have f5 := hf 5 _ rfl
    have f6 := hf 6 _ rfl
    simp [Try.cstr, Try.c8, Try.c64, Try.cbool, Try.citem] at f0 f1 f2 f3 f4 f5 f6
    obtain ⟨n0, e0, _, g0⟩ := DataW.trod_int Try.underlying5 f0
    obtain ⟨n1, e1, _, g1⟩ := DataW.trod_int Try.underlying3 f1
    obtain ⟨it, e2, i1, i2⟩ := item_of_cells f2
    obtain ⟨s3, e3, _, _⟩ := DataW.trod_string Try.underlying9 f3
    obtain ⟨n4, e4, _, g4⟩ := DataW.trod_int Try.underlying5 f4
    obtain ⟨n5, e5, _, g5⟩ := DataW.trod_int Try.underlying3 f5
    obtain ⟨b6, e6, _⟩ := DataW.trod_bool Try.underlying4 f6
    obtain ⟨c0, h0⟩ := u8_of g0
    obtain ⟨c4, h4⟩ := u8_of g4
    simp [Itm.cells] at e0 e1 e2 e3 e4 e5 e6
    obtain ⟨e20, e21, e22, e23, e24⟩ := e2
    subst e0 e1 e20 e21 e22 e23 e24 e3 e4 e5 e6
    refine ⟨⟨c0, n1, it, s3, c4, n5, b6⟩, ?_, ⟨i1, i2⟩⟩
    rw [h0, h4]
    rfl

/-- a slice of changes that came in, as the walk wants it -/
def InChanges (w : World) (a : Option Addr) (len cap : Nat) (cs : List Chg) : Prop :=
  cs.length = len ∧ len ≤ cap ∧ cap ≤ maxLen ∧ ChAt w w.heap.size a cs ∧ ∀ c ∈ cs, c.Good

theorem inChanges_of {a : Option Addr} {len cap : Nat} {d : DataW H} {p : List MemPlace} (hsp : ∀ b, sp b = true)
    (hf : DataW.Trod enc Try.prog W base sp bb 42 (.slice a len cap) d p) : ∃ cs, InChanges W a len cap cs := by
  obtain ⟨fuel, hf⟩ := hf
  rcases Deep.open_slice Try.underlying42 hf with ⟨hcs, _⟩ | ⟨x, l, c, m, n, D, Pl, hcs, _, hl, hm, hz, _, hall⟩
  · simp [Value.cells] at hcs
    obtain ⟨rfl, rfl, rfl⟩ := hcs
    exact ⟨[], rfl, Nat.le_refl _, by simp [maxLen], .inl rfl, by simp⟩
  · simp [Value.cells] at hcs
    obtain ⟨rfl, rfl, rfl⟩ := hcs
    rw [if_pos (hsp _)] at hz
    subst hz
    rw [Try.cchg] at hall
    have hex : ∀ i, i < len → ∃ c : Chg, c.Good ∧ ∀ j (hj : j < 11), W.cell? (x.add (i * 11 + j)) = some (c.cells[j]'(by rw [cells_len]; exact hj)) := by
      intro i hi
      obtain ⟨cs', h1, h2⟩ := hall i (by omega)
      obtain ⟨c, rfl, hg⟩ := chg_of_cells h2
      refine ⟨c, hg, fun j hj => ?_⟩
      have h3 := (World.cells?_some h1).2.2 j hj
      rw [Deep.add_add] at h3
      rw [h3]
      simp [cells_len, hj]
    have : Inhabited Chg := ⟨⟨0, 0, zItm, ⟨#[]⟩, 0, 0, false⟩⟩
    obtain ⟨f, hfs⟩ := Deep.choose_lt hex
    refine ⟨(List.range len).map f, by simp, hl, hm, ?_, ?_⟩
    · by_cases h0 : len = 0
      · subst h0; exact .inl rfl
      · obtain ⟨b, off, spot⟩ := x
        have h00 := (hfs 0 (by omega)).2 0 (by omega)
        have hspot : spot = none := by simpa [Addr.add] using World.cell?_spot h00
        subst hspot
        refine .inr ⟨b, off, rfl, World.block_lt_of_cell? W _ h00, fun i hi j hj => ?_⟩
        have hi' : i < len := by simpa using hi
        have := (hfs i hi').2 j hj
        rw [addr_add, ← Nat.add_assoc] at this
        rw [this]
        simp
    · intro c hc
      obtain ⟨i, hi, rfl⟩ := List.mem_map.1 hc
      exact (hfs i (by simpa using hi)).1
end Go.Proofs.Ytlhlleokehkolaa
