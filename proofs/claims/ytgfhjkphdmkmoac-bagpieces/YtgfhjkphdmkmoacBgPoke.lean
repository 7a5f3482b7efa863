/-
  New slices of bytes and new lists of them: their bytes may be written to, and what lies elsewhere stays.
-/
import Derived.Test.YtgfhjkphdmkmoacBgMem
namespace Go.Proofs.Ytgfhjkphdmkmoac
open Go.RowKit
set_option linter.unusedSimpArgs false
set_option linter.unusedVariables false
set_option maxRecDepth 100000

/-- each of the n cells is a byte that may be written to, in a block from base up to top, which isn't r -/
def PkB (w : World) (base top : Nat) (r : Option Nat) (ao : Option Addr) (n : Nat) : Prop :=
  ∀ j, j < n → ∃ g x : Nat, ao = some ⟨g, 0, none⟩ ∧ base ≤ g ∧ g < top ∧ some g ≠ r ∧ g < w.heap.size ∧ x < 256 ∧ w.cell? ⟨g, j, none⟩ = some (.int .u8 x) ∧ w.frozen? ⟨g, j, none⟩ = false
theorem FreshBut.pkB {w : World} {base : Nat} {r : Option Nat} {v : Value} {l : List UInt8} (h : FreshBut w base r v l) :
    ∃ ao cap, v = .slice ao l.length cap ∧ l.length ≤ cap ∧ cap ≤ 9223372036854775807 ∧ PkB w base w.heap.size r ao l.length := by
  obtain ⟨ao, cap, rfl, h1, h2, h3, h4⟩ := h
  refine ⟨ao, cap, rfl, h1, h2, fun j hj => ?_⟩
  rcases h4 with h4 | ⟨g, cur, rfl, hb, hne, hg, hl, ht⟩
  · subst h4; simp at hj
  · have hlt := (Array.getElem?_eq_some_iff.1 hg).1
    refine ⟨g, l[j].toNat, rfl, hb, hlt, hne, hlt, l[j].toNat_lt, row_cell hg ht j hj, ?_⟩
    simp [World.frozen?, hg]
theorem Fresh.pkB {w : World} {base : Nat} {v : Value} {l : List UInt8} (h : Fresh w base v l) :
    ∃ ao cap, v = .slice ao l.length cap ∧ l.length ≤ cap ∧ cap ≤ 9223372036854775807 ∧ PkB w base w.heap.size none ao l.length := (h.but (r := none) (fun k hk => by cases hk)).pkB
theorem PkB.below {w w' : World} {base top : Nat} {r : Option Nat} {ao : Option Addr} {n : Nat} (h : PkB w base top r ao n) (hb : Below w.heap.size w w') : PkB w' base top r ao n := by
  intro j hj
  obtain ⟨g, x, e, h1, ht, h0, h2, h3, h4, h5⟩ := h j hj
  exact ⟨g, x, e, h1, ht, h0, Nat.lt_of_lt_of_le h2 hb.size, h3, (below_cells hb g j h2).trans h4, (below_frozen hb g j h2).trans h5⟩
/-- a byte is written somewhere: all is as well to be written to as it was -/
theorem PkB.set {w : World} {base top : Nat} {r : Option Nat} {ao : Option Addr} {n : Nat} (h : PkB w base top r ao n) (g' k y : Nat) (hy : y < 256) : PkB (w.setCell ⟨g', k, none⟩ (.int .u8 y)) base top r ao n := by
  intro j hj
  obtain ⟨g, x, e, h1, ht, h0, h2, h3, h4, h5⟩ := h j hj
  by_cases ej : (⟨g', k, none⟩ : Addr) = ⟨g, j, none⟩
  · rw [ej]
    exact ⟨g, y, e, h1, ht, h0, by simpa using h2, hy, World.cell?_setCell_same _ _ _ h4, by simpa using h5⟩
  · exact ⟨g, x, e, h1, ht, h0, by simpa using h2, h3, by rw [World.cell?_setCell_other _ _ _ _ ej]; exact h4, by simpa using h5⟩
theorem PkB.drew {w : World} {base top : Nat} {r : Option Nat} {ao : Option Addr} {n : Nat} (h : PkB w base top r ao n) : PkB w.drew base top r ao n := h

/-- the lists at ao: each one's bytes may be written to, in blocks beside the row's -/
def PkL (w : World) (base top : Nat) (ao : Option Addr) (n : Nat) : Prop :=
  n = 0 ∨ ∃ b, ao = some ⟨b, 0, none⟩ ∧ base ≤ b ∧ b < top ∧ b < w.heap.size ∧ ∀ i, i < n → ∃ bo len cap, w.cell? ⟨b, i, none⟩ = some (.slice bo len cap) ∧ len ≤ cap ∧ cap ≤ 9223372036854775807 ∧ PkB w base top (some b) bo len
theorem OwnLs.pk {w : World} {base : Nat} {v : Value} {ls : List (List UInt8)} (h : OwnLs w base v ls) : ∃ ao cap, v = .slice ao ls.length cap ∧ Ll w ao ls cap ∧ PkL w base w.heap.size ao ls.length := by
  obtain ⟨ao, cap, hv, hl⟩ := h.ll
  refine ⟨ao, cap, hv, hl, ?_⟩
  obtain ⟨vs, h1, h2, h3⟩ := h
  have h2' := h2
  rcases h2'.2 with ⟨rfl, hn⟩ | ⟨g, cap', cur, hv', hb, hg, hnc, hcm, hcs, htake⟩
  · exact .inl hn
  · rw [hv] at hv'
    cases hv'
    have hlt := (Array.getElem?_eq_some_iff.1 hg).1
    refine .inr ⟨g, rfl, hb, hlt, hlt, fun i hi => ?_⟩
    have hi' : i < vs.length := by omega
    have c1 := World.ownsRow.cells h2 (g := g) (by rw [hv]; rfl) i vs[i] (by simp [hi'])
    rw [addr_add, Nat.zero_add] at c1
    have hf := h3 i hi' hi
    rw [hv] at hf
    obtain ⟨bo, bc, hv2, hl2, hc2, hp2⟩ := hf.pkB
    rw [hv2] at c1
    exact ⟨bo, _, bc, c1, hl2, hc2, hp2⟩
theorem PkL.below {w w' : World} {base top : Nat} {ao : Option Addr} {n : Nat} (h : PkL w base top ao n) (hb : Below w.heap.size w w') : PkL w' base top ao n := by
  rcases h with h | ⟨b, rfl, h1, ht, h2, h3⟩
  · exact .inl h
  · refine .inr ⟨b, rfl, h1, ht, Nat.lt_of_lt_of_le h2 hb.size, fun i hi => ?_⟩
    obtain ⟨bo, len, cap, c1, c2, c3, c4⟩ := h3 i hi
    exact ⟨bo, len, cap, (below_cells hb b _ h2).trans c1, c2, c3, c4.below hb⟩
/-- a byte is written in another block than the row's -/
theorem PkL.set {w : World} {base top : Nat} {ao : Option Addr} {n : Nat} (h : PkL w base top ao n) (g' k y : Nat) (hy : y < 256) (hne : ∀ b, ao = some ⟨b, 0, none⟩ → g' ≠ b) : PkL (w.setCell ⟨g', k, none⟩ (.int .u8 y)) base top ao n := by
  rcases h with h | ⟨b, e, h1, ht, h2, h3⟩
  · exact .inl h
  · refine .inr ⟨b, e, h1, ht, by simpa using h2, fun i hi => ?_⟩
    obtain ⟨bo, len, cap, c1, c2, c3, c4⟩ := h3 i hi
    exact ⟨bo, len, cap, by rw [World.cell?_setCell_other _ _ _ _ (fun e' => hne b e (congrArg (fun z : Addr => z.block) e'))]; exact c1, c2, c3, c4.set g' k y hy⟩
theorem PkL.row {w : World} {base top : Nat} {ao : Option Addr} {n : Nat} (h : PkL w base top ao n) (hn : n ≠ 0) : ∃ b, ao = some ⟨b, 0, none⟩ ∧ base ≤ b ∧ b < top := by
  rcases h with h | ⟨b, e, h1, ht, _⟩
  · exact absurd h hn
  · exact ⟨b, e, h1, ht⟩
/-- what the loops that write keep -/
structure PokS (W : World) (b1 t1 b2 t2 : Nat) (p : Option Addr) (n : Nat) (u : Option Addr) (m : Nat) (x : Option Addr) (l : Nat) (w : World) : Prop where
  p1 : PkL w b1 t1 p n
  p2 : PkL w b2 t2 u m
  p3 : PkB w b2 t2 none x l
  bl : Below W.heap.size W w
theorem PokS.setP {W : World} {b1 t1 b2 t2 : Nat} {p : Option Addr} {n : Nat} {u : Option Addr} {m : Nat} {x : Option Addr} {l : Nat} {w : World} (h : PokS W b1 t1 b2 t2 p n u m x l w) (hW : W.heap.size ≤ b1) (h12 : t1 ≤ b2) (g k y : Nat) (hy : y < 256) (hg : b1 ≤ g) (hg2 : g < t1) (hne : ∀ b, p = some ⟨b, 0, none⟩ → g ≠ b) : PokS W b1 t1 b2 t2 p n u m x l (w.setCell ⟨g, k, none⟩ (.int .u8 y)) := by
  refine ⟨h.p1.set g k y hy hne, ?_, h.p3.set g k y hy, h.bl.setCell (by show W.heap.size ≤ g; omega) _⟩
  by_cases hm : m = 0
  · exact .inl hm
  · obtain ⟨b', e', l1, l2⟩ := h.p2.row hm
    exact h.p2.set g k y hy (fun b hb => by rw [e'] at hb; cases hb; omega)
theorem PokS.setU {W : World} {b1 t1 b2 t2 : Nat} {p : Option Addr} {n : Nat} {u : Option Addr} {m : Nat} {x : Option Addr} {l : Nat} {w : World} (h : PokS W b1 t1 b2 t2 p n u m x l w) (hW : W.heap.size ≤ b1) (h1 : b1 ≤ t1) (h12 : t1 ≤ b2) (g k y : Nat) (hy : y < 256) (hg : b2 ≤ g) (hne : ∀ b, u = some ⟨b, 0, none⟩ → g ≠ b) : PokS W b1 t1 b2 t2 p n u m x l (w.setCell ⟨g, k, none⟩ (.int .u8 y)) := by
  refine ⟨?_, h.p2.set g k y hy hne, h.p3.set g k y hy, h.bl.setCell (by show W.heap.size ≤ g; omega) _⟩
  by_cases hm : n = 0
  · exact .inl hm
  · obtain ⟨b', e', l1, l2⟩ := h.p1.row hm
    exact h.p1.set g k y hy (fun b hb => by rw [e'] at hb; cases hb; omega)
theorem PokS.drew {W : World} {b1 t1 b2 t2 : Nat} {p : Option Addr} {n : Nat} {u : Option Addr} {m : Nat} {x : Option Addr} {l : Nat} {w : World} (h : PokS W b1 t1 b2 t2 p n u m x l w) : PokS W b1 t1 b2 t2 p n u m x l w.drew := ⟨h.p1, h.p2, h.p3, h.bl.drew⟩

end Go.Proofs.Ytgfhjkphdmkmoac
