/-
  Pages in memory: slabs that are read, and slabs that a call made.
-/
import Derived.Test.YtkcgleahbhmggaaSbPure
import Derived.Maps.AppendAt
import Derived.Laws.AppendOwnNone
import Derived.Laws.CopyRow
import Derived.Laws.CopyOwn
import Derived.Deep.RegionHeld3
import Derived.Deep.Cut
import Derived.Deep.QuietTactic
import Derived.BigQuiet
import Derived.Deep.RegionLaw
namespace Go.Proofs.Ytkcgleahbhmggaa
open Go.RowKit
set_option linter.unusedSimpArgs false
set_option linter.unusedVariables false

theorem Try.infoPage : (Try.prog.info? 30).map (fun i => (i.zero, i.size, i.bytes)) = some (some (.agg #[.int .i64 0, .int .i64 0, .int .u16 0]), 3, 24) := by kernel_rfl
theorem Hid.mk2 {p : Prop} (h : p) : Hid p := h
theorem addr_add (b off j : Nat) : (⟨b, off, none⟩ : Addr).add j = ⟨b, off + j, none⟩ := by unfold Addr.add; split <;> simp_all
theorem below_cells {W w1 : World} (hb : Below W.heap.size W w1) : ∀ b o, b < W.heap.size → w1.cell? ⟨b, o, none⟩ = W.cell? ⟨b, o, none⟩ :=
  fun b o h => hb.cell (p := ⟨b, o, none⟩) h
theorem below_frozen {W w1 : World} (hb : Below W.heap.size W w1) : ∀ b o, b < W.heap.size → w1.frozen? ⟨b, o, none⟩ = W.frozen? ⟨b, o, none⟩ :=
  fun b o h => hb.frozen (p := ⟨b, o, none⟩) h
/-- a call made a block and went on -/
theorem below_alloc {w w1 : World} {o : Obj} (hb : Below (w.alloc o).heap.size (w.alloc o) w1) : Below w.heap.size w w1 :=
  ((Below.refl _ _).alloc (Nat.le_refl _) _).trans (hb.mono (by simp))
theorem grownBy_setCell (w : World) (p : Addr) (v : Value) : w.grownBy (w.setCell p v) (some p.block) :=
  ⟨rfl, rfl, rfl, by simp, fun k hk hne => Below.heap_setCell w p v k (fun e => hne (by rw [e]))⟩
theorem grown_set (w : World) (b o : Nat) (v : Value) : w.grownBy (w.setCell ⟨b, o, none⟩ v) (some b) := grownBy_setCell w ⟨b, o, none⟩ v
theorem grownBy_below {w w' : World} (h : Below w.heap.size w w') (row : Option Nat) : w.grownBy w' row := ⟨h.os, h.tape, h.output, h.size, fun k hk _ => h.block k hk⟩
theorem grownBy_setRow (w : World) (g : Nat) (cs : Array Value) : w.grownBy (w.setRow g cs) (some g) :=
  ⟨rfl, rfl, rfl, by simp, fun i hi hne => setRow_other w g i cs (fun e => hne (by rw [e]))⟩

/-- a page's value, and its cells -/
def pval (p : Pg) : Value := .agg #[.int .i64 p.t, .int .i64 p.c, .int .u16 (p.u : Int)]
def pcells (p : Pg) : List Value := [.int .i64 p.t, .int .i64 p.c, .int .u16 (p.u : Int)]
def PgLies (w : World) (b o : Nat) (p : Pg) : Prop :=
  w.cell? ⟨b, o, none⟩ = some (.int .i64 p.t) ∧ w.cell? ⟨b, o + 1, none⟩ = some (.int .i64 p.c) ∧ w.cell? ⟨b, o + 2, none⟩ = some (.int .u16 (p.u : Int))
/-- the pages ps lie at the address, below block B -/
def PgAt (w : World) (B : Nat) (ao : Option Addr) (ps : List Pg) : Prop :=
  ps = [] ∨ ∃ b off, ao = some ⟨b, off, none⟩ ∧ b < B ∧ ∀ i (hi : i < ps.length), PgLies w b (off + i * 3) ps[i]
theorem PgLies.below {w w' : World} {B b o : Nat} {p : Pg} (h : PgLies w b o p) (hb : Below B w w') (hlt : b < B) : PgLies w' b o p :=
  ⟨(hb.cell (p := ⟨b, o, none⟩) hlt).trans h.1, (hb.cell (p := ⟨b, o + 1, none⟩) hlt).trans h.2.1, (hb.cell (p := ⟨b, o + 2, none⟩) hlt).trans h.2.2⟩
theorem PgLies.grown {w w' : World} {r : Option Nat} {b o : Nat} {p : Pg} (h : PgLies w b o p) (hg : w.grownBy w' r) (hne : some b ≠ r) : PgLies w' b o p :=
  ⟨hg.cell (a := ⟨b, o, none⟩) h.1 hne, hg.cell (a := ⟨b, o + 1, none⟩) h.2.1 hne, hg.cell (a := ⟨b, o + 2, none⟩) h.2.2 hne⟩
theorem PgAt.below {w w' : World} {B B' : Nat} {ao : Option Addr} {ps : List Pg} (h : PgAt w B ao ps) (hb : Below B w w') (hB : B ≤ B') : PgAt w' B' ao ps := by
  rcases h with rfl | ⟨b, off, rfl, hlt, hc⟩
  · exact .inl rfl
  · exact .inr ⟨b, off, rfl, by omega, fun i hi => (hc i hi).below hb hlt⟩
/-- a slab's own facts, for reading -/
structure Sb (w : World) (ao : Option Addr) (ps : List Pg) (cap : Nat) : Prop where
  hl : ps.length ≤ cap
  hc : cap ≤ 9223372036854775807
  hn : ao = none → cap = 0
  at_ : PgAt w w.heap.size ao ps
theorem Sb.below {w w' : World} {ao : Option Addr} {ps : List Pg} {cap : Nat} (h : Sb w ao ps cap) (hb : Below w.heap.size w w') : Sb w' ao ps cap :=
  ⟨h.hl, h.hc, h.hn, h.at_.below hb hb.size⟩
theorem Sb.nil (w : World) : Sb w none [] 0 := ⟨by simp, by simp, fun _ => rfl, .inl rfl⟩
theorem Sb.lies {w : World} {ao : Option Addr} {ps : List Pg} {cap : Nat} (h : Sb w ao ps cap) (hne : ps ≠ []) : ∃ b off, ao = some ⟨b, off, none⟩ ∧ b < w.heap.size ∧ ∀ i (hi : i < ps.length), PgLies w b (off + i * 3) ps[i] := by
  rcases h.at_ with e | h
  · exact absurd e hne
  · exact h
theorem pcells_one (ps : List Pg) : ∀ u ∈ ps.flatMap pcells, u.oneCell' = true := by
  intro u hu
  obtain ⟨p, _, hp⟩ := List.mem_flatMap.1 hu
  simp [pcells] at hp
  rcases hp with rfl | rfl | rfl <;> rfl
theorem pcells_len (ps : List Pg) : (ps.flatMap pcells).length = ps.length * 3 := by
  induction ps with
  | nil => rfl
  | cons p ps ih => simp [pcells, ih]; omega
theorem pcells_get : ∀ (ps : List Pg) (i : Nat) (hi : i < ps.length),
    (ps.flatMap pcells)[i * 3]? = some (.int .i64 ps[i].t) ∧ (ps.flatMap pcells)[i * 3 + 1]? = some (.int .i64 ps[i].c) ∧ (ps.flatMap pcells)[i * 3 + 2]? = some (.int .u16 (ps[i].u : Int))
  | [], i, hi => by simp at hi
  | p :: ps, 0, _ => by simp [pcells]
  | p :: ps, i + 1, hi => by
    have ih := pcells_get ps i (by simpa using hi)
    have e : (p :: ps).flatMap pcells = .int .i64 p.t :: .int .i64 p.c :: .int .u16 (p.u : Int) :: ps.flatMap pcells := by simp [pcells]
    rw [e, show (i + 1) * 3 = i * 3 + 3 by omega, show i * 3 + 3 + 1 = i * 3 + 1 + 3 by omega, show i * 3 + 3 + 2 = i * 3 + 2 + 3 by omega]
    simpa using ih
/-- pages that lie somewhere, cell by cell -/
theorem pg_news {w : World} {b off : Nat} {ps : List Pg} (hc : ∀ i (hi : i < ps.length), PgLies w b (off + i * 3) ps[i]) :
    ∀ j u, (ps.flatMap pcells)[j]? = some u → w.cell? ((⟨b, off, none⟩ : Addr).add j) = some u := by
  intro j u hu
  have hj : j < ps.length * 3 := by rw [← pcells_len]; exact (List.getElem?_eq_some_iff.1 hu).1
  have hi : j / 3 < ps.length := by omega
  obtain ⟨g0, g1, g2⟩ := pcells_get ps (j / 3) hi
  obtain ⟨c0, c1, c2⟩ := hc (j / 3) hi
  rw [addr_add]
  have h3 : j % 3 = 0 ∨ j % 3 = 1 ∨ j % 3 = 2 := by omega
  rcases h3 with h | h | h
  · have e : j = j / 3 * 3 := by omega
    rw [← e] at g0 c0
    rw [hu] at g0
    rw [c0, g0]
  · have e : j = j / 3 * 3 + 1 := by omega
    rw [← e] at g1
    rw [Nat.add_assoc, ← e] at c1
    rw [hu] at g1
    rw [c1, g1]
  · have e : j = j / 3 * 3 + 2 := by omega
    rw [← e] at g2
    rw [Nat.add_assoc, ← e] at c2
    rw [hu] at g2
    rw [c2, g2]

/-- the slice v is new: its pages lie in a block of their own from base on, and may be written to -/
def FreshS (w : World) (base : Nat) (v : Value) (ps : List Pg) : Prop :=
  ∃ ao cap, v = .slice ao ps.length cap ∧ ps.length ≤ cap ∧ cap ≤ 9223372036854775807 ∧ (ao = none → cap = 0) ∧
    (ps = [] ∨ ∃ g, ao = some ⟨g, 0, none⟩ ∧ base ≤ g ∧ g < w.heap.size ∧ (∀ j, w.frozen? ⟨g, j, none⟩ = false) ∧ ∀ i (hi : i < ps.length), PgLies w g (i * 3) ps[i])
theorem FreshS.nil (w : World) (base : Nat) : FreshS w base (.slice none 0 0) [] := ⟨none, 0, rfl, by simp, by simp, fun _ => rfl, .inl rfl⟩
theorem FreshS.sb {w : World} {base : Nat} {v : Value} {ps : List Pg} (h : FreshS w base v ps) : ∃ ao cap, v = .slice ao ps.length cap ∧ Sb w ao ps cap := by
  obtain ⟨ao, cap, rfl, h1, h2, h3, h4⟩ := h
  refine ⟨ao, cap, rfl, h1, h2, h3, ?_⟩
  rcases h4 with h | ⟨g, rfl, hb, hlt, hf, hc⟩
  · exact .inl h
  · exact .inr ⟨g, 0, rfl, hlt, fun i hi => by rw [Nat.zero_add]; exact hc i hi⟩
theorem FreshS.below {w w' : World} {base : Nat} {v : Value} {ps : List Pg} (h : FreshS w base v ps) (hb : Below w.heap.size w w') : FreshS w' base v ps := by
  obtain ⟨ao, cap, rfl, h1, h2, h3, h4⟩ := h
  refine ⟨ao, cap, rfl, h1, h2, h3, ?_⟩
  rcases h4 with h | ⟨g, rfl, hb1, hlt, hf, hc⟩
  · exact .inl h
  · have := hb.size
    exact .inr ⟨g, rfl, hb1, by omega, fun j => (hb.frozen (p := ⟨g, j, none⟩) hlt).trans (hf j), fun i hi => (hc i hi).below hb hlt⟩
theorem FreshS.mono {w : World} {base base' : Nat} {v : Value} {ps : List Pg} (h : FreshS w base v ps) (hb : base' ≤ base) : FreshS w base' v ps := by
  obtain ⟨ao, cap, rfl, h1, h2, h3, h4⟩ := h
  refine ⟨ao, cap, rfl, h1, h2, h3, ?_⟩
  rcases h4 with h | ⟨g, rfl, hb1, hlt, hf, hc⟩
  · exact .inl h
  · exact .inr ⟨g, rfl, by omega, hlt, hf, hc⟩
/-- a row that is owned may be read and written to -/
theorem row_lies {w : World} {base g n : Nat} {v : Value} {ps : List Pg} (ho : w.ownsRow base 30 3 v ps.length (ps.flatMap pcells)) : FreshS w base v ps := by
  rcases ho.2 with ⟨rfl, hn⟩ | ⟨g, cap, cur, rfl, hb, hg, hnc, hcm, hcs, htake⟩
  · have : ps = [] := List.eq_nil_of_length_eq_zero hn
    subst this
    exact FreshS.nil _ _
  · refine ⟨_, cap, rfl, hnc, hcm, (by intro e; cases e), .inr ⟨g, rfl, hb, (Array.getElem?_eq_some_iff.1 hg).1, fun j => by simp [World.frozen?, hg], fun i hi => ?_⟩⟩
    obtain ⟨g0, g1, g2⟩ := pcells_get ps i hi
    have c0 := World.ownsRow.cells ho (g := g) rfl _ _ g0
    have c1 := World.ownsRow.cells ho (g := g) rfl _ _ g1
    have c2 := World.ownsRow.cells ho (g := g) rfl _ _ g2
    rw [addr_add, Nat.zero_add] at c0 c1 c2
    exact ⟨c0, c1, c2⟩
/-- three cells of one block, stored in turn -/
theorem set3_lies {w : World} {g n : Nat} {ps : List Pg} {i : Nat} (hi : i < ps.length) (hc : ∀ i (hi : i < ps.length), PgLies w g (i * 3) ps[i]) (p : Pg) :
    ∀ j (hj : j < (ps.set i p).length), PgLies (((w.setCell ⟨g, i * 3, none⟩ (.int .i64 p.t)).setCell ⟨g, i * 3 + 1, none⟩ (.int .i64 p.c)).setCell ⟨g, i * 3 + 2, none⟩ (.int .u16 (p.u : Int))) g (j * 3) (ps.set i p)[j] := by
  intro j hj
  have hj' : j < ps.length := by simpa using hj
  obtain ⟨c0, c1, c2⟩ := hc j hj'
  by_cases e : j = i
  · subst e
    have e1 : (ps.set j p)[j] = p := by simp
    rw [e1]
    refine ⟨?_, ?_, ?_⟩
    · rw [World.cell?_setCell_other _ _ _ _ (by simp), World.cell?_setCell_other _ _ _ _ (by simp)]
      exact World.cell?_setCell_same _ _ _ c0
    · rw [World.cell?_setCell_other _ _ _ _ (by simp)]
      refine World.cell?_setCell_same _ _ _ (u := .int .i64 ps[j].c) ?_
      rw [World.cell?_setCell_other _ _ _ _ (by simp)]
      exact c1
    · refine World.cell?_setCell_same _ _ _ (u := .int .u16 (ps[j].u : Int)) ?_
      rw [World.cell?_setCell_other _ _ _ _ (by simp), World.cell?_setCell_other _ _ _ _ (by simp)]
      exact c2
  · have e1 : (ps.set i p)[j] = ps[j] := by rw [List.getElem_set_ne (fun h => e h.symm)]
    rw [e1]
    refine ⟨?_, ?_, ?_⟩
    · rw [World.cell?_setCell_other _ _ _ _ (by simp <;> omega), World.cell?_setCell_other _ _ _ _ (by simp <;> omega), World.cell?_setCell_other _ _ _ _ (by simp <;> omega)]; exact c0
    · rw [World.cell?_setCell_other _ _ _ _ (by simp <;> omega), World.cell?_setCell_other _ _ _ _ (by simp <;> omega), World.cell?_setCell_other _ _ _ _ (by simp <;> omega)]; exact c1
    · rw [World.cell?_setCell_other _ _ _ _ (by simp <;> omega), World.cell?_setCell_other _ _ _ _ (by simp <;> omega), World.cell?_setCell_other _ _ _ _ (by simp <;> omega)]; exact c2
end Go.Proofs.Ytkcgleahbhmggaa
