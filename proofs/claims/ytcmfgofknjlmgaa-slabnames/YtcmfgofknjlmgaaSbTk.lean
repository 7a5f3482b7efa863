/-
  What SlabTakes needs beside the contracts: headers, slabs side by side, cells that may be written to.
-/
import Derived.Test.YtcmfgofknjlmgaaSbRef7
import Derived.Test.YtcmfgofknjlmgaaSbBack
import Derived.Test.YtcmfgofknjlmgaaSbOwns
import Derived.Deep.AppendLies
namespace Go.Proofs.Ytcmfgofknjlmgaa
open Go.RowKit
set_option linter.unusedSimpArgs false
set_option linter.unusedVariables false
set_option maxRecDepth 100000

theorem below_drewT {B : Nat} {a w : World} (h : Below B a w) : Below B a w.drew := ⟨h.os, h.tape, h.output, h.size, h.block⟩
/-- a slab's header in a block of its own -/
structure Hd (wq : World) (b : Nat) (v : Value) : Prop where
  c : wq.cell? ⟨b, 0, none⟩ = some v
  x : b < wq.heap.size
def Hds (wq : World) (L : List (Nat × Value)) : Prop := ∀ p ∈ L, Hd wq p.1 p.2
theorem Hds.nil (w : World) : Hds w [] := fun p hp => by cases hp
theorem Hds.step {wq wr : World} {L : List (Nat × Value)} (h : Hds wq L) (hb : Below wq.heap.size wq wr) : Hds wr L :=
  fun p hp => ⟨(below_cells hb _ 0 (h p hp).x).trans (h p hp).c, Nat.lt_of_lt_of_le (h p hp).x hb.size⟩
theorem Hds.push {w : World} {L : List (Nat × Value)} (h : Hds w L) (v : Value) (t : TypeId) : Hds (w.alloc (Obj.cells #[v] t)) ((w.heap.size, v) :: L) := by
  intro p hp
  rcases List.mem_cons.1 hp with rfl | hp
  · exact ⟨by simp, by simp⟩
  · exact (h.step ((Below.refl _ _).alloc (Nat.le_refl _) _)) p hp
def Sbs (wq : World) (M : List (Option Addr × List Pg × Nat)) : Prop := ∀ p ∈ M, Sb wq p.1 p.2.1 p.2.2
theorem Sbs.step {wq wr : World} {M : List (Option Addr × List Pg × Nat)} (h : Sbs wq M) (hb : Below wq.heap.size wq wr) : Sbs wr M :=
  fun p hp => (h p hp).below hb
theorem Sbs.push {w : World} {M : List (Option Addr × List Pg × Nat)} (h : Sbs w M) {ao : Option Addr} {ps : List Pg} {cap : Nat} (hs : Sb w ao ps cap) : Sbs w ((ao, ps, cap) :: M) := by
  intro p hp
  rcases List.mem_cons.1 hp with rfl | hp
  · exact hs
  · exact h p hp
theorem Sbs.nil (w : World) : Sbs w [] := fun p hp => by cases hp
theorem FreshS.sb' {w : World} {base : Nat} {ao : Option Addr} {cap : Nat} {ps : List Pg} (h : FreshS w base (.slice ao ps.length cap) ps) : Sb w ao ps cap := by
  obtain ⟨ao', cap', e, hs⟩ := h.sb
  cases e
  exact hs

def newP (n : Int) : List Pg := if 1 ≤ n ∧ n ≤ 16 then List.replicate n.toNat pz else []
def newE (n : Int) : Int := if 1 ≤ n ∧ n ≤ 16 then 0 else 2
theorem newP_len (n : Int) : (newP n).length ≤ 1000 := by
  unfold newP
  split
  · rw [List.length_replicate]; omega
  · simp
theorem takeR_len (ps : List Pg) (t c q : Int) : (takeR ps t c q).1.length ≤ ps.length := by
  unfold takeR
  split
  · split
    · simp
    · simp
  · simp
theorem freeR_len (ps : List Pg) (i k : Int) : (freeR ps i k).length ≤ ps.length := by
  unfold freeR
  split
  · simp
  · simp
theorem new_all (n : Int) (w : World) :
    Calls Try.prog 16 #[.int .i64 n] w fun e w' => ∃ ro rc, e = .returned (.tuple #[.agg #[.slice ro (newP n).length rc], .int .i64 (newE n)]) ∧ Sb w' ro (newP n) rc ∧ Below w.heap.size w w' := by
  by_cases h : 1 ≤ n ∧ n ≤ 16
  · have e1 : newP n = List.replicate n.toNat pz := by unfold newP; rw [if_pos h]
    have e2 : newE n = 0 := by unfold newE; rw [if_pos h]
    rw [e1, e2]
    obtain ⟨m, rfl⟩ : ∃ m : Nat, n = (m : Int) := ⟨n.toNat, by omega⟩
    rw [Int.toNat_natCast]
    refine (new_sb m w (by omega)).mono ?_
    rintro e w' ⟨ro, rc, rfl, hs, hf, hb⟩
    exact ⟨ro, rc, rfl, hs, hb⟩
  · have e1 : newP n = [] := by unfold newP; rw [if_neg h]
    have e2 : newE n = 2 := by unfold newE; rw [if_neg h]
    rw [e1, e2]
    refine (new_bad_any n w h).mono ?_
    rintro e w' ⟨rfl, hb⟩
    exact ⟨none, 0, rfl, Sb.nil _, hb⟩
theorem rnew_all (n : Int) (w : World) :
    Calls Try.prog 24 #[.int .i64 n] w fun e w' => ∃ ro rc, e = .returned (.tuple #[.agg #[.slice ro (newP n).length rc], .int .i64 (newE n)]) ∧ Sb w' ro (newP n) rc ∧ Below w.heap.size w w' := by
  by_cases h : 1 ≤ n ∧ n ≤ 16
  · have e1 : newP n = List.replicate n.toNat pz := by unfold newP; rw [if_pos h]
    have e2 : newE n = 0 := by unfold newE; rw [if_pos h]
    rw [e1, e2]
    obtain ⟨m, rfl⟩ : ∃ m : Nat, n = (m : Int) := ⟨n.toNat, by omega⟩
    rw [Int.toNat_natCast]
    refine (rnew_any m w (by omega)).mono ?_
    rintro e w' ⟨g, rfl, hg, hr, hb⟩
    have hF := row_pages hr hg (by simp; omega)
    obtain ⟨ro, rc, e, hs⟩ := hF.sb
    cases e
    rw [List.length_replicate] at *
    exact ⟨_, _, rfl, hs, hb⟩
  · have e1 : newP n = [] := by unfold newP; rw [if_neg h]
    have e2 : newE n = 2 := by unfold newE; rw [if_neg h]
    rw [e1, e2]
    refine (rnew_bad n w h).mono ?_
    rintro e w' ⟨rfl, hb⟩
    exact ⟨none, 0, rfl, Sb.nil _, hb⟩
/-- cells that may be written to -/
def Opn (w : World) (ao : Option Addr) (L : Nat) : Prop := L = 0 ∨ ∃ g, ao = some ⟨g, 0, none⟩ ∧ g < w.heap.size ∧ ∀ j, j < L * 3 → (∃ v, w.cell? ⟨g, j, none⟩ = some v) ∧ w.frozen? ⟨g, j, none⟩ = false
theorem FreshS.opn {w : World} {base : Nat} {ao : Option Addr} {cap : Nat} {ps : List Pg} (h : FreshS w base (.slice ao ps.length cap) ps) : Opn w ao ps.length := by
  obtain ⟨ao', cap', e, h1, h2, h3, h4⟩ := h
  cases e
  rcases h4 with rfl | ⟨g, rfl, hb, hlt, hf, hc⟩
  · exact .inl rfl
  · refine .inr ⟨g, rfl, hlt, fun j hj => ⟨?_, hf j⟩⟩
    obtain ⟨c0, c1, c2⟩ := hc (j / 3) (by omega)
    have h3 : j % 3 = 0 ∨ j % 3 = 1 ∨ j % 3 = 2 := by omega
    rcases h3 with h | h | h
    · exact ⟨_, by rw [show j = j / 3 * 3 by omega]; exact c0⟩
    · exact ⟨_, by rw [show j = j / 3 * 3 + 1 by omega]; exact c1⟩
    · exact ⟨_, by rw [show j = j / 3 * 3 + 2 by omega]; exact c2⟩
theorem Opn.set {w : World} {g L : Nat} (h : Opn w (some ⟨g, 0, none⟩) L) (o : Nat) (v : Value) : Opn (w.setCell ⟨g, o, none⟩ v) (some ⟨g, 0, none⟩) L := by
  rcases h with h | ⟨g', e, hlt, hc⟩
  · exact .inl h
  · cases e
    refine .inr ⟨g, rfl, by simpa using hlt, fun j hj => ⟨?_, by simpa using (hc j hj).2⟩⟩
    obtain ⟨u, hu⟩ := (hc j hj).1
    by_cases e : o = j
    · subst e
      exact ⟨v, World.cell?_setCell_same _ _ _ hu⟩
    · exact ⟨u, by rw [World.cell?_setCell_other _ _ _ _ (by simp <;> omega)]; exact hu⟩
theorem FreshS.grown {w w' : World} {base : Nat} {v : Value} {ps : List Pg} {r : Option Nat} (h : FreshS w base v ps) (hg : w.grownBy w' r) (hr : ∀ k, r = some k → k < base) : FreshS w' base v ps := by
  obtain ⟨ao, cap, rfl, h1, h2, h3, h4⟩ := h
  refine ⟨ao, cap, rfl, h1, h2, h3, ?_⟩
  rcases h4 with h | ⟨g, rfl, hb, hlt, hf, hc⟩
  · exact .inl h
  · have hne : some g ≠ r := fun e => by have := hr g e.symm; omega
    have := hg.size
    exact .inr ⟨g, rfl, hb, by omega, fun j => (hg.frozen_far ⟨g, j, none⟩ hlt hne).trans (hf j), fun i hi => (hc i hi).grown hg hne⟩
/-- the block of a slice -/
def blkOf (ao : Option Addr) : Option Nat := ao.map Addr.block
theorem FreshS.blk {w : World} {base : Nat} {ao : Option Addr} {cap : Nat} {ps : List Pg} (h : FreshS w base (.slice ao ps.length cap) ps) : ps = [] ∨ ∃ g, ao = some ⟨g, 0, none⟩ ∧ base ≤ g ∧ g < w.heap.size := by
  obtain ⟨ao', cap', e, h1, h2, h3, h4⟩ := h
  cases e
  rcases h4 with h | ⟨g, rfl, hb, hlt, _⟩
  · exact .inl h
  · exact .inr ⟨g, rfl, hb, hlt⟩
/-- which block is written to: none, if there are no pages -/
def rowB (ao : Option Addr) (L : Nat) : Option Nat := if L = 0 then none else blkOf ao
theorem FreshS.rowB {w : World} {base : Nat} {ao : Option Addr} {cap : Nat} {ps : List Pg} (h : FreshS w base (.slice ao ps.length cap) ps) : ∀ k, rowB ao ps.length = some k → base ≤ k ∧ k < w.heap.size := by
  intro k hk
  unfold Go.Proofs.Ytcmfgofknjlmgaa.rowB at hk
  rcases h.blk with rfl | ⟨g, rfl, h1, h2⟩
  · simp at hk
  · split at hk
    · cases hk
    · cases hk; exact ⟨h1, h2⟩
theorem tcase (w : World) (ao : Option Addr) (ps : List Pg) (cap : Nat) (h : Sb w ao ps cap) (t : Int) :
    ∃ (E1 E4 nO mO : Int) (bT : Bool), sE ps = E1 ∧ isT t = bT ∧ (∀ W, Below w.heap.size w W → Calls Try.prog 19 #[.agg #[.slice ao ps.length cap], .int .i64 t] W fun e w' => e = .returned (.tuple #[.int .i64 nO, .int .i64 E4]) ∧ Below W.heap.size W w') ∧ (∀ W, Below w.heap.size w W → Calls Try.prog 20 #[.agg #[.slice ao ps.length cap], .int .i64 t] W fun e w' => e = .returned (.tuple #[.int .i64 mO, .int .i64 E4]) ∧ Below W.heap.size W w') ∧
      ((E1 = 8 ∧ E4 = 8 ∧ nO = 0 ∧ mO = 0) ∨ (E1 = 0 ∧ bT = false ∧ E4 = 2 ∧ nO = 0 ∧ mO = 0) ∨ (E1 = 0 ∧ bT = true ∧ E4 = 0 ∧ nO = (owned ps t : Int) ∧ mO = lastI ps t)) := by
  cases ho : sOk ps
  · have e1 : sE ps = 8 := by unfold sE; rw [ho]; rfl
    have e2 : tE ps t = 8 := by unfold tE; rw [ho]; rfl
    refine ⟨8, 8, 0, 0, isT t, e1, rfl, fun W hb => ?_, fun W hb => ?_, .inl ⟨rfl, rfl, rfl, rfl⟩⟩
    · have := Owned_bad W ao ps cap (h.below hb) t (by rw [e2]; decide)
      rwa [e2] at this
    · have := Last_bad W ao ps cap (h.below hb) t (by rw [e2]; decide)
      rwa [e2] at this
  · have e1 : sE ps = 0 := by unfold sE; rw [ho]; rfl
    cases ht : isT t
    · have e2 : tE ps t = 2 := by unfold tE; rw [ho, ht]; rfl
      refine ⟨0, 2, 0, 0, false, e1, rfl, fun W hb => ?_, fun W hb => ?_, .inr (.inl ⟨rfl, rfl, rfl, rfl, rfl⟩)⟩
      · have := Owned_bad W ao ps cap (h.below hb) t (by rw [e2]; decide)
        rwa [e2] at this
      · have := Last_bad W ao ps cap (h.below hb) t (by rw [e2]; decide)
        rwa [e2] at this
    · exact ⟨0, 0, _, _, true, e1, rfl, fun W hb => Owned_any W ao ps cap (h.below hb) ho t ht, fun W hb => Last_any W ao ps cap (h.below hb) ho t ht, .inr (.inr ⟨rfl, rfl, rfl, rfl, rfl⟩)⟩
end Go.Proofs.Ytcmfgofknjlmgaa
