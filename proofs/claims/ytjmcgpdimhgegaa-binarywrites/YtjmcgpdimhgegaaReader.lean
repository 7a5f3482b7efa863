/-
  (shaken)
-/
import Derived.Test.YtjmcgpdimhgegaaRead
namespace Go.Proofs.Ytjmcgpdimhgegaa
open Go.RowKit
set_option linter.unusedSimpArgs false
set_option linter.unusedVariables false
set_option maxRecDepth 100000

/-- a reader in block rb: what is left to read, and whether it is bad; the bytes lie below block B -/
structure Rd (w : World) (B rb : Nat) (s : St) : Prop where
  ex : ∃ ao cap, w.cell? ⟨rb, 0, none⟩ = some (.slice ao s.l.length cap) ∧ BsAt w B ao s.l ∧ s.l.length ≤ cap ∧ cap ≤ maxLen ∧ (ao = none → cap = 0)
  flag : w.cell? ⟨rb, 1, none⟩ = some (.bool s.bad)
  fr0 : w.frozen? ⟨rb, 0, none⟩ = false
  fr1 : w.frozen? ⟨rb, 1, none⟩ = false
  le : B ≤ rb
  lt : rb < w.heap.size

/-- a reader stays while other blocks, from B on, are written -/
theorem Rd.grown {w w' : World} {B rb : Nat} {s : St} {row : Option Nat} (h : Rd w B rb s) (hg : w.grownBy w' row) (hne : some rb ≠ row) (hr : ∀ k, row = some k → B ≤ k) : Rd w' B rb s := by
  obtain ⟨ao, cap, c0, hb, r⟩ := h.ex
  have hblk := hg.block rb h.lt hne
  have hbe : Below B w w' := (Below.refl B w).grown hg (Nat.le_trans h.le (Nat.le_of_lt h.lt)) hr
  exact ⟨⟨ao, cap, (World.cell?_of_block (a := ⟨rb, 0, none⟩) hblk).trans c0, hb.below hbe (Nat.le_refl _), r⟩, (World.cell?_of_block (a := ⟨rb, 1, none⟩) hblk).trans h.flag, (World.frozen?_of_block (a := ⟨rb, 0, none⟩) hblk).trans h.fr0, (World.frozen?_of_block (a := ⟨rb, 1, none⟩) hblk).trans h.fr1, h.le, Nat.lt_of_lt_of_le h.lt hg.size⟩
end Go.Proofs.Ytjmcgpdimhgegaa
