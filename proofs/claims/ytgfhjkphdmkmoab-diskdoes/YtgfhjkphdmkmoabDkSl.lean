/-
  Do, Left and Read once more: their answers' slices, spelt out.
-/
import Derived.Test.YtgfhjkphdmkmoabDkLeft
namespace Go.Proofs.Ytgfhjkphdmkmoab
open Go.RowKit
set_option linter.unusedSimpArgs false
set_option linter.unusedVariables false
set_option maxRecDepth 100000

/-- a list of writes' own facts, for reading -/
structure Pl (w : World) (ao : Option Addr) (ps : List Pt) (cap : Nat) : Prop where
  hl : ps.length ≤ cap
  hc : cap ≤ 9223372036854775807
  hn : ao = none → cap = 0
  at_ : PtAt w w.heap.size ao ps
theorem Pl.below {w w' : World} {ao : Option Addr} {ps : List Pt} {cap : Nat} (h : Pl w ao ps cap) (hb : Below w.heap.size w w') : Pl w' ao ps cap :=
  ⟨h.hl, h.hc, h.hn, h.at_.below hb hb.size⟩

theorem OwnPs.pl {w : World} {base : Nat} {v : Value} {ps : List Pt} (h : OwnPs w base v ps) : ∃ ao cap, v = .slice ao ps.length cap ∧ Pl w ao ps cap := by
  obtain ⟨ao, cap, hv, h1, h2, h3⟩ := h.at
  refine ⟨ao, cap, hv, h1, h2, ?_, h3⟩
  intro e
  subst e
  obtain ⟨vs, _, ho, _⟩ := h
  rcases ho.2 with ⟨h', _⟩ | ⟨g, cap', cur, h', _⟩
  · rw [hv] at h'; simp at h'; exact h'.2
  · rw [hv] at h'; simp at h'

theorem do_sl (w : World) (ao : Option Addr) (d : List UInt8) (cap : Nat) (hd : Sl w ao d cap) (po : Option Addr) (ps : List Pt) (pc : Nat) (hp : Pl w po ps pc) (m : Int) (E : Int) (R : List UInt8) (hE : doE d.length ps m = E) (hR : doB d ps m = R) :
    Calls Try.prog 26 #[.agg #[.slice ao d.length cap], .slice po ps.length pc, .int .i64 m] w fun e w' => ∃ ro rc, e = .returned (.tuple #[.agg #[.slice ro R.length rc], .int .i64 E]) ∧ Sl w' ro R rc ∧ Below w.heap.size w w' := by
  refine (do_any w w.heap.size ao d cap hd.at_ hd.hl hd.hc hd.hn (Nat.le_refl _) po ps pc hp.at_ hp.hn hp.hl hp.hc m).mono ?_
  rintro e w' ⟨v', rfl, hf, hb⟩
  rw [hR] at hf
  rw [hE]
  obtain ⟨ro, rc, rfl, hs⟩ := hf.sl
  exact ⟨ro, rc, rfl, hs, hb⟩
theorem left_sl (w : World) (po : Option Addr) (ps : List Pt) (pc : Nat) (hp : Pl w po ps pc) (hmany : ps.length ≤ 10000) (hroom : ∀ p ∈ ps, p.data.length ≤ 140737488355328) (m : Int) (E : Int) (R : List Pt) (hE : leftE ps m = E) (hR : leftP ps m = R) :
    Calls Try.prog 24 #[.slice po ps.length pc, .int .i64 m] w fun e w' => ∃ ro rc, e = .returned (.tuple #[.slice ro R.length rc, .int .i64 E]) ∧ Pl w' ro R rc ∧ Below w.heap.size w w' := by
  refine (left_any w w.heap.size (Nat.le_refl _) po ps pc hp.at_ hp.hn hp.hl hp.hc hmany hroom m).mono ?_
  rintro e w' ⟨v', rfl, hf, hb⟩
  rw [hR] at hf
  rw [hE]
  obtain ⟨ro, rc, rfl, hs⟩ := hf.pl
  exact ⟨ro, rc, rfl, hs, hb⟩
theorem dsame_sl (w : World) (ao ao' : Option Addr) (l l' : List UInt8) (cap cap' : Nat) (h : Sl w ao l cap) (h' : Sl w ao' l' cap') :
    Calls Try.prog 30 #[.agg #[.slice ao l.length cap], .agg #[.slice ao' l'.length cap']] w fun e w' => e = .returned (.bool (l == l')) ∧ Below w.heap.size w w' :=
  dsame_any w w.heap.size w.heap.size ao ao' l l' cap cap' h.at_ h'.at_ (Nat.le_refl _) (Nat.le_refl _)
end Go.Proofs.Ytgfhjkphdmkmoab
