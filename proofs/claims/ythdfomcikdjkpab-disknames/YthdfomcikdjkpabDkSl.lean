/-
  Do, Left and Read once more: their answers' slices, spelt out.
-/
import Derived.Test.YthdfomcikdjkpabDkLeft
namespace Go.Proofs.Ythdfomcikdjkpab
open Go.RowKit
set_option linter.unusedSimpArgs false
set_option linter.unusedVariables false
set_option maxRecDepth 100000

/-- a slice's own facts, for reading -/
structure Sl (w : World) (ao : Option Addr) (l : List UInt8) (cap : Nat) : Prop where
  hl : l.length ≤ cap
  hc : cap ≤ 9223372036854775807
  hn : ao = none → cap = 0
  at_ : BsAt w w.heap.size ao l
theorem Sl.below {w w' : World} {ao : Option Addr} {l : List UInt8} {cap : Nat} (h : Sl w ao l cap) (hb : Below w.heap.size w w') : Sl w' ao l cap :=
  ⟨h.hl, h.hc, h.hn, h.at_.below hb hb.size⟩
theorem Sl.lies {w : World} {ao : Option Addr} {l : List UInt8} {cap : Nat} (h : Sl w ao l cap) (hne : l ≠ []) : ∃ b o, ao = some ⟨b, o, none⟩ := by
  rcases h.at_ with e | ⟨b, o, e, _⟩
  · exact absurd e hne
  · exact ⟨b, o, e⟩
theorem Sl.store {w : World} {g off : Nat} {l : List UInt8} {cap : Nat} (h : Sl w (some ⟨g, off, none⟩) l cap) (X o : Nat) (v : Value) (hne : X ≠ g) : Sl (w.setCell ⟨X, o, none⟩ v) (some ⟨g, off, none⟩) l cap := by
  refine ⟨h.hl, h.hc, h.hn, ?_⟩
  rcases h.at_ with h | ⟨b, off', e, hb, hc⟩
  · exact .inl h
  · cases e
    exact .inr ⟨g, off, rfl, by simpa using hb, fun j hj => (grown_set w X o v).cell (a := ⟨g, off + j, none⟩) (hc j hj) (by intro e; have := Option.some.inj e; exact hne this.symm)⟩
theorem Sl.conv {w : World} {ao : Option Addr} {l : List UInt8} {cap n : Nat} (h : Sl w ao l cap) (hn : l.length = n) :
    ∀ W, Below w.heap.size w W → (convert 23 9 (.slice ao n cap)).run Try.prog W = .ok (.string ⟨l.toArray⟩) W := by
  intro W hb
  subst hn
  exact conv_bytes W w.heap.size ao l cap (h.at_.below hb (Nat.le_refl _))
/-- a list of writes' own facts, for reading -/
structure Pl (w : World) (ao : Option Addr) (ps : List Pt) (cap : Nat) : Prop where
  hl : ps.length ≤ cap
  hc : cap ≤ 9223372036854775807
  hn : ao = none → cap = 0
  at_ : PtAt w w.heap.size ao ps
theorem Pl.below {w w' : World} {ao : Option Addr} {ps : List Pt} {cap : Nat} (h : Pl w ao ps cap) (hb : Below w.heap.size w w') : Pl w' ao ps cap :=
  ⟨h.hl, h.hc, h.hn, h.at_.below hb hb.size⟩

theorem Fresh.sl {w : World} {base : Nat} {v : Value} {l : List UInt8} (h : Fresh w base v l) : ∃ ao cap, v = .slice ao l.length cap ∧ Sl w ao l cap := by
  obtain ⟨ao, cap, rfl, h1, h2, h3, h4⟩ := h.at
  exact ⟨ao, cap, rfl, h1, h2, h3, h4⟩
theorem OwnPs.pl {w : World} {base : Nat} {v : Value} {ps : List Pt} (h : OwnPs w base v ps) : ∃ ao cap, v = .slice ao ps.length cap ∧ Pl w ao ps cap := by
  obtain ⟨ao, cap, hv, h1, h2, h3⟩ := h.at
  refine ⟨ao, cap, hv, h1, h2, ?_, h3⟩
  intro e
  subst e
  obtain ⟨vs, _, ho, _⟩ := h
  rcases ho.2 with ⟨h', _⟩ | ⟨g, cap', cur, h', _⟩
  · rw [hv] at h'; simp at h'; exact h'.2
  · rw [hv] at h'; simp at h'

theorem do_sl (w : World) (ao : Option Addr) (d : List UInt8) (cap : Nat) (hd : Sl w ao d cap) (po : Option Addr) (ps : List Pt) (pc : Nat) (hp : Pl w po ps pc) (m : Int) (E : Int) (R : List UInt8) (hE : doE d.length ps m = E) (hR : doB d ps m = R) :
    Calls Try.prog 26 #[.agg #[.slice ao d.length cap], .slice po ps.length pc, .int .i64 m] w fun e w' => ∃ ro rc, e = .returned (.tuple #[.agg #[.slice ro R.length rc], .int .i64 E]) ∧ Sl w' ro R rc ∧ Below w.heap.size w w' := by
  refine (do_any w w.heap.size ao d cap hd.at_ hd.hl hd.hc hd.hn (Nat.le_refl _) po ps pc hp.at_ hp.hn hp.hl hp.hc m).mono ?_
  rintro e w' ⟨v', rfl, hf, hb⟩
  rw [hR] at hf
  rw [hE]
  obtain ⟨ro, rc, rfl, hs⟩ := hf.sl
  exact ⟨ro, rc, rfl, hs, hb⟩
theorem left_sl (w : World) (po : Option Addr) (ps : List Pt) (pc : Nat) (hp : Pl w po ps pc) (hmany : ps.length ≤ 10000) (hroom : ∀ p ∈ ps, p.data.length ≤ 140737488355328) (m : Int) (E : Int) (R : List Pt) (hE : leftE ps m = E) (hR : leftP ps m = R) :
    Calls Try.prog 24 #[.slice po ps.length pc, .int .i64 m] w fun e w' => ∃ ro rc, e = .returned (.tuple #[.slice ro R.length rc, .int .i64 E]) ∧ Pl w' ro R rc ∧ Below w.heap.size w w' := by
  refine (left_any w w.heap.size (Nat.le_refl _) po ps pc hp.at_ hp.hn hp.hl hp.hc hmany hroom m).mono ?_
  rintro e w' ⟨v', rfl, hf, hb⟩
  rw [hR] at hf
  rw [hE]
  obtain ⟨ro, rc, rfl, hs⟩ := hf.pl
  exact ⟨ro, rc, rfl, hs, hb⟩
theorem dsame_sl (w : World) (ao ao' : Option Addr) (l l' : List UInt8) (cap cap' : Nat) (h : Sl w ao l cap) (h' : Sl w ao' l' cap') :
    Calls Try.prog 30 #[.agg #[.slice ao l.length cap], .agg #[.slice ao' l'.length cap']] w fun e w' => e = .returned (.bool (l == l')) ∧ Below w.heap.size w w' :=
  dsame_any w w.heap.size w.heap.size ao ao' l l' cap cap' h.at_ h'.at_ (Nat.le_refl _) (Nat.le_refl _)
end Go.Proofs.Ythdfomcikdjkpab
