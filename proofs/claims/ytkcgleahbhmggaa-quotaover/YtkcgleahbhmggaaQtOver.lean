/-
  QuotaOver: a tenant that gives back as many pages as it has too many, the greatest ones first, has just its quota. No conditions.
-/
import Derived.Test.YtkcgleahbhmggaaQtAlive
import Derived.Test.YtkcgleahbhmggaaQtRows
import Derived.Test.YtkcgleahbhmggaaSbRef7
import Derived.Test.YtkcgleahbhmggaaSbBack
namespace Go.Proofs.Ytkcgleahbhmggaa
open Go.RowKit
set_option linter.unusedSimpArgs false
set_option linter.unusedVariables false
set_option maxRecDepth 100000

/-- of page P, the chunks below k were given back -/
structure GB (ps0 ps : List Pg) (P k : Nat) : Prop where
  len : ps.length = ps0.length
  ok : sOk ps = true
  oth : ∀ j, j ≠ P → ps[j]? = ps0[j]?
  low : ∀ p, ps[P]? = some p → ∀ i, i < k → p.u.testBit i = false
theorem GB.refl {ps : List Pg} (h : sOk ps = true) (P : Nat) : GB ps ps P 0 := ⟨rfl, h, fun _ _ => rfl, fun _ _ i hi => absurd hi (by omega)⟩
theorem inP_nat {ps : List Pg} {P : Nat} (h : P < ps.length) : inP ps P = true := by simp [inP]; exact h
theorem pgAt_nat {ps : List Pg} {P : Nat} (h : P < ps.length) : pgAt ps P = ps[P] := by unfold pgAt; rw [Int.toNat_natCast, List.getElem?_eq_getElem h]; rfl
theorem GB.step {ps0 ps : List Pg} {P k : Nat} (h : GB ps0 ps P k) (hP : P < ps.length) (hk : k < 16) (hE : freeE ps P k = 0) : GB ps0 (freeR ps P k) P (k + 1) := by
  have e1 : freeR ps P k = ps.set P (given ps[P] k) := by unfold freeR; rw [if_pos hE, pgAt_nat hP, Int.toNat_natCast, Int.toNat_natCast]
  have hb : ps[P].u.testBit k = true := by
    unfold freeE at hE
    rw [if_neg (by simp [h.ok]), if_neg (by simp [inP_nat hP]), pgAt_nat hP] at hE
    cases e : hasK ps[P] k
    · rw [e] at hE; exact absurd hE (by decide)
    · simp [hasK] at e; exact e.2
  rw [e1]
  refine ⟨by simp [h.len], given_slab h.ok hP, fun j hj => ?_, fun p hp i hi => ?_⟩
  · rw [List.getElem?_set_ne (fun e => hj e.symm)]; exact h.oth j hj
  · rw [List.getElem?_set_self hP] at hp
    obtain rfl := Option.some.inj hp
    rw [given_u, ← xor_sub hb, Nat.testBit_xor, Nat.testBit_two_pow]
    by_cases e : k = i
    · subst e; simp [hb]
    · simp [e]; exact h.low _ (List.getElem?_eq_getElem hP) i (by omega)
theorem GB.skip {ps0 ps : List Pg} {P k : Nat} (h : GB ps0 ps P k) (hP : P < ps.length) (hk : k < 16) (hE : freeE ps P k ≠ 0) : GB ps0 ps P (k + 1) := by
  refine ⟨h.len, h.ok, h.oth, fun p hp i hi => ?_⟩
  by_cases e : i = k
  · subst e
    have hp2 : p = ps[P] := by rw [List.getElem?_eq_getElem hP] at hp; exact (Option.some.inj hp).symm
    unfold freeE at hE
    rw [if_neg (by simp [h.ok]), if_neg (by simp [inP_nat hP]), pgAt_nat hP, ← hp2] at hE
    cases e : hasK p i
    · simp [hasK] at e
      exact e (by omega)
    · rw [e] at hE; exact absurd rfl hE
  · exact h.low p hp i (by omega)
theorem GB.done {ps0 ps : List Pg} {P : Nat} {t : Int} (h : GB ps0 ps P 16) (hP : P < ps0.length) (ho : isOf t ps0[P] = true) : owned ps t + 1 = owned ps0 t := by
  have hP2 : P < ps.length := by rw [h.len]; exact hP
  have hz : ps[P].u = 0 := by
    refine Nat.eq_of_testBit_eq fun i => ?_
    rw [Nat.zero_testBit]
    by_cases hi : i < 16
    · exact h.low _ (List.getElem?_eq_getElem hP2) i hi
    · exact Nat.testBit_lt_two_pow (Nat.lt_of_lt_of_le (show ps[P].u < 2 ^ 16 from ps[P].hu) (Nat.pow_le_pow_right (by decide) (by omega)))
  have e : ps = ps0.set P ps[P] := by
    refine List.ext_getElem? fun j => ?_
    by_cases e : j = P
    · subst e; rw [List.getElem?_set_self hP, List.getElem?_eq_getElem hP2]
    · rw [List.getElem?_set_ne (fun h => e h.symm)]; exact h.oth j e
  have e2 : isOf t ps[P] = false := by simp [isOf, hz]
  have hpos : 0 < owned ps0 t := List.countP_pos_iff.2 ⟨_, List.getElem_mem hP, ho⟩
  have e3 : owned ps t = owned (ps0.set P ps[P]) t := congrArg (fun l => owned l t) e
  unfold owned at e3 hpos ⊢
  rw [List.countP_set hP] at e3
  simp [ho, e2] at e3
  omega
theorem last_some {ps : List Pg} {t : Int} (h : 0 < owned ps t) : ∃ P : Nat, lastI ps t = (P : Int) ∧ ∃ hP : P < ps.length, isOf t ps[P] = true := by
  have key : ∀ k, k ≤ ps.length → (owned (ps.take k) t = 0) ∨ ∃ P : Nat, lastI (ps.take k) t = (P : Int) ∧ P < k ∧ ∃ hP : P < ps.length, isOf t ps[P] = true := by
    intro k
    induction k with
    | zero => intro _; exact .inl (by simp [owned])
    | succ k ih =>
      intro hk
      have hlt : k < ps.length := by omega
      rw [owned_take t hlt, lastI_take t hlt]
      cases e : isOf t ps[k]
      · rcases ih (by omega) with h1 | ⟨P, h1, h2, h3, h4⟩
        · exact .inl (by simp [h1])
        · exact .inr ⟨P, by simp [h1], by omega, h3, h4⟩
      · exact .inr ⟨k, by simp, by omega, hlt, e⟩
  rcases key ps.length (Nat.le_refl _) with h1 | ⟨P, h1, h2, h3, h4⟩
  · rw [List.take_length] at h1; omega
  · rw [List.take_length] at h1; exact ⟨P, h1, h3, h4⟩
/-- a slab variable of the walk's own, in its box, and its pages -/
structure SX (w wr : World) (ao : Option Addr) (ps : List Pg) (cap : Nat) : Prop where
  sb : Sb wr ao ps cap
  ne : ∀ a, ao = some a → a.block ≠ w.heap.size
  cl : wr.cell? ⟨w.heap.size, 0, none⟩ = some (.slice ao ps.length cap)
  fz : wr.frozen? ⟨w.heap.size, 0, none⟩ = false
  lt : w.heap.size < wr.heap.size
  bel : Below w.heap.size w wr
theorem SX.step {w wr wr' : World} {ao : Option Addr} {ps : List Pg} {cap : Nat} (h : SX w wr ao ps cap) (hb : Below wr.heap.size wr wr') : SX w wr' ao ps cap :=
  ⟨h.sb.below hb, h.ne, (below_cells hb _ 0 h.lt).trans h.cl, (below_frozen hb _ 0 h.lt).trans h.fz, by have := hb.size; have := h.lt; omega, h.bel.trans (hb.mono h.bel.size)⟩
theorem SX.alloc {w wr : World} {ao : Option Addr} {ps : List Pg} {cap : Nat} (h : SX w wr ao ps cap) (o : Obj) : SX w (wr.alloc o) ao ps cap := h.step ((Below.refl _ _).alloc (Nat.le_refl _) _)
theorem SX.begin {w : World} {ao : Option Addr} {ps : List Pg} {cap : Nat} (h : Sb w ao ps cap) (hne : ps ≠ []) (t : TypeId) : SX w (w.alloc (.cells #[.slice ao ps.length cap] t)) ao ps cap := by
  obtain ⟨b, off, rfl, hb, -⟩ := h.lies hne
  exact ⟨h.below ((Below.refl _ _).alloc (Nat.le_refl _) _), fun a e => by cases e; show b ≠ _; omega, by simp, by simp, by simp, (Below.refl _ _).alloc (Nat.le_refl _) _⟩
theorem SX.put {w wr wr' : World} {ao ro : Option Addr} {ps R : List Pg} {cap rc : Nat} (h : SX w wr ao ps cap) (hb : Below wr.heap.size wr wr') (hf : FreshS wr' wr.heap.size (.slice ro R.length rc) R) (hne : R ≠ []) (o : Obj) :
    SX w ((wr'.setCell ⟨w.heap.size, 0, none⟩ (.slice ro R.length rc)).alloc o) ro R rc := by
  have h2 := h.step hb
  obtain ⟨ao', cap', e, h1, h3, h4, h5⟩ := hf
  cases e
  rcases h5 with h5 | ⟨g, rfl, hbg, hlt, hf, hc⟩
  · exact absurd h5 hne
  have hlt0 := h.lt
  have hl2 := h2.lt
  have hx : SX w (wr'.setCell ⟨w.heap.size, 0, none⟩ (.slice (some ⟨g, 0, none⟩) R.length rc)) (some ⟨g, 0, none⟩) R rc := by
    refine ⟨⟨h1, h3, h4, .inr ⟨g, 0, rfl, by simpa using hlt, fun i hi => ?_⟩⟩, fun a e => by cases e; show g ≠ _; omega, World.cell?_setCell_same _ _ _ h2.cl, by simpa using h2.fz, by simpa using hl2, h2.bel.grown (grownBy_setCell wr' _ _) h2.bel.size (by intro k hk; cases hk; exact Nat.le_refl _)⟩
    rw [Nat.zero_add]
    exact (hc i hi).grown (grown_set wr' w.heap.size 0 _) (by intro e; have := Option.some.inj e; omega)
  exact hx.alloc o
end Go.Proofs.Ytkcgleahbhmggaa
