/-
  Package lru: an order's cells in a block; an order whose rows a call made; the contract of copied.
-/
import Derived.Test.YtmdlampmoeiihaaLrCheck
import Derived.Deep.LoopGhost
namespace Go.Proofs.Ytmdlampmoeiihaa
open Go.RowKit Go.Shelf Go.Lib Go.Sort
set_option linter.unusedSimpArgs false
set_option linter.unusedVariables false
set_option maxRecDepth 100000

theorem below_drew0 {w w' : World} (h : Below w.drew.heap.size w.drew w') : Below w.heap.size w w' := ⟨h.os, h.tape, h.output, h.size, h.block⟩
/-- the block b holds an order's two cells -/
structure OB (w : World) (b : Nat) (x y : Value) : Prop where
  c0 : w.cell? ⟨b, 0, none⟩ = some x
  c1 : w.cell? ⟨b, 1, none⟩ = some y
  f0 : w.frozen? ⟨b, 0, none⟩ = false
  f1 : w.frozen? ⟨b, 1, none⟩ = false
  lt : b < w.heap.size
theorem OB.same {w w' : World} {b : Nat} {x y : Value} (h : OB w b x y) (e : w'.heap[b]? = w.heap[b]?) (hs : w.heap.size ≤ w'.heap.size) : OB w' b x y :=
  ⟨(World.cell?_of_block (a := ⟨b, 0, none⟩) e).trans h.c0, (World.cell?_of_block (a := ⟨b, 1, none⟩) e).trans h.c1, (World.frozen?_of_block (a := ⟨b, 0, none⟩) e).trans h.f0, (World.frozen?_of_block (a := ⟨b, 1, none⟩) e).trans h.f1, Nat.lt_of_lt_of_le h.lt hs⟩
theorem OB.below {w w' : World} {b : Nat} {x y : Value} (h : OB w b x y) (hb : Below w.heap.size w w') : OB w' b x y := h.same (hb.block b h.lt) hb.size
theorem OB.grown {w w' : World} {b : Nat} {x y : Value} {row : Option Nat} (h : OB w b x y) (hg : w.grownBy w' row) (hne : row ≠ some b) : OB w' b x y := h.same (hg.block b h.lt (fun e => hne e.symm)) hg.size
theorem OB.other {w : World} {b : Nat} {x y : Value} (h : OB w b x y) (p : Addr) (v : Value) (hp : p.block ≠ b) : OB (w.setCell p v) b x y := h.grown (grownBy_setCell w p v) (fun e => hp (Option.some.inj e))
theorem OB.set0 {w : World} {b : Nat} {x y : Value} (h : OB w b x y) (u : Value) : OB (w.setCell ⟨b, 0, none⟩ u) b u y := by
  refine ⟨World.cell?_setCell_same _ _ _ h.c0, ?_, by rw [World.frozen?_setCell]; exact h.f0, by rw [World.frozen?_setCell]; exact h.f1, by simpa using h.lt⟩
  rw [World.cell?_setCell_other _ _ _ _ (by intro e; cases e)]
  exact h.c1
theorem OB.set1 {w : World} {b : Nat} {x y : Value} (h : OB w b x y) (u : Value) : OB (w.setCell ⟨b, 1, none⟩ u) b x u := by
  refine ⟨?_, World.cell?_setCell_same _ _ _ h.c1, by rw [World.frozen?_setCell]; exact h.f0, by rw [World.frozen?_setCell]; exact h.f1, by simpa using h.lt⟩
  rw [World.cell?_setCell_other _ _ _ _ (by intro e; cases e)]
  exact h.c0
theorem OB.made (w : World) (x y : Value) : OB (w.alloc (.cells #[x, y] 24)) w.heap.size x y :=
  ⟨by simp, by simp, by simp, by simp, by simp⟩
theorem OB.alloc {w : World} {b : Nat} {x y : Value} (h : OB w b x y) (o : Obj) : OB (w.alloc o) b x y := h.below ((Below.refl _ _).alloc (Nat.le_refl _) _)
/-- an order whose rows a call made, in blocks from base on -/
structure Rw (w : World) (base : Nat) (aT : Option Addr) (cT : Nat) (aK : Option Addr) (cK : Nat) (T K : List ByteArray) : Prop where
  t : OwnTs w base (.slice aT T.length cT) T
  k : OwnTs w base (.slice aK K.length cK) K
  ap : ∀ g, (Value.slice aT T.length cT).ownBlock = some g → (Value.slice aK K.length cK).ownBlock ≠ some g
theorem own_len {aT : Option Addr} {n m cT cT' : Nat} : (Value.slice aT n cT).ownBlock = (Value.slice aT m cT').ownBlock := by cases aT <;> rfl
theorem Rw.tlT {w : World} {base : Nat} {aT : Option Addr} {cT : Nat} {aK : Option Addr} {cK : Nat} {T K : List ByteArray} (h : Rw w base aT cT aK cK T K) : Tl w aT T cT := by
  obtain ⟨ao, cap, e, hh⟩ := h.t.tl
  cases e
  exact hh
theorem Rw.tlK {w : World} {base : Nat} {aT : Option Addr} {cT : Nat} {aK : Option Addr} {cK : Nat} {T K : List ByteArray} (h : Rw w base aT cT aK cK T K) : Tl w aK K cK := by
  obtain ⟨ao, cap, e, hh⟩ := h.k.tl
  cases e
  exact hh
theorem Rw.below {w w' : World} {base : Nat} {aT : Option Addr} {cT : Nat} {aK : Option Addr} {cK : Nat} {T K : List ByteArray} (h : Rw w base aT cT aK cK T K) (hb : Below w.heap.size w w') : Rw w' base aT cT aK cK T K :=
  ⟨h.t.below hb, h.k.below hb, h.ap⟩
theorem Rw.base {w : World} {base base' : Nat} {aT : Option Addr} {cT : Nat} {aK : Option Addr} {cK : Nat} {T K : List ByteArray} (h : Rw w base aT cT aK cK T K) (hb : base' ≤ base) : Rw w base' aT cT aK cK T K :=
  ⟨h.t.base hb, h.k.base hb, h.ap⟩
theorem Rw.set {w : World} {base : Nat} {aT : Option Addr} {cT : Nat} {aK : Option Addr} {cK : Nat} {T K : List ByteArray} (h : Rw w base aT cT aK cK T K) (p : Addr) (v : Value) (hp : ∀ g, (Value.slice aT T.length cT).ownBlock = some g ∨ (Value.slice aK K.length cK).ownBlock = some g → g ≠ p.block) : Rw (w.setCell p v) base aT cT aK cK T K :=
  ⟨h.t.grown (grownBy_setCell w p v) (fun g hg e => hp g (.inl hg) (Option.some.inj e).symm), h.k.grown (grownBy_setCell w p v) (fun g hg e => hp g (.inr hg) (Option.some.inj e).symm), h.ap⟩

set_option maxHeartbeats 1000000 in
theorem copied_any (T K : List ByteArray) (aT aK : Option Addr) (cT cK : Nat) (w : World) (hTl : Tl w aT T cT) (hKl : Tl w aK K cK) (hT : T.length ≤ 300) (hK : K.length ≤ 300) :
    Calls Try.prog 38 #[.agg #[.slice aT T.length cT, .slice aK K.length cK]] w fun e w' => ∃ aT' cT' aK' cK', e = .returned (.agg #[.slice aT' T.length cT', .slice aK' K.length cK']) ∧ Rw w' w.heap.size aT' cT' aK' cK' T K ∧ Below w.heap.size w w' := by
  obtain ⟨w2, hw2⟩ : ∃ w2, w2 = (w.alloc (Obj.cells #[.slice aT T.length cT, .slice aK K.length cK] 24)).alloc (Obj.cells #[.slice none 0 0, .slice none 0 0] 24) := ⟨_, rfl⟩
  have HB2 : Hid (Below w.heap.size w w2) := by rw [hw2]; exact ((Below.refl _ _).alloc (Nat.le_refl _) _).alloc (by simp) _
  have HA : Hid (OB w2 w.heap.size (.slice aT T.length cT) (.slice aK K.length cK)) := by rw [hw2]; exact (OB.made _ _ _).alloc _
  have HR : Hid (OB w2 (w.heap.size + 1) (.slice none 0 0) (.slice none 0 0)) := by
    rw [hw2]
    have := OB.made (w.alloc (Obj.cells #[.slice aT T.length cT, .slice aK K.length cK] 24)) (.slice none 0 0) (.slice none 0 0)
    rw [show (w.alloc (Obj.cells #[.slice aT T.length cT, .slice aK K.length cK] 24)).heap.size = w.heap.size + 1 by simp] at this
    exact this
  have hs2 : Hid (w2.heap.size = w.heap.size + 2) := by rw [hw2]; show _ = _; simp
  have HT2 := Hid.mk2 (hTl.below HB2.out)
  have HK2 := Hid.mk2 (hKl.below HB2.out)
  have HLT : Hid (T.length ≤ 1000) := by show _ ≤ _; omega
  have HLK : Hid (K.length ≤ 1000) := by show _ ≤ _; omega
  clear hTl hKl
  go_enter Try.func38, Try.ntmps38
  go_upto_region 1 with (fail)
  rw [← hw2]
  clear hw2
  obtain ⟨c0, c1, f0, f1, l0⟩ := HA.out
  obtain ⟨r0, r1, s0, s1, l1⟩ := HR.out
  go_region_with (first
    | (go_at_call 54; refine (clone_any _ aK K cK (HK2.out.below HB3.out) HLK.out).mono ?_; rintro e w4 ⟨vK, rfl, hOK, hb4⟩; obtain ⟨aK', cK', rfl, hK4⟩ := hOK.tl; have HOK := Hid.mk2 hOK; have HB4 := Hid.mk2 hb4; have HR4 := Hid.mk2 (HR3.out.below hb4); clear hOK hb4 hK4 r0 r1 s0 s1 l1; obtain ⟨r0, r1, s0, s1, l1⟩ := HR4.out)
    | (go_at_call 54; refine (clone_any _ aT T cT (by first | exact HT2.out | exact HT2.out.below (Below.refl _ _).drew) HLT.out).mono ?_; rintro e w3 ⟨vT, rfl, hOT, hb3⟩; have HB3 : Hid (Below w2.heap.size w2 w3) := (by first | exact hb3 | exact below_drew0 hb3); have HOT : Hid (OwnTs w3 w2.heap.size vT T) := hOT; obtain ⟨aT', cT', rfl, hT3⟩ := hOT.tl; have HA3 := Hid.mk2 (HA.out.below HB3.out); have HR3 := Hid.mk2 (HR.out.below HB3.out); clear hOT hb3 hT3 c0 c1 f0 f1 l0; obtain ⟨c0, c1, f0, f1, l0⟩ := HA3.out))
  all_goals
    go_wp2
    obtain ⟨q0, q1, _, _, _⟩ := (HR4.out.set0 (.slice aT' T.length cT')).set1 (.slice aK' K.length cK')
    try simp only [Exit.inBlock, Exit.then]
    refine bodyPost_ret (v := .agg #[.slice aT' T.length cT', .slice aK' K.length cK']) (by simp [results, Try.results38, go_sem, q0, q1]) rfl ⟨aT', cT', aK', cK', rfl, ?_, ?_⟩
    · have h1 : OwnTs w4 w.heap.size (.slice aT' T.length cT') T := (HOT.out.below HB4.out).base (by rw [hs2.out]; omega)
      have h2 : OwnTs w4 w.heap.size (.slice aK' K.length cK') K := HOK.out.base (Nat.le_trans (by rw [hs2.out]; omega) HB3.out.size)
      have ap : ∀ g, (Value.slice aT' T.length cT').ownBlock = some g → (Value.slice aK' K.length cK').ownBlock ≠ some g := fun g hg e => by
        have e1 := (HOT.out.lt g hg).2
        have e2 := (HOK.out.lt g e).1
        omega
      have far : ∀ g, (Value.slice aT' T.length cT').ownBlock = some g ∨ (Value.slice aK' K.length cK').ownBlock = some g → g ≠ w.heap.size + 1 := fun g hg => by
        have e0 := hs2.out
        rcases hg with hg | hg
        · have := (HOT.out.lt g hg).1
          omega
        · have := (HOK.out.lt g hg).1
          have := HB3.out.size
          omega
      exact ((Rw.mk h1 h2 ap).set ⟨w.heap.size + 1, 0, none⟩ _ far).set ⟨w.heap.size + 1, 1, none⟩ _ far
    · have hb : Below w.heap.size w w4 := (HB2.out.trans (HB3.out.mono HB2.out.size)).trans (HB4.out.mono (Nat.le_trans HB2.out.size HB3.out.size))
      exact (hb.setCell (by simp) _).setCell (by simp) _
end Go.Proofs.Ytmdlampmoeiihaa
