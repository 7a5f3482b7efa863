/-
  Package lru: the contract of without.
-/
import Derived.Test.YtmdlampmoeiihaaLrTurn
namespace Go.Proofs.Ytmdlampmoeiihaa
open Go.RowKit Go.Shelf Go.Lib Go.Sort
set_option linter.unusedSimpArgs false
set_option linter.unusedVariables false
set_option maxRecDepth 100000

/-- the two blocks that a call begins with: the order, and the answer's cells -/
theorem begin2 (w : World) (x y : Value) : ∃ w2, w2 = (w.alloc (Obj.cells #[x, y] 24)).alloc (Obj.cells #[.slice none 0 0, .slice none 0 0] 24) ∧ Below w.heap.size w w2 ∧ OB w2 w.heap.size x y ∧ OB w2 (w.heap.size + 1) (.slice none 0 0) (.slice none 0 0) ∧ w2.heap.size = w.heap.size + 2 := by
  refine ⟨_, rfl, ((Below.refl _ _).alloc (Nat.le_refl _) _).alloc (by simp) _, (OB.made _ _ _).alloc _, ?_, by simp⟩
  have := OB.made (w.alloc (Obj.cells #[x, y] 24)) (.slice none 0 0) (.slice none 0 0)
  rw [show (w.alloc (Obj.cells #[x, y] 24)).heap.size = w.heap.size + 1 by simp] at this
  exact this
theorem without_bad (T K : List ByteArray) (aT aK : Option Addr) (cT cK : Nat) (key : ByteArray) (w : World) (hTl : Tl w aT T cT) (hKl : Tl w aK K cK) (hT : T.length ≤ 300) (hK : K.length ≤ 300) (hbad : ckw T K key ≠ 0) :
    Calls Try.prog 32 #[.agg #[.slice aT T.length cT, .slice aK K.length cK], .string key] w fun e w' => e = .returned (.tuple #[.agg #[.slice none 0 0, .slice none 0 0], .int .i64 (ckw T K key)]) ∧ Below w.heap.size w w' := by
  obtain ⟨w2, hw2, hb2, hA, hR, hs2⟩ := begin2 w (.slice aT T.length cT) (.slice aK K.length cK)
  have HC := Hid.mk2 (checkWith_any T K aT aK cT cK key w2 (hTl.below hb2) (hKl.below hb2) hT hK)
  obtain ⟨E, hE⟩ : ∃ E, E = ckw T K key := ⟨_, rfl⟩
  rw [← hE] at HC hbad ⊢
  have hE2 : (E != 0) = true := by simpa using hbad
  have hE3 : (E == 0) = false := by simpa using hbad
  have HB2 := Hid.mk2 hb2
  have HR := Hid.mk2 hR
  have HA := Hid.mk2 hA
  clear hTl hKl hT hK hb2 hE hA hR
  go_enter Try.func32, Try.ntmps32
  go_upto_region 1 with (fail)
  rw [← hw2]
  clear hw2
  obtain ⟨c0, c1, f0, f1, l0⟩ := HA.out
  obtain ⟨r0, r1, s0, s1, l1⟩ := HR.out
  go_wp2_with (go_at_call 35; refine HC.out.mono ?_; rintro e w3 ⟨rfl, hb3⟩; have HB3 := Hid.mk2 hb3; clear r0 r1 s0 s1 l1; obtain ⟨r0, r1, s0, s1, l1⟩ := HR.out.below hb3; have HR3 := Hid.mk2 (HR.out.below hb3); clear hb3)
  obtain ⟨q0, q1, _, _, _⟩ := (HR3.out.set0 (.slice none 0 0)).set1 (.slice none 0 0)
  try simp only [Exit.inBlock, Exit.then]
  refine bodyPost_ret (v := .tuple #[.agg #[.slice none 0 0, .slice none 0 0], .int .i64 E]) (by simp [results, Try.results32, go_sem, q0, q1]) rfl ⟨rfl, ?_⟩
  exact ((HB2.out.trans (HB3.out.mono HB2.out.size)).setCell (by simp) _).setCell (by simp) _
/-- an order in block C whose rows were made, the answer's cells in block R -/
structure Lf (w0 w : World) (base C R : Nat) (aT : Option Addr) (cT : Nat) (aK : Option Addr) (cK : Nat) (T K : List ByteArray) : Prop where
  ob : OB w C (.slice aT T.length cT) (.slice aK K.length cK)
  rs : OB w R (.slice none 0 0) (.slice none 0 0)
  rw_ : Rw w base aT cT aK cK T K
  ft : ∀ g, (Value.slice aT T.length cT).ownBlock = some g → g ≠ C ∧ g ≠ R
  fk : ∀ g, (Value.slice aK K.length cK).ownBlock = some g → g ≠ C ∧ g ≠ R
  be : Below base w0 w
  bb : base ≤ C
  ne : C ≠ R
theorem Lf.below {w0 w w' : World} {base C R : Nat} {aT : Option Addr} {cT : Nat} {aK : Option Addr} {cK : Nat} {T K : List ByteArray} (h : Lf w0 w base C R aT cT aK cK T K) (hb : Below w.heap.size w w') : Lf w0 w' base C R aT cT aK cK T K :=
  ⟨h.ob.below hb, h.rs.below hb, h.rw_.below hb, h.ft, h.fk, h.be.trans (hb.mono (by have := h.bb; have := h.ob.lt; omega)), h.bb, h.ne⟩
theorem Lf.chT {w0 w w' : World} {base C R : Nat} {aT : Option Addr} {cT : Nat} {aK : Option Addr} {cK : Nat} {T T' K : List ByteArray} {a' : Option Addr} {c' : Nat} (h : Lf w0 w base C R aT cT aK cK T K)
    (hO : OwnTs w' base (.slice a' T'.length c') T') (hG : Grew w w' (.slice aT T.length cT) (.slice a' T'.length c')) : Lf w0 (w'.setCell ⟨C, 0, none⟩ (.slice a' T'.length c')) base C R a' c' aK cK T' K := by
  have hlt := h.ob.lt
  have hlr := h.rs.lt
  have ft' : ∀ g, (Value.slice a' T'.length c').ownBlock = some g → g ≠ C ∧ g ≠ R := fun g hg => by
    rcases hG.lies g hg with e | e
    · exact h.ft g e
    · omega
  have o1 : OB w' C (.slice aT T.length cT) (.slice aK K.length cK) := h.ob.grown hG.grown (fun e => (h.ft C e).1 rfl)
  have o2 : OB w' R (.slice none 0 0) (.slice none 0 0) := h.rs.grown hG.grown (fun e => (h.ft R e).2 rfl)
  have k1 : OwnTs w' base (.slice aK K.length cK) K := h.rw_.k.grown hG.grown (fun g hg e => h.rw_.ap g e hg)
  refine ⟨o1.set0 _, o2.other _ _ h.ne, ?_, ft', h.fk, ?_, h.bb, h.ne⟩
  · refine (Rw.mk hO k1 (fun g hg e => ?_)).set _ _ (fun g hg => ?_)
    · rcases hG.lies g hg with e2 | e2
      · exact h.rw_.ap g e2 e
      · have := (h.rw_.k.lt g e).2
        omega
    · rcases hg with hg | hg
      · exact (ft' g hg).1
      · exact (h.fk g hg).1
  · exact (h.be.grown hG.grown (by have := h.bb; omega) (fun g hg => (h.rw_.t.lt g hg).1)).setCell h.bb _
theorem Lf.chK {w0 w w' : World} {base C R : Nat} {aT : Option Addr} {cT : Nat} {aK : Option Addr} {cK : Nat} {T K K' : List ByteArray} {a' : Option Addr} {c' : Nat} (h : Lf w0 w base C R aT cT aK cK T K)
    (hO : OwnTs w' base (.slice a' K'.length c') K') (hG : Grew w w' (.slice aK K.length cK) (.slice a' K'.length c')) : Lf w0 (w'.setCell ⟨C, 1, none⟩ (.slice a' K'.length c')) base C R aT cT a' c' T K' := by
  have hlt := h.ob.lt
  have hlr := h.rs.lt
  have fk' : ∀ g, (Value.slice a' K'.length c').ownBlock = some g → g ≠ C ∧ g ≠ R := fun g hg => by
    rcases hG.lies g hg with e | e
    · exact h.fk g e
    · omega
  have o1 : OB w' C (.slice aT T.length cT) (.slice aK K.length cK) := h.ob.grown hG.grown (fun e => (h.fk C e).1 rfl)
  have o2 : OB w' R (.slice none 0 0) (.slice none 0 0) := h.rs.grown hG.grown (fun e => (h.fk R e).2 rfl)
  have t1 : OwnTs w' base (.slice aT T.length cT) T := h.rw_.t.grown hG.grown (fun g hg e => h.rw_.ap g hg e)
  refine ⟨o1.set1 _, o2.other _ _ h.ne, ?_, h.ft, fk', ?_, h.bb, h.ne⟩
  · refine (Rw.mk t1 hO (fun g hg e => ?_)).set _ _ (fun g hg => ?_)
    · rcases hG.lies g e with e2 | e2
      · exact h.rw_.ap g hg e2
      · have := (h.rw_.t.lt g hg).2
        omega
    · rcases hg with hg | hg
      · exact (h.ft g hg).1
      · exact (fk' g hg).1
  · exact (h.be.grown hG.grown (by have := h.bb; omega) (fun g hg => (h.rw_.k.lt g hg).1)).setCell h.bb _
/-- the order is answered -/
theorem Lf.answer {w0 w : World} {base C R : Nat} {aT : Option Addr} {cT : Nat} {aK : Option Addr} {cK : Nat} {T K : List ByteArray} (h : Lf w0 w base C R aT cT aK cK T K) (hr : base ≤ R) :
    Rw ((w.setCell ⟨R, 0, none⟩ (.slice aT T.length cT)).setCell ⟨R, 1, none⟩ (.slice aK K.length cK)) base aT cT aK cK T K ∧ Below base w0 ((w.setCell ⟨R, 0, none⟩ (.slice aT T.length cT)).setCell ⟨R, 1, none⟩ (.slice aK K.length cK)) ∧ OB ((w.setCell ⟨R, 0, none⟩ (.slice aT T.length cT)).setCell ⟨R, 1, none⟩ (.slice aK K.length cK)) R (.slice aT T.length cT) (.slice aK K.length cK) := by
  have far : ∀ g, (Value.slice aT T.length cT).ownBlock = some g ∨ (Value.slice aK K.length cK).ownBlock = some g → g ≠ R := fun g hg => by
    rcases hg with hg | hg
    · exact (h.ft g hg).2
    · exact (h.fk g hg).2
  exact ⟨(h.rw_.set ⟨R, 0, none⟩ _ far).set ⟨R, 1, none⟩ _ far, (h.be.setCell hr _).setCell hr _, (h.rs.set0 _).set1 _⟩
/-- a copy, laid into a new block -/
theorem Lf.begin {w w2 w3 w4 : World} {R b2 b3 : Nat} {aT : Option Addr} {cT : Nat} {aK : Option Addr} {cK : Nat} {T K : List ByteArray} (hb : Below w.heap.size w w4) (hR : OB w3 R (.slice none 0 0) (.slice none 0 0)) (hb4 : Below w3.heap.size w3 w4) (hs : w.heap.size ≤ w3.heap.size) (h : Rw w4 w3.heap.size aT cT aK cK T K) :
    Lf w (w4.alloc (Obj.cells #[.slice aT T.length cT, .slice aK K.length cK] 24)) w.heap.size w4.heap.size R aT cT aK cK T K := by
  have hlr := hR.lt
  have := hb4.size
  refine ⟨OB.made _ _ _, (hR.below hb4).alloc _, (h.below ((Below.refl _ _).alloc (Nat.le_refl _) _)).base hs, fun g hg => ?_, fun g hg => ?_, hb.alloc hb.size _, hb.size, by omega⟩
  · have := h.t.lt g hg
    omega
  · have := h.k.lt g hg
    omega
theorem grew_of {w w' : World} {v v' : Value} (h : w.grownBy w' v.ownBlock) (e : v'.ownBlock = v.ownBlock) : Grew w w' v v' := ⟨h, fun k hk => .inl (e ▸ hk)⟩
set_option maxHeartbeats 1000000 in
theorem without_ok (T K : List ByteArray) (aT aK : Option Addr) (cT cK : Nat) (key : ByteArray) (w : World) (hTl : Tl w aT T cT) (hKl : Tl w aK K cK) (hT : T.length ≤ 300) (hK : K.length ≤ 300) (h0 : ckw T K key = 0) (hnd : (K ++ T).Nodup) (hin : key ∈ K ++ T) :
    Calls Try.prog 32 #[.agg #[.slice aT T.length cT, .slice aK K.length cK], .string key] w fun e w' => ∃ aT' cT' aK' cK', e = .returned (.tuple #[.agg #[.slice aT' (T.erase key).length cT', .slice aK' (K.erase key).length cK'], .int .i64 0]) ∧ Rw w' w.heap.size aT' cT' aK' cK' (T.erase key) (K.erase key) ∧ Below w.heap.size w w' := by
  obtain ⟨w2, hw2, hb2, hA, hR, hs2⟩ := begin2 w (.slice aT T.length cT) (.slice aK K.length cK)
  have HC := Hid.mk2 (checkWith_any T K aT aK cT cK key w2 (hTl.below hb2) (hKl.below hb2) hT hK)
  rw [h0] at HC
  have HCP := Hid.mk2 (fun W (hb : Below w2.heap.size w2 W) => copied_any T K aT aK cT cK W ((hTl.below hb2).below hb) ((hKl.below hb2).below hb) hT hK)
  have HB2 := Hid.mk2 hb2
  have HR := Hid.mk2 hR
  have HA := Hid.mk2 hA
  have HS2 := Hid.mk2 hs2
  have HT3 : Hid (T.length ≤ 300 ∧ K.length ≤ 300) := ⟨hT, hK⟩
  obtain ⟨T', hT'⟩ : ∃ T', T' = T.erase key := ⟨_, rfl⟩
  obtain ⟨K', hK'⟩ : ∃ K', K' = K.erase key := ⟨_, rfl⟩
  rw [← hT', ← hK']
  have HT' := Hid.mk2 hT'
  have HK' := Hid.mk2 hK'
  by_cases hiT : key ∈ T
  · have hiK : key ∉ K := fun h => (List.nodup_append.1 hnd).2.2 key h key hiT rfl
    have hKK : K = K' := by rw [hK', List.erase_of_not_mem hiK]
    have HI := Hid.mk2 hiT
    clear hTl hKl hT hK hb2 hA hR h0 hs2 hnd hin hiT hiK hT' hK'
    subst hKK
    go_enter Try.func32, Try.ntmps32
    go_upto_region 1 with (fail)
    rw [← hw2]
    clear hw2
    obtain ⟨c0, c1, f0, f1, l0⟩ := HA.out
    go_upto_region 5 with (first
      | (go_at_call 38; refine (HCP.out _ HB3.out).mono ?_; rintro e w4 ⟨aX, cX, aY, cY, rfl, hRw, hb4⟩; have HRw := Hid.mk2 hRw; have HB4 := Hid.mk2 hb4; clear hRw hb4)
      | (go_at_call 35; refine HC.out.mono ?_; rintro e w3 ⟨rfl, hb3⟩; have HB3 := Hid.mk2 hb3; clear c0 c1 f0 f1 l0; obtain ⟨c0, c1, f0, f1, l0⟩ := HA.out.below hb3; have HR3 := Hid.mk2 (HR.out.below hb3); clear hb3))
    have HL : Hid (Lf w (w4.alloc (Obj.cells #[.slice aX T.length cX, .slice aY K.length cY] 24)) w.heap.size w4.heap.size (w.heap.size + 1) aX cX aY cY T K) :=
      Lf.begin (w2 := w2) (b2 := 0) (b3 := 0) ((HB2.out.trans (HB3.out.mono HB2.out.size)).trans (HB4.out.mono (Nat.le_trans HB2.out.size HB3.out.size))) HR3.out HB4.out (Nat.le_trans HB2.out.size HB3.out.size) HRw.out
    obtain ⟨W5, hW5⟩ : ∃ W5, W5 = w4.alloc (Obj.cells #[.slice aX T.length cX, .slice aY K.length cY] 24) := ⟨_, rfl⟩
    obtain ⟨C, hC⟩ : ∃ C, C = w4.heap.size := ⟨_, rfl⟩
    rw [← hW5, ← hC] at HL
    rw [← hW5, ← hC]
    clear hW5 hC c0 c1 f0 f1 l0 HB4 HRw HB3 HR3 HCP HC
    obtain ⟨c0, c1, f0, f1, l0⟩ := HL.out.ob
    have HIX := Hid.mk2 (indexOf_any aX T cX key W5 HL.out.rw_.tlT)
    obtain ⟨r0, r1, s0, s1, l1⟩ := HL.out.rs
    go_upto_region 6 with (go_at_call 36; refine HIX.out.mono ?_; rintro e wi ⟨i, rfl, hix, hwi⟩; obtain rfl : wi = W5 := hwi; obtain ⟨j, rfl, hj, hje⟩ := hix.is HI.out; have HJE := Hid.mk2 hje; clear hix hje)
    have hj0 : (0 : Int) ≤ (j : Int) := by omega
    have hjb : (j : Int) ≤ 300 := by have := HT3.out; omega
    have HDL := Hid.mk2 (delete_any wi w.heap.size _ T HL.out.rw_.t j hj ((j : Int) + 1) rfl)
    rw [HJE.out, ← HT'.out] at HDL
    go_wp2_with (go_at_call 51; refine HDL.out.mono ?_; rintro e w7 ⟨v7, rfl, hO7, hG7, hE7⟩; have HO7 := Hid.mk2 hO7; obtain ⟨a7, c7, rfl, hT7⟩ := hO7.tl; have HG7 := Hid.mk2 (grew_of hG7 hE7); clear hO7 hT7 hG7 hE7 c0 c1 f0 f1 l0 r0 r1 s0 s1 l1; have HL7 := Hid.mk2 (HL.out.chT HO7.out HG7.out); obtain ⟨c0, c1, f0, f1, l0⟩ := HL.out.ob.grown HG7.out.grown (fun e => (HL.out.ft _ e).1 rfl); obtain ⟨b0, b1, _, _, _⟩ := HL7.out.ob; obtain ⟨r0, r1, s0, s1, l1⟩ := HL7.out.rs)
    obtain ⟨hRA, hBA, q0, q1, _, _, _⟩ := HL7.out.answer (by omega)
    try simp only [Exit.inBlock, Exit.then]
    exact bodyPost_ret (v := .tuple #[.agg #[.slice a7 T'.length c7, .slice aY K.length cY], .int .i64 0]) (by simp [results, Try.results32, go_sem, q0, q1]) rfl ⟨a7, c7, aY, cY, rfl, hRA, hBA⟩
  · have hiK : key ∈ K := by rcases List.mem_append.1 hin with h | h; exact h; exact absurd h hiT
    have hTT : T = T' := by rw [hT', List.erase_of_not_mem hiT]
    have HI := Hid.mk2 hiT
    have HI2 := Hid.mk2 hiK
    clear hTl hKl hT hK hb2 hA hR h0 hs2 hnd hin hiT hiK hT' hK'
    subst hTT
    go_enter Try.func32, Try.ntmps32
    go_upto_region 1 with (fail)
    rw [← hw2]
    clear hw2
    obtain ⟨c0, c1, f0, f1, l0⟩ := HA.out
    go_upto_region 5 with (first
      | (go_at_call 38; refine (HCP.out _ HB3.out).mono ?_; rintro e w4 ⟨aX, cX, aY, cY, rfl, hRw, hb4⟩; have HRw := Hid.mk2 hRw; have HB4 := Hid.mk2 hb4; clear hRw hb4)
      | (go_at_call 35; refine HC.out.mono ?_; rintro e w3 ⟨rfl, hb3⟩; have HB3 := Hid.mk2 hb3; clear c0 c1 f0 f1 l0; obtain ⟨c0, c1, f0, f1, l0⟩ := HA.out.below hb3; have HR3 := Hid.mk2 (HR.out.below hb3); clear hb3))
    have HL : Hid (Lf w (w4.alloc (Obj.cells #[.slice aX T.length cX, .slice aY K.length cY] 24)) w.heap.size w4.heap.size (w.heap.size + 1) aX cX aY cY T K) :=
      Lf.begin (w2 := w2) (b2 := 0) (b3 := 0) ((HB2.out.trans (HB3.out.mono HB2.out.size)).trans (HB4.out.mono (Nat.le_trans HB2.out.size HB3.out.size))) HR3.out HB4.out (Nat.le_trans HB2.out.size HB3.out.size) HRw.out
    obtain ⟨W5, hW5⟩ : ∃ W5, W5 = w4.alloc (Obj.cells #[.slice aX T.length cX, .slice aY K.length cY] 24) := ⟨_, rfl⟩
    obtain ⟨C, hC⟩ : ∃ C, C = w4.heap.size := ⟨_, rfl⟩
    rw [← hW5, ← hC] at HL
    rw [← hW5, ← hC]
    clear hW5 hC c0 c1 f0 f1 l0 HB4 HRw HB3 HR3 HCP HC
    obtain ⟨c0, c1, f0, f1, l0⟩ := HL.out.ob
    have HIX := Hid.mk2 (indexOf_any aX T cX key W5 HL.out.rw_.tlT)
    have HIY := Hid.mk2 (indexOf_any aY K cY key W5 HL.out.rw_.tlK)
    obtain ⟨r0, r1, s0, s1, l1⟩ := HL.out.rs
    go_upto_region 9 with (go_at_call 36; refine HIX.out.mono ?_; rintro e wi ⟨i, rfl, hix, hwi⟩; obtain rfl : wi = W5 := hwi; obtain rfl := hix.no HI.out; clear hix)
    go_upto_region 10 with (go_at_call 36; refine HIY.out.mono ?_; rintro e wj ⟨i, rfl, hix, hwi⟩; obtain rfl : wj = wi := hwi; obtain ⟨j, rfl, hj, hje⟩ := hix.is HI2.out; have HJE := Hid.mk2 hje; clear hix hje)
    have hj0 : (0 : Int) ≤ (j : Int) := by omega
    have hjb : (j : Int) ≤ 300 := by have := HT3.out; omega
    have HDL := Hid.mk2 (delete_any wj w.heap.size _ K HL.out.rw_.k j hj ((j : Int) + 1) rfl)
    rw [HJE.out, ← HK'.out] at HDL
    go_wp2_with (go_at_call 51; refine HDL.out.mono ?_; rintro e w7 ⟨v7, rfl, hO7, hG7, hE7⟩; have HO7 := Hid.mk2 hO7; obtain ⟨a7, c7, rfl, hT7⟩ := hO7.tl; have HG7 := Hid.mk2 (grew_of hG7 hE7); clear hO7 hT7 hG7 hE7 c0 c1 f0 f1 l0 r0 r1 s0 s1 l1; have HL7 := Hid.mk2 (HL.out.chK HO7.out HG7.out); obtain ⟨c0, c1, f0, f1, l0⟩ := HL.out.ob.grown HG7.out.grown (fun e => (HL.out.fk _ e).1 rfl); obtain ⟨b0, b1, _, _, _⟩ := HL7.out.ob; obtain ⟨r0, r1, s0, s1, l1⟩ := HL7.out.rs)
    obtain ⟨hRA, hBA, q0, q1, _, _, _⟩ := HL7.out.answer (by omega)
    try simp only [Exit.inBlock, Exit.then]
    exact bodyPost_ret (v := .tuple #[.agg #[.slice aX T.length cX, .slice a7 K'.length c7], .int .i64 0]) (by simp [results, Try.results32, go_sem, q0, q1]) rfl ⟨aX, cX, a7, c7, rfl, hRA, hBA⟩
set_option maxHeartbeats 1000000 in
theorem without_none (T K : List ByteArray) (aT aK : Option Addr) (cT cK : Nat) (key : ByteArray) (w : World) (hTl : Tl w aT T cT) (hKl : Tl w aK K cK) (hT : T.length ≤ 300) (hK : K.length ≤ 300) (h0 : ckw T K key = 0) (hin : key ∉ K ++ T) :
    Calls Try.prog 32 #[.agg #[.slice aT T.length cT, .slice aK K.length cK], .string key] w fun e w' => e = .returned (.tuple #[.agg #[.slice none 0 0, .slice none 0 0], .int .i64 6]) ∧ Below w.heap.size w w' := by
  obtain ⟨w2, hw2, hb2, hA, hR, hs2⟩ := begin2 w (.slice aT T.length cT) (.slice aK K.length cK)
  have HC := Hid.mk2 (checkWith_any T K aT aK cT cK key w2 (hTl.below hb2) (hKl.below hb2) hT hK)
  rw [h0] at HC
  have HCP := Hid.mk2 (fun W (hb : Below w2.heap.size w2 W) => copied_any T K aT aK cT cK W ((hTl.below hb2).below hb) ((hKl.below hb2).below hb) hT hK)
  have HB2 := Hid.mk2 hb2
  have HR := Hid.mk2 hR
  have HA := Hid.mk2 hA
  have HI : Hid (key ∉ T) := fun h => hin (List.mem_append.2 (.inr h))
  have HI2 : Hid (key ∉ K) := fun h => hin (List.mem_append.2 (.inl h))
  clear hTl hKl hT hK hb2 hA hR h0 hs2 hin
  go_enter Try.func32, Try.ntmps32
  go_upto_region 1 with (fail)
  rw [← hw2]
  clear hw2
  obtain ⟨c0, c1, f0, f1, l0⟩ := HA.out
  go_upto_region 5 with (first
    | (go_at_call 38; refine (HCP.out _ HB3.out).mono ?_; rintro e w4 ⟨aX, cX, aY, cY, rfl, hRw, hb4⟩; have HRw := Hid.mk2 hRw; have HB4 := Hid.mk2 hb4; clear hRw hb4)
    | (go_at_call 35; refine HC.out.mono ?_; rintro e w3 ⟨rfl, hb3⟩; have HB3 := Hid.mk2 hb3; clear c0 c1 f0 f1 l0; obtain ⟨c0, c1, f0, f1, l0⟩ := HA.out.below hb3; have HR3 := Hid.mk2 (HR.out.below hb3); clear hb3))
  have HL : Hid (Lf w (w4.alloc (Obj.cells #[.slice aX T.length cX, .slice aY K.length cY] 24)) w.heap.size w4.heap.size (w.heap.size + 1) aX cX aY cY T K) :=
    Lf.begin (w2 := w2) (b2 := 0) (b3 := 0) ((HB2.out.trans (HB3.out.mono HB2.out.size)).trans (HB4.out.mono (Nat.le_trans HB2.out.size HB3.out.size))) HR3.out HB4.out (Nat.le_trans HB2.out.size HB3.out.size) HRw.out
  obtain ⟨W5, hW5⟩ : ∃ W5, W5 = w4.alloc (Obj.cells #[.slice aX T.length cX, .slice aY K.length cY] 24) := ⟨_, rfl⟩
  obtain ⟨C, hC⟩ : ∃ C, C = w4.heap.size := ⟨_, rfl⟩
  rw [← hW5, ← hC] at HL
  rw [← hW5, ← hC]
  clear hW5 hC c0 c1 f0 f1 l0 HB4 HRw HB3 HR3 HCP HC
  obtain ⟨c0, c1, f0, f1, l0⟩ := HL.out.ob
  have HIX := Hid.mk2 (indexOf_any aX T cX key W5 HL.out.rw_.tlT)
  have HIY := Hid.mk2 (indexOf_any aY K cY key W5 HL.out.rw_.tlK)
  obtain ⟨r0, r1, s0, s1, l1⟩ := HL.out.rs
  go_upto_region 9 with (go_at_call 36; refine HIX.out.mono ?_; rintro e wi ⟨i, rfl, hix, hwi⟩; obtain rfl : wi = W5 := hwi; obtain rfl := hix.no HI.out; clear hix)
  go_wp2_with (go_at_call 36; refine HIY.out.mono ?_; rintro e wj ⟨i, rfl, hix, hwi⟩; obtain rfl : wj = wi := hwi; obtain rfl := hix.no HI2.out; clear hix)
  obtain ⟨q0, q1, _, _, _⟩ := (HL.out.rs.set0 (.slice none 0 0)).set1 (.slice none 0 0)
  try simp only [Exit.inBlock, Exit.then]
  exact bodyPost_ret (v := .tuple #[.agg #[.slice none 0 0, .slice none 0 0], .int .i64 6]) (by simp [results, Try.results32, go_sem, q0, q1]) rfl ⟨rfl, (HL.out.be.setCell (by show w.heap.size ≤ w.heap.size + 1; omega) _).setCell (by show w.heap.size ≤ w.heap.size + 1; omega) _⟩
end Go.Proofs.Ytmdlampmoeiihaa
