/-
  Contract of Take, the rest.
-/
import Derived.Test.YtkcgleahbhmggaaSbTake
namespace Go.Proofs.Ytkcgleahbhmggaa
open Go.RowKit
set_option linter.unusedSimpArgs false
set_option linter.unusedVariables false
set_option maxRecDepth 100000

theorem take_full (w : World) (ao : Option Addr) (ps : List Pg) (cap : Nat) (h : Sb w ao ps cap) (t c q : Int) (ho : sOk ps = true) (ht : isT t = true) (hc : isC c = true) (hq : isQ q = true) (hp : place ps t c q = none) :
    Calls Try.prog 26 #[.agg #[.slice ao ps.length cap], .int .i64 t, .int .i64 c, .int .i64 q] w fun e w' => e = .returned (.tuple #[.agg #[.slice none 0 0], .int .i64 0, .int .i64 0, .int .i64 9]) ∧ Below w.heap.size w w' := by
  have HCT := Hid.mk2 (fun W (hb : Below w.heap.size w W) => checkTenant_any W ao ps cap (h.below hb) t)
  rw [show tE ps t = 0 by unfold tE; rw [ho, ht]; rfl] at HCT
  have hlen := sOk_len ho
  have hic := fun W => isClass_any c W
  have HRM := Hid.mk2 (fun W (hb : Below w.heap.size w W) => room_any W ao ps cap (h.below hb) (by omega) t c hc)
  have HOW := Hid.mk2 (fun W (hb : Below w.heap.size w W) => owned_any W ao ps cap (h.below hb) (by omega) t)
  have HFP := Hid.mk2 (fun W (hb : Below w.heap.size w W) => freePage_any W ao ps cap (h.below hb) (by omega))
  have hq0 : decide (q < 0) = false := by simp [isQ] at hq; simp; omega
  have hq1 : decide (16 < q) = false := by simp [isQ] at hq; simp; omega
  rw [hc] at hic
  obtain ⟨hr, hp2⟩ := place_none hp
  rw [hr] at HRM
  simp only [optP, optK, Option.isSome_none] at HRM
  obtain ⟨O, hO⟩ : ∃ O, O = owned ps t := ⟨_, rfl⟩
  rw [← hO] at HOW hp2
  clear hp hr hO h ho ht hc hq
  by_cases hlt : (O : Int) < q
  · have hlt2 : decide ((O : Int) < q) = true := by simp [hlt]
    have hf : freeP ps = none := by
      rcases hp2 with h | h
      · exact absurd hlt h
      · exact h
    rw [hf] at HFP
    simp only [optI, Option.isSome_none] at HFP
    clear hp2 hf
    go_enter Try.func26, Try.ntmps26
    go_upto_region 1 with (fail)
    obtain ⟨w0, hw0⟩ : ∃ w0, w0 = (w.alloc (Obj.cells #[Value.slice ao ps.length cap] 33)).alloc (Obj.cells #[Value.slice none 0 0] 33) := ⟨_, rfl⟩
    rw [← hw0]
    have T0 : TK w w0 (.slice ao ps.length cap) := by rw [hw0]; exact TK.begin _ _ _ _
    have a0 := T0.c0
    have x0 := T0.x0
    have HT0 := Hid.mk2 T0
    clear hw0 T0
    go_wp2_with (first
      | (go_at_call 54; refine (HCT.out _ HT0.out.below).mono ?_; rintro e w1 ⟨rfl, hb1⟩; have T1 := HT0.out.step hb1; have a1 := T1.c0; have b1 := T1.c1; have f1 := T1.f1; have x1 := T1.x0; have y1 := T1.x1; have HT1 := Hid.mk2 T1; clear T1 hb1 a0 x0)
      | (go_at_call 56; refine (hic _).mono ?_; rintro e w2 ⟨rfl, hwq⟩; obtain rfl : w1 = w2 := hwq.symm)
      | (go_at_call 57; refine (HRM.out _ HT1.out.below).mono ?_; rintro e w2 ⟨rfl, hb2⟩; have T2 := HT1.out.step hb2; have a2 := T2.c0; have b2 := T2.c1; have f2 := T2.f1; have x2 := T2.x0; have y2 := T2.x1; have HT2 := Hid.mk2 T2; clear T2 hb2 a1 x1 b1 f1 y1)
      | (go_at_call 55; refine (HOW.out _ HT2.out.below).mono ?_; rintro e w3 ⟨rfl, hb3⟩; have T3 := HT2.out.step hb3; have a3 := T3.c0; have b3 := T3.c1; have f3 := T3.f1; have x3 := T3.x0; have y3 := T3.x1; have HT3 := Hid.mk2 T3; clear T3 hb3 a2 x2 b2 f2 y2)
      | (go_at_call 58; refine (HFP.out _ HT3.out.below).mono ?_; rintro e w4 ⟨rfl, hb4⟩; have T4 := HT3.out.step hb4; have a4 := T4.c0; have b4 := T4.c1; have f4 := T4.f1; have x4 := T4.x0; have y4 := T4.x1; have HT4 := Hid.mk2 T4; clear T4 hb4 a3 x3 b3 f3 y3))
    have z0 : (w4.setCell ⟨w.heap.size + 1, 0, none⟩ (.slice none 0 0)).cell? ⟨w.heap.size + 1, 0, none⟩ = some (.slice none 0 0) := World.cell?_setCell_same _ _ _ b4
    try simp only [Exit.inBlock, Exit.then]
    exact bodyPost_ret (v := .tuple #[.agg #[.slice none 0 0], .int .i64 0, .int .i64 0, .int .i64 9]) (by simp [results, Try.results26, go_sem, z0]) rfl ⟨rfl, HT4.out.below.setCell (by simp) _⟩
  · have hlt2 : decide ((O : Int) < q) = false := by simp; omega
    clear hp2
    go_enter Try.func26, Try.ntmps26
    go_upto_region 1 with (fail)
    obtain ⟨w0, hw0⟩ : ∃ w0, w0 = (w.alloc (Obj.cells #[Value.slice ao ps.length cap] 33)).alloc (Obj.cells #[Value.slice none 0 0] 33) := ⟨_, rfl⟩
    rw [← hw0]
    have T0 : TK w w0 (.slice ao ps.length cap) := by rw [hw0]; exact TK.begin _ _ _ _
    have a0 := T0.c0
    have x0 := T0.x0
    have HT0 := Hid.mk2 T0
    clear hw0 T0
    go_wp2_with (first
      | (go_at_call 54; refine (HCT.out _ HT0.out.below).mono ?_; rintro e w1 ⟨rfl, hb1⟩; have T1 := HT0.out.step hb1; have a1 := T1.c0; have b1 := T1.c1; have f1 := T1.f1; have x1 := T1.x0; have y1 := T1.x1; have HT1 := Hid.mk2 T1; clear T1 hb1 a0 x0)
      | (go_at_call 56; refine (hic _).mono ?_; rintro e w2 ⟨rfl, hwq⟩; obtain rfl : w1 = w2 := hwq.symm)
      | (go_at_call 57; refine (HRM.out _ HT1.out.below).mono ?_; rintro e w2 ⟨rfl, hb2⟩; have T2 := HT1.out.step hb2; have a2 := T2.c0; have b2 := T2.c1; have f2 := T2.f1; have x2 := T2.x0; have y2 := T2.x1; have HT2 := Hid.mk2 T2; clear T2 hb2 a1 x1 b1 f1 y1)
      | (go_at_call 55; refine (HOW.out _ HT2.out.below).mono ?_; rintro e w3 ⟨rfl, hb3⟩; have T3 := HT2.out.step hb3; have a3 := T3.c0; have b3 := T3.c1; have f3 := T3.f1; have x3 := T3.x0; have y3 := T3.x1; have HT3 := Hid.mk2 T3; clear T3 hb3 a2 x2 b2 f2 y2))
    have z0 : (w3.setCell ⟨w.heap.size + 1, 0, none⟩ (.slice none 0 0)).cell? ⟨w.heap.size + 1, 0, none⟩ = some (.slice none 0 0) := World.cell?_setCell_same _ _ _ b3
    try simp only [Exit.inBlock, Exit.then]
    exact bodyPost_ret (v := .tuple #[.agg #[.slice none 0 0], .int .i64 0, .int .i64 0, .int .i64 9]) (by simp [results, Try.results26, go_sem, z0]) rfl ⟨rfl, HT3.out.below.setCell (by simp) _⟩
set_option maxHeartbeats 2000000 in
theorem take_good (w : World) (ao : Option Addr) (ps : List Pg) (cap : Nat) (h : Sb w ao ps cap) (t c q : Int) (ho : sOk ps = true) (ht : isT t = true) (hc : isC c = true) (hq : isQ q = true) (i k : Nat) (hp : place ps t c q = some (i, k)) :
    Calls Try.prog 26 #[.agg #[.slice ao ps.length cap], .int .i64 t, .int .i64 c, .int .i64 q] w fun e w' => ∃ v', e = .returned (.tuple #[.agg #[v'], .int .i64 i, .int .i64 k, .int .i64 0]) ∧ FreshS w' w.heap.size v' (ps.set i (taken ps t c i k)) ∧ Below w.heap.size w w' := by
  obtain ⟨hi, hk, hbt, _⟩ := place_lt hc hp
  have hk16 : k < 16 := by have := chunks_le hc; omega
  have HCT := Hid.mk2 (fun W (hb : Below w.heap.size w W) => checkTenant_any W ao ps cap (h.below hb) t)
  rw [show tE ps t = 0 by unfold tE; rw [ho, ht]; rfl] at HCT
  have hlen := sOk_len ho
  have hic := fun W => isClass_any c W
  have HRM := Hid.mk2 (fun W (hb : Below w.heap.size w W) => room_any W ao ps cap (h.below hb) (by omega) t c hc)
  have HOW := Hid.mk2 (fun W (hb : Below w.heap.size w W) => owned_any W ao ps cap (h.below hb) (by omega) t)
  have HFP := Hid.mk2 (fun W (hb : Below w.heap.size w W) => freePage_any W ao ps cap (h.below hb) (by omega))
  have hq0 : decide (q < 0) = false := by simp [isQ] at hq; simp; omega
  have hq1 : decide (16 < q) = false := by simp [isQ] at hq; simp; omega
  rw [hc] at hic
  have hsome := place_some hp
  obtain ⟨P, hP⟩ : ∃ P, P = taken ps t c i k := ⟨_, rfl⟩
  have hPt : P.t = t := by rw [hP]; rfl
  have hPc : P.c = c := by rw [hP]; rfl
  have hPu : P.u = ps[i].u ||| 2 ^ k := by rw [hP]; show ((ps[i]?.getD pz).u ||| 2 ^ k) % 65536 = _; rw [List.getElem?_eq_getElem hi]; exact or_mod ps[i].hu hk16
  rw [← hP]
  have HPt := Hid.mk2 hPt
  have HPc := Hid.mk2 hPc
  have HPu := Hid.mk2 hPu
  have HSB := Hid.mk2 h
  obtain ⟨b, off, rfl, hbl, hcs⟩ := h.lies (by intro e; rw [e] at hlen; simp at hlen)
  have HC := Hid.mk2 hcs
  have hbit := fun W => bit_any k W hk16
  clear hp hP hPt hPc hPu hcs ho ht hc hq hk hbt h
  rcases hsome with hr | ⟨hr, hlt, hf, hk0⟩
  · rw [hr] at HRM
    simp only [optP, optK, Option.isSome_some] at HRM
    have hor : bits BinOp.or IntKind.u16 (ps[i].u : Int) (2 ^ k) = (P.u : Int) := by
      have h := u16_or_nat ps[i].u (2 ^ k) ps[i].hu (pow_lt16 hk16)
      rw [← HPu.out] at h
      simpa using h
    clear hr HOW HFP
    go_enter Try.func26, Try.ntmps26
    go_upto_region 1 with (fail)
    obtain ⟨w0, hw0⟩ : ∃ w0, w0 = (w.alloc (Obj.cells #[Value.slice (some ⟨b, off, none⟩) ps.length cap] 33)).alloc (Obj.cells #[Value.slice none 0 0] 33) := ⟨_, rfl⟩
    rw [← hw0]
    have T0 : TK w w0 (.slice (some ⟨b, off, none⟩) ps.length cap) := by rw [hw0]; exact TK.begin _ _ _ _
    have a0 := T0.c0
    have x0 := T0.x0
    have HT0 := Hid.mk2 T0
    clear hw0 T0
    go_upto_region 11 with (first
      | (go_at_call 54; refine (HCT.out _ HT0.out.below).mono ?_; rintro e w1 ⟨rfl, hb1⟩; have T1 := HT0.out.step hb1; have a1 := T1.c0; have b1 := T1.c1; have f1 := T1.f1; have x1 := T1.x0; have y1 := T1.x1; have HT1 := Hid.mk2 T1; clear T1 hb1 a0 x0)
      | (go_at_call 56; refine (hic _).mono ?_; rintro e w2 ⟨rfl, hwq⟩; obtain rfl : w1 = w2 := hwq.symm)
      | (go_at_call 57; refine (HRM.out _ HT1.out.below).mono ?_; rintro e w2 ⟨rfl, hb2⟩; have T2 := HT1.out.step hb2; have a2 := T2.c0; have b2 := T2.c1; have f2 := T2.f1; have x2 := T2.x0; have y2 := T2.x1; have HT2 := Hid.mk2 T2; clear T2 hb2 a1 x1 b1 f1 y1))
    have HCP := Hid.mk2 (scopied_any w2 _ ps cap (HSB.out.below HT2.out.below) (by intro e; rw [e] at hlen; simp at hlen) (by omega))
    go_upto_region 12 with (go_at_call 59; refine HCP.out.mono ?_; rintro e w7 ⟨g, rfl, hg7, hr7, hb7⟩; have T7 := HT2.out.step hb7; have a7 := T7.c0; have b7 := T7.c1; have f7 := T7.f1; have x7 := T7.x0; have y7 := T7.x1; have HT7 := Hid.mk2 T7; have HR7 := Hid.mk2 hr7; clear T7 hb7 hr7)
    have hgw : w.heap.size + 1 < g := by have := HT2.out.x1; omega
    have hg8 : g < w7.heap.size := (Array.getElem?_eq_some_iff.1 HR7.out).1
    obtain ⟨w8, hw8⟩ : ∃ w8, w8 = w7.setCell ⟨w.heap.size + 1, 0, none⟩ (.slice (some ⟨g, 0, none⟩) ps.length ps.length) := ⟨_, rfl⟩
    rw [← hw8]
    have hr8 : w8.heap[g]? = some (.cells (ps.flatMap pcells).toArray 30 (0, 0)) := by rw [hw8]; exact (Below.heap_setCell w7 ⟨w.heap.size + 1, 0, none⟩ _ g (by show g ≠ w.heap.size + 1; omega)).trans HR7.out
    have hgr8 : w7.grownBy w8 (some (w.heap.size + 1)) := by rw [hw8]; exact grown_set _ _ _ _
    have a8 : w8.cell? ⟨w.heap.size, 0, none⟩ = some (.slice (some ⟨b, off, none⟩) ps.length cap) := hgr8.cell (a := ⟨w.heap.size, 0, none⟩) a7 (by intro e; have := Option.some.inj e; simp at this)
    have b8 : w8.cell? ⟨w.heap.size + 1, 0, none⟩ = some (.slice (some ⟨g, 0, none⟩) ps.length ps.length) := by rw [hw8]; exact World.cell?_setCell_same _ _ _ b7
    have f8 : w8.frozen? ⟨w.heap.size + 1, 0, none⟩ = false := by rw [hw8]; simpa using f7
    have hs8 : w8.heap.size = w7.heap.size := by rw [hw8]; simp
    have HB8 := Hid.mk2 (HT7.out.below.grown hgr8 (by omega) (fun k hk => by cases hk; omega))
    obtain ⟨q0, q1, q2⟩ := (HC.out i hi).below HB8.out hbl
    have F8 := row_pages (base := w.heap.size) hr8 (by omega) (by omega)
    obtain ⟨_, _, e8, _, _, _, hF8⟩ := F8
    cases e8
    rcases hF8 with hn | ⟨g', e8, _, _, hf8, hL8⟩
    · rw [hn] at hlen; simp at hlen
    cases e8
    obtain ⟨r0, r1, r2⟩ := hL8 i hi
    have HL8 := Hid.mk2 hL8
    have HF8 := Hid.mk2 hf8
    have h0 := hf8 (i * 3)
    have h1 := hf8 (i * 3 + 1)
    have h2 := hf8 (i * 3 + 2)
    have hgs : g < w8.heap.size := by omega
    have hbs : b < w8.heap.size := by omega
    have z8 : w.heap.size + 1 < w8.heap.size := by omega
    have z9 : w.heap.size < w8.heap.size := by omega
    have hset := set3_lies (n := 0) hi HL8.out P
    rw [HPt.out, HPc.out] at hset
    have HW := Hid.mk2 (fun w9 hw9 => take_end (w := w) (w8 := w8) (w9 := w9) (g := g) (i := i) (t := t) (c := c) (p := P) (b := .slice (some ⟨g, 0, none⟩) ps.length ps.length) hw9 HB8.out (by omega) hgs b8 f8 HF8.out hset)
    clear hw8 hr8 hgr8 hL8 hf8 a7 b7 f7 x7 y7 HR7 hg7 hs8 hset
    go_wp2
    go_region_law
      (go_simp; go_at_call 60; refine (hbit _).mono ?_; rintro e w9 ⟨rfl, hwq⟩; obtain rfl := hwq)
    all_goals
      obtain ⟨w9, hw9⟩ : ∃ w9, w9 = (((w8.setCell ⟨g, i * 3, none⟩ (.int .i64 t)).setCell ⟨g, i * 3 + 1, none⟩ (.int .i64 c)).setCell ⟨g, i * 3 + 2, none⟩ (.int .u16 (P.u : Int))).drew := ⟨_, rfl⟩
      rw [← hw9]
      obtain ⟨b9, f9, y9, HB9, HF9⟩ := HW.out w9 hw9
      clear hw9
      go_wp2
      have z0 : (w9.setCell ⟨w.heap.size + 1, 0, none⟩ (.slice (some ⟨g, 0, none⟩) ps.length ps.length)).cell? ⟨w.heap.size + 1, 0, none⟩ = some (.slice (some ⟨g, 0, none⟩) ps.length ps.length) := World.cell?_setCell_same _ _ _ b9
      try simp only [Exit.inBlock, Exit.then]
      refine bodyPost_ret (v := .tuple #[.agg #[.slice (some ⟨g, 0, none⟩) ps.length ps.length], .int .i64 i, .int .i64 k, .int .i64 0]) (by simp [results, Try.results26, go_sem, z0]) rfl ⟨_, rfl, ?_, HB9.out.setCell (by simp) _⟩
      exact fresh_end HF9.out (by omega) (by omega) (by simp)
  · rw [hr] at HRM
    simp only [optP, optK, Option.isSome_none] at HRM
    rw [hf] at HFP
    simp only [optI, Option.isSome_some] at HFP
    obtain ⟨O, hO⟩ : ∃ O, O = owned ps t := ⟨_, rfl⟩
    rw [← hO] at HOW hlt
    have hlt2 : decide ((O : Int) < q) = true := by simp [hlt]
    subst hk0
    have hor : bits BinOp.or IntKind.u16 (ps[i].u : Int) 1 = (P.u : Int) := by
      have h := u16_or_nat ps[i].u 1 ps[i].hu (by decide)
      have e := HPu.out
      rw [Nat.pow_zero] at e
      rw [← e] at h
      simpa using h
    clear hr hf hO
    go_enter Try.func26, Try.ntmps26
    go_upto_region 1 with (fail)
    obtain ⟨w0, hw0⟩ : ∃ w0, w0 = (w.alloc (Obj.cells #[Value.slice (some ⟨b, off, none⟩) ps.length cap] 33)).alloc (Obj.cells #[Value.slice none 0 0] 33) := ⟨_, rfl⟩
    rw [← hw0]
    have T0 : TK w w0 (.slice (some ⟨b, off, none⟩) ps.length cap) := by rw [hw0]; exact TK.begin _ _ _ _
    have a0 := T0.c0
    have x0 := T0.x0
    have HT0 := Hid.mk2 T0
    clear hw0 T0
    go_upto_region 11 with (first
      | (go_at_call 54; refine (HCT.out _ HT0.out.below).mono ?_; rintro e w1 ⟨rfl, hb1⟩; have T1 := HT0.out.step hb1; have a1 := T1.c0; have b1 := T1.c1; have f1 := T1.f1; have x1 := T1.x0; have y1 := T1.x1; have HT1 := Hid.mk2 T1; clear T1 hb1 a0 x0)
      | (go_at_call 56; refine (hic _).mono ?_; rintro e w2 ⟨rfl, hwq⟩; obtain rfl : w1 = w2 := hwq.symm)
      | (go_at_call 57; refine (HRM.out _ HT1.out.below).mono ?_; rintro e w2 ⟨rfl, hb2⟩; have T2 := HT1.out.step hb2; have a2 := T2.c0; have b2 := T2.c1; have f2 := T2.f1; have x2 := T2.x0; have y2 := T2.x1; have HT2 := Hid.mk2 T2; clear T2 hb2 a1 x1 b1 f1 y1)
      | (go_at_call 55; refine (HOW.out _ HT2.out.below).mono ?_; rintro e w3 ⟨rfl, hb3⟩; have T3 := HT2.out.step hb3; have a3 := T3.c0; have b3 := T3.c1; have f3 := T3.f1; have x3 := T3.x0; have y3 := T3.x1; have HT3 := Hid.mk2 T3; clear T3 hb3 a2 x2 b2 f2 y2)
      | (go_at_call 58; refine (HFP.out _ HT3.out.below).mono ?_; rintro e w4 ⟨rfl, hb4⟩; have T4 := HT3.out.step hb4; have a4 := T4.c0; have b4 := T4.c1; have f4 := T4.f1; have x4 := T4.x0; have y4 := T4.x1; have HT4 := Hid.mk2 T4; clear T4 hb4 a3 x3 b3 f3 y3))
    have HCP := Hid.mk2 (scopied_any w4 _ ps cap (HSB.out.below HT4.out.below) (by intro e; rw [e] at hlen; simp at hlen) (by omega))
    go_upto_region 12 with (go_at_call 59; refine HCP.out.mono ?_; rintro e w7 ⟨g, rfl, hg7, hr7, hb7⟩; have T7 := HT4.out.step hb7; have a7 := T7.c0; have b7 := T7.c1; have f7 := T7.f1; have x7 := T7.x0; have y7 := T7.x1; have HT7 := Hid.mk2 T7; have HR7 := Hid.mk2 hr7; clear T7 hb7 hr7)
    have hgw : w.heap.size + 1 < g := by have := HT4.out.x1; omega
    have hg8 : g < w7.heap.size := (Array.getElem?_eq_some_iff.1 HR7.out).1
    obtain ⟨w8, hw8⟩ : ∃ w8, w8 = w7.setCell ⟨w.heap.size + 1, 0, none⟩ (.slice (some ⟨g, 0, none⟩) ps.length ps.length) := ⟨_, rfl⟩
    rw [← hw8]
    have hr8 : w8.heap[g]? = some (.cells (ps.flatMap pcells).toArray 30 (0, 0)) := by rw [hw8]; exact (Below.heap_setCell w7 ⟨w.heap.size + 1, 0, none⟩ _ g (by show g ≠ w.heap.size + 1; omega)).trans HR7.out
    have hgr8 : w7.grownBy w8 (some (w.heap.size + 1)) := by rw [hw8]; exact grown_set _ _ _ _
    have a8 : w8.cell? ⟨w.heap.size, 0, none⟩ = some (.slice (some ⟨b, off, none⟩) ps.length cap) := hgr8.cell (a := ⟨w.heap.size, 0, none⟩) a7 (by intro e; have := Option.some.inj e; simp at this)
    have b8 : w8.cell? ⟨w.heap.size + 1, 0, none⟩ = some (.slice (some ⟨g, 0, none⟩) ps.length ps.length) := by rw [hw8]; exact World.cell?_setCell_same _ _ _ b7
    have f8 : w8.frozen? ⟨w.heap.size + 1, 0, none⟩ = false := by rw [hw8]; simpa using f7
    have hs8 : w8.heap.size = w7.heap.size := by rw [hw8]; simp
    have HB8 := Hid.mk2 (HT7.out.below.grown hgr8 (by omega) (fun k hk => by cases hk; omega))
    obtain ⟨q0, q1, q2⟩ := (HC.out i hi).below HB8.out hbl
    have F8 := row_pages (base := w.heap.size) hr8 (by omega) (by omega)
    obtain ⟨_, _, e8, _, _, _, hF8⟩ := F8
    cases e8
    rcases hF8 with hn | ⟨g', e8, _, _, hf8, hL8⟩
    · rw [hn] at hlen; simp at hlen
    cases e8
    obtain ⟨r0, r1, r2⟩ := hL8 i hi
    have HL8 := Hid.mk2 hL8
    have HF8 := Hid.mk2 hf8
    have h0 := hf8 (i * 3)
    have h1 := hf8 (i * 3 + 1)
    have h2 := hf8 (i * 3 + 2)
    have hgs : g < w8.heap.size := by omega
    have hbs : b < w8.heap.size := by omega
    have z8 : w.heap.size + 1 < w8.heap.size := by omega
    have z9 : w.heap.size < w8.heap.size := by omega
    have hset := set3_lies (n := 0) hi HL8.out P
    rw [HPt.out, HPc.out] at hset
    have HW := Hid.mk2 (fun w9 hw9 => take_end (w := w) (w8 := w8) (w9 := w9) (g := g) (i := i) (t := t) (c := c) (p := P) (b := .slice (some ⟨g, 0, none⟩) ps.length ps.length) hw9 HB8.out (by omega) hgs b8 f8 HF8.out hset)
    clear hw8 hr8 hgr8 hL8 hf8 a7 b7 f7 x7 y7 HR7 hg7 hs8 hset
    go_wp2
    go_region_law
      (go_simp; go_at_call 60; refine (hbit _).mono ?_; rintro e w9 ⟨rfl, hwq⟩; obtain rfl := hwq)
    all_goals
      obtain ⟨w9, hw9⟩ : ∃ w9, w9 = (((w8.setCell ⟨g, i * 3, none⟩ (.int .i64 t)).setCell ⟨g, i * 3 + 1, none⟩ (.int .i64 c)).setCell ⟨g, i * 3 + 2, none⟩ (.int .u16 (P.u : Int))).drew := ⟨_, rfl⟩
      rw [← hw9]
      obtain ⟨b9, f9, y9, HB9, HF9⟩ := HW.out w9 hw9
      clear hw9
      go_wp2
      have z0 : (w9.setCell ⟨w.heap.size + 1, 0, none⟩ (.slice (some ⟨g, 0, none⟩) ps.length ps.length)).cell? ⟨w.heap.size + 1, 0, none⟩ = some (.slice (some ⟨g, 0, none⟩) ps.length ps.length) := World.cell?_setCell_same _ _ _ b9
      try simp only [Exit.inBlock, Exit.then]
      refine bodyPost_ret (v := .tuple #[.agg #[.slice (some ⟨g, 0, none⟩) ps.length ps.length], .int .i64 i, .int .i64 0, .int .i64 0]) (by simp [results, Try.results26, go_sem, z0]) rfl ⟨_, rfl, ?_, HB9.out.setCell (by simp) _⟩
      exact fresh_end HF9.out (by omega) (by omega) (by simp)
end Go.Proofs.Ytkcgleahbhmggaa
