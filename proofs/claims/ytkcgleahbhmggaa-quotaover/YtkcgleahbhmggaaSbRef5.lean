/-
  Contract of the document's Take.
-/
import Derived.Test.YtkcgleahbhmggaaSbRef4
namespace Go.Proofs.Ytkcgleahbhmggaa
open Go.RowKit
set_option linter.unusedSimpArgs false
set_option linter.unusedVariables false
set_option maxRecDepth 100000

theorem wrap_pow {k : Nat} (hk : k < 16) : IntKind.u16.wrap (2 ^ k) = 2 ^ k := by
  have h := pow_lt16 hk
  rw [IntKind.wrap_u16]
  have e : (2 ^ k : Int) = ((2 ^ k : Nat) : Int) := by simp
  rw [e]
  obtain ⟨y, hy⟩ : ∃ y, y = 2 ^ k := ⟨_, rfl⟩
  rw [← hy] at h ⊢
  rw [Int.emod_eq_of_lt (by omega) (by omega)]
theorem wrap_nat {n : Nat} (h : n < 65536) : IntKind.u16.wrap (n : Int) = n := by
  rw [IntKind.wrap_u16, Int.emod_eq_of_lt (by omega) (by omega)]
theorem rtake_bad8 (w : World) (ao : Option Addr) (ps : List Pg) (cap : Nat) (h : Sb w ao ps cap) (t c q : Int) (ho : sOk ps = false) :
    Calls Try.prog 38 #[.agg #[.slice ao ps.length cap], .int .i64 t, .int .i64 c, .int .i64 q] w fun e w' => e = .returned (.tuple #[.agg #[.slice none 0 0], .int .i64 0, .int .i64 0, .int .i64 8]) ∧ Below w.heap.size w w' := by
  have HCK := Hid.mk2 (fun W (hb : Below w.heap.size w W) => rcheck_any W ao ps cap (h.below hb))
  rw [show sE ps = 8 by unfold sE; rw [ho]; rfl] at HCK
  clear h ho
  go_enter Try.func38, Try.ntmps38
  go_upto_region 1 with (fail)
  obtain ⟨w0, hw0⟩ : ∃ w0, w0 = (w.alloc (Obj.cells #[Value.slice ao ps.length cap] 33)).alloc (Obj.cells #[Value.slice none 0 0] 33) := ⟨_, rfl⟩
  rw [← hw0]
  have T0 : TK w w0 (.slice ao ps.length cap) := by rw [hw0]; exact TK.begin _ _ _ _
  have a0 := T0.c0
  have x0 := T0.x0
  have HT0 := Hid.mk2 T0
  clear hw0 T0
  go_wp2_with (go_at_call 24; refine (HCK.out _ HT0.out.below).mono ?_; rintro e w1 ⟨rfl, hb1⟩; have T1 := HT0.out.step hb1; have a1 := T1.c0; have b1 := T1.c1; have f1 := T1.f1; have x1 := T1.x0; have y1 := T1.x1; have HT1 := Hid.mk2 T1; clear T1 hb1 a0 x0)
  have z0 : (w1.setCell ⟨w.heap.size + 1, 0, none⟩ (.slice none 0 0)).cell? ⟨w.heap.size + 1, 0, none⟩ = some (.slice none 0 0) := World.cell?_setCell_same _ _ _ b1
  try simp only [Exit.inBlock, Exit.then]
  exact bodyPost_ret (v := .tuple #[.agg #[.slice none 0 0], .int .i64 0, .int .i64 0, .int .i64 8]) (by simp [results, Try.results38, go_sem, z0]) rfl ⟨rfl, HT1.out.below.setCell (by simp) _⟩
theorem rtake_bad2 (w : World) (ao : Option Addr) (ps : List Pg) (cap : Nat) (h : Sb w ao ps cap) (t c q : Int) (ho : sOk ps = true) (hb : isT t = false ∨ isC c = false ∨ isQ q = false) :
    Calls Try.prog 38 #[.agg #[.slice ao ps.length cap], .int .i64 t, .int .i64 c, .int .i64 q] w fun e w' => e = .returned (.tuple #[.agg #[.slice none 0 0], .int .i64 0, .int .i64 0, .int .i64 2]) ∧ Below w.heap.size w w' := by
  have HCK := Hid.mk2 (fun W (hb : Below w.heap.size w W) => rcheck_any W ao ps cap (h.below hb))
  rw [show sE ps = 0 by unfold sE; rw [ho]; rfl] at HCK
  have hit := fun W => risTenant_any t W
  have hic := fun W => risClass_any c W
  have hcase : isT t = false ∨ (isT t = true ∧ isC c = false) ∨ (isT t = true ∧ isC c = true ∧ decide (q < 0) = true) ∨ (isT t = true ∧ isC c = true ∧ decide (q < 0) = false ∧ decide (16 < q) = true) := by
    cases e : isT t
    · exact .inl rfl
    cases e2 : isC c
    · exact .inr (.inl ⟨rfl, rfl⟩)
    · rcases hb with h | h | h
      · rw [e] at h; cases h
      · rw [e2] at h; cases h
      · simp [isQ] at h
        by_cases h0 : q < 0
        · exact .inr (.inr (.inl ⟨rfl, rfl, by simp [h0]⟩))
        · exact .inr (.inr (.inr ⟨rfl, rfl, by simp; omega, by simp; omega⟩))
  clear h ho hb
  rcases hcase with h1 | ⟨h1, h2⟩ | ⟨h1, h2, h3⟩ | ⟨h1, h2, h3, h4⟩
  · rw [h1] at hit
    clear h1
    go_enter Try.func38, Try.ntmps38
    go_upto_region 1 with (fail)
    obtain ⟨w0, hw0⟩ : ∃ w0, w0 = (w.alloc (Obj.cells #[Value.slice ao ps.length cap] 33)).alloc (Obj.cells #[Value.slice none 0 0] 33) := ⟨_, rfl⟩
    rw [← hw0]
    have T0 : TK w w0 (.slice ao ps.length cap) := by rw [hw0]; exact TK.begin _ _ _ _
    have a0 := T0.c0
    have x0 := T0.x0
    have HT0 := Hid.mk2 T0
    clear hw0 T0
    go_wp2_with (first | (go_at_call 24; refine (HCK.out _ HT0.out.below).mono ?_; rintro e w1 ⟨rfl, hb1⟩; have T1 := HT0.out.step hb1; have a1 := T1.c0; have b1 := T1.c1; have f1 := T1.f1; have x1 := T1.x0; have y1 := T1.x1; have HT1 := Hid.mk2 T1; clear T1 hb1 a0 x0) | (go_at_call 40; refine (hit _).mono ?_; rintro e w2 ⟨rfl, hwq⟩; obtain rfl : w1 = w2 := hwq.symm))
    have z0 : (w1.setCell ⟨w.heap.size + 1, 0, none⟩ (.slice none 0 0)).cell? ⟨w.heap.size + 1, 0, none⟩ = some (.slice none 0 0) := World.cell?_setCell_same _ _ _ b1
    try simp only [Exit.inBlock, Exit.then]
    exact bodyPost_ret (v := .tuple #[.agg #[.slice none 0 0], .int .i64 0, .int .i64 0, .int .i64 2]) (by simp [results, Try.results38, go_sem, z0]) rfl ⟨rfl, HT1.out.below.setCell (by simp) _⟩
  all_goals
    rw [h1] at hit
    rw [h2] at hic
    clear h1 h2
    go_enter Try.func38, Try.ntmps38
    go_upto_region 1 with (fail)
    obtain ⟨w0, hw0⟩ : ∃ w0, w0 = (w.alloc (Obj.cells #[Value.slice ao ps.length cap] 33)).alloc (Obj.cells #[Value.slice none 0 0] 33) := ⟨_, rfl⟩
    rw [← hw0]
    have T0 : TK w w0 (.slice ao ps.length cap) := by rw [hw0]; exact TK.begin _ _ _ _
    have a0 := T0.c0
    have x0 := T0.x0
    have HT0 := Hid.mk2 T0
    clear hw0 T0
    go_wp2_with (first | (go_at_call 24; refine (HCK.out _ HT0.out.below).mono ?_; rintro e w1 ⟨rfl, hb1⟩; have T1 := HT0.out.step hb1; have a1 := T1.c0; have b1 := T1.c1; have f1 := T1.f1; have x1 := T1.x0; have y1 := T1.x1; have HT1 := Hid.mk2 T1; clear T1 hb1 a0 x0) | (go_at_call 40; refine (hit _).mono ?_; rintro e w2 ⟨rfl, hwq⟩; obtain rfl : w1 = w2 := hwq.symm) | (go_at_call 51; refine (hic _).mono ?_; rintro e w2 ⟨rfl, hwq⟩; obtain rfl : w1 = w2 := hwq.symm))
    have z0 : (w1.setCell ⟨w.heap.size + 1, 0, none⟩ (.slice none 0 0)).cell? ⟨w.heap.size + 1, 0, none⟩ = some (.slice none 0 0) := World.cell?_setCell_same _ _ _ b1
    try simp only [Exit.inBlock, Exit.then]
    exact bodyPost_ret (v := .tuple #[.agg #[.slice none 0 0], .int .i64 0, .int .i64 0, .int .i64 2]) (by simp [results, Try.results38, go_sem, z0]) rfl ⟨rfl, HT1.out.below.setCell (by simp) _⟩
theorem rtake_bad9 (w : World) (ao : Option Addr) (ps : List Pg) (cap : Nat) (h : Sb w ao ps cap) (t c q : Int) (ho : sOk ps = true) (ht : isT t = true) (hc : isC c = true) (hq : isQ q = true) (hp : place ps t c q = none) :
    Calls Try.prog 38 #[.agg #[.slice ao ps.length cap], .int .i64 t, .int .i64 c, .int .i64 q] w fun e w' => e = .returned (.tuple #[.agg #[.slice none 0 0], .int .i64 0, .int .i64 0, .int .i64 9]) ∧ Below w.heap.size w w' := by
  have HCK := Hid.mk2 (fun W (hb : Below w.heap.size w W) => rcheck_any W ao ps cap (h.below hb))
  rw [show sE ps = 0 by unfold sE; rw [ho]; rfl] at HCK
  have hlen := sOk_len ho
  have hit := fun W => risTenant_any t W
  have hic := fun W => risClass_any c W
  have HPL := Hid.mk2 (fun W (hb : Below w.heap.size w W) => rplace_any W ao ps cap (h.below hb) (by omega) t c q hc)
  have hq0 : decide (q < 0) = false := by simp [isQ] at hq; simp; omega
  have hq1 : decide (16 < q) = false := by simp [isQ] at hq; simp; omega
  rw [ht] at hit
  rw [hc] at hic
  rw [hp] at HPL
  simp only [optP, optK, Option.isSome_none] at HPL
  clear h ho ht hc hq hp
  go_enter Try.func38, Try.ntmps38
  go_upto_region 1 with (fail)
  obtain ⟨w0, hw0⟩ : ∃ w0, w0 = (w.alloc (Obj.cells #[Value.slice ao ps.length cap] 33)).alloc (Obj.cells #[Value.slice none 0 0] 33) := ⟨_, rfl⟩
  rw [← hw0]
  have T0 : TK w w0 (.slice ao ps.length cap) := by rw [hw0]; exact TK.begin _ _ _ _
  have a0 := T0.c0
  have x0 := T0.x0
  have HT0 := Hid.mk2 T0
  clear hw0 T0
  go_wp2_with (first | (go_at_call 24; refine (HCK.out _ HT0.out.below).mono ?_; rintro e w1 ⟨rfl, hb1⟩; have T1 := HT0.out.step hb1; have a1 := T1.c0; have b1 := T1.c1; have f1 := T1.f1; have x1 := T1.x0; have y1 := T1.x1; have HT1 := Hid.mk2 T1; clear T1 hb1 a0 x0) | (go_at_call 40; refine (hit _).mono ?_; rintro e w2 ⟨rfl, hwq⟩; obtain rfl : w1 = w2 := hwq.symm) | (go_at_call 51; refine (hic _).mono ?_; rintro e w2 ⟨rfl, hwq⟩; obtain rfl : w1 = w2 := hwq.symm) | (go_at_call 67; refine (HPL.out _ HT1.out.below).mono ?_; rintro e w2 ⟨rfl, hb2⟩; have T2 := HT1.out.step hb2; have a2 := T2.c0; have b2 := T2.c1; have f2 := T2.f1; have x2 := T2.x0; have y2 := T2.x1; have HT2 := Hid.mk2 T2; clear T2 hb2 a1 x1 b1 f1 y1))
  have z0 : (w2.setCell ⟨w.heap.size + 1, 0, none⟩ (.slice none 0 0)).cell? ⟨w.heap.size + 1, 0, none⟩ = some (.slice none 0 0) := World.cell?_setCell_same _ _ _ b2
  try simp only [Exit.inBlock, Exit.then]
  exact bodyPost_ret (v := .tuple #[.agg #[.slice none 0 0], .int .i64 0, .int .i64 0, .int .i64 9]) (by simp [results, Try.results38, go_sem, z0]) rfl ⟨rfl, HT2.out.below.setCell (by simp) _⟩
set_option maxHeartbeats 4000000 in
theorem rtake_good (w : World) (ao : Option Addr) (ps : List Pg) (cap : Nat) (h : Sb w ao ps cap) (t c q : Int) (ho : sOk ps = true) (ht : isT t = true) (hc : isC c = true) (hq : isQ q = true) (i k : Nat) (hp : place ps t c q = some (i, k)) :
    Calls Try.prog 38 #[.agg #[.slice ao ps.length cap], .int .i64 t, .int .i64 c, .int .i64 q] w fun e w' => ∃ ro rc, e = .returned (.tuple #[.agg #[.slice ro ps.length rc], .int .i64 i, .int .i64 k, .int .i64 0]) ∧ Sb w' ro (ps.set i (taken ps t c i k)) rc ∧ Below w.heap.size w w' := by
  have HCK := Hid.mk2 (fun W (hb : Below w.heap.size w W) => rcheck_any W ao ps cap (h.below hb))
  rw [show sE ps = 0 by unfold sE; rw [ho]; rfl] at HCK
  have hlen := sOk_len ho
  have hit := fun W => risTenant_any t W
  have hic := fun W => risClass_any c W
  have HPL := Hid.mk2 (fun W (hb : Below w.heap.size w W) => rplace_any W ao ps cap (h.below hb) (by omega) t c q hc)
  have hq0 : decide (q < 0) = false := by simp [isQ] at hq; simp; omega
  have hq1 : decide (16 < q) = false := by simp [isQ] at hq; simp; omega
  rw [ht] at hit
  rw [hc] at hic
  rw [hp] at HPL
  simp only [optP, optK, Option.isSome_some] at HPL
  obtain ⟨hi, hk, hbt, _⟩ := place_lt hc hp
  have hk16 : k < 16 := by have := chunks_le hc; omega
  obtain ⟨P, hP⟩ : ∃ P, P = taken ps t c i k := ⟨_, rfl⟩
  have hPt : P.t = t := by rw [hP]; rfl
  have hPc : P.c = c := by rw [hP]; rfl
  have hPu : P.u = ps[i].u + 2 ^ k := by rw [hP, ← or_add hbt]; show ((ps[i]?.getD pz).u ||| 2 ^ k) % 65536 = _; rw [List.getElem?_eq_getElem hi]; exact or_mod ps[i].hu hk16
  rw [← hP]
  have HPt := Hid.mk2 hPt
  have HPc := Hid.mk2 hPc
  have g8 := wrap_pow hk16
  have g9 : IntKind.u16.wrap ((ps[i].u : Int) + 2 ^ k) = (P.u : Int) := by
    have e := wrap_nat (n := P.u) P.hu
    rw [hPu] at e ⊢
    simpa using e
  have HSB := Hid.mk2 h
  obtain ⟨b, off, rfl, hbl, hcs⟩ := h.lies (by intro e; rw [e] at hlen; simp at hlen)
  have HC := Hid.mk2 hcs
  clear hp hP hPt hPc hPu hcs ho ht hc hq hk hbt h
  go_enter Try.func38, Try.ntmps38
  go_upto_region 1 with (fail)
  obtain ⟨w0, hw0⟩ : ∃ w0, w0 = (w.alloc (Obj.cells #[Value.slice (some ⟨b, off, none⟩) ps.length cap] 33)).alloc (Obj.cells #[Value.slice none 0 0] 33) := ⟨_, rfl⟩
  rw [← hw0]
  have T0 : TK w w0 (.slice (some ⟨b, off, none⟩) ps.length cap) := by rw [hw0]; exact TK.begin _ _ _ _
  have a0 := T0.c0
  have x0 := T0.x0
  have HT0 := Hid.mk2 T0
  clear hw0 T0
  go_upto_region 9 with (first | (go_at_call 24; refine (HCK.out _ HT0.out.below).mono ?_; rintro e w1 ⟨rfl, hb1⟩; have T1 := HT0.out.step hb1; have a1 := T1.c0; have b1 := T1.c1; have f1 := T1.f1; have x1 := T1.x0; have y1 := T1.x1; have HT1 := Hid.mk2 T1; clear T1 hb1 a0 x0) | (go_at_call 40; refine (hit _).mono ?_; rintro e w2 ⟨rfl, hwq⟩; obtain rfl : w1 = w2 := hwq.symm) | (go_at_call 51; refine (hic _).mono ?_; rintro e w2 ⟨rfl, hwq⟩; obtain rfl : w1 = w2 := hwq.symm) | (go_at_call 67; refine (HPL.out _ HT1.out.below).mono ?_; rintro e w2 ⟨rfl, hb2⟩; have T2 := HT1.out.step hb2; have a2 := T2.c0; have b2 := T2.c1; have f2 := T2.f1; have x2 := T2.x0; have y2 := T2.x1; have HT2 := Hid.mk2 T2; clear T2 hb2 a1 x1 b1 f1 y1))
  have HTW := Hid.mk2 (rtwin_any w2 _ ps cap (HSB.out.below HT2.out.below) (by omega))
  go_upto_region 10 with (go_at_call 36; refine HTW.out.mono ?_; rintro e w3 ⟨ro, rc, rfl, hf3, hb3⟩; have HF3 := Hid.mk2 hf3; clear hf3; have T3 := HT2.out.step hb3; have a3 := T3.c0; have b3 := T3.c1; have f3 := T3.f1; have x3 := T3.x0; have y3 := T3.x1; have HT3 := Hid.mk2 T3; clear T3 hb3 a2 x2 b2 f2 y2)
  obtain ⟨_, _, e3, hF1, hF2, hF3, hF4⟩ := HF3.out
  cases e3
  rcases hF4 with hn | ⟨g, hro, hgb, hgl, hfr, hL3⟩
  · rw [hn] at hlen; simp at hlen
  subst hro
  obtain ⟨w4, hw4⟩ : ∃ w4, w4 = w3.alloc (Obj.cells #[Value.slice (some ⟨g, 0, none⟩) ps.length rc] 33) := ⟨_, rfl⟩
  obtain ⟨lb, hlb⟩ : ∃ lb, lb = w3.heap.size := ⟨_, rfl⟩
  rw [← hw4, ← hlb]
  have hb4 : Below w3.heap.size w3 w4 := by rw [hw4]; exact (Below.refl _ _).alloc (Nat.le_refl _) _
  have l4 : w4.cell? ⟨lb, 0, none⟩ = some (.slice (some ⟨g, 0, none⟩) ps.length rc) := by rw [hw4, hlb]; simp
  have HT4 := Hid.mk2 (HT3.out.step hb4)
  have a4 := HT4.out.c0
  have b4 := HT4.out.c1
  have f4 := HT4.out.f1
  have x4 := HT4.out.x0
  have y4 := HT4.out.x1
  have hlg : g < lb := by omega
  have hgw : w.heap.size + 1 < g := by have := HT2.out.x1; omega
  have hlb4 : lb < w4.heap.size := by rw [hw4, hlb]; simp
  have hgs : g < w4.heap.size := by omega
  have HL4 := Hid.mk2 (fun j hj => (hL3 j hj).below hb4 hgl)
  have HF4 := Hid.mk2 (fun j => (below_frozen hb4 g j hgl).trans (hfr j))
  obtain ⟨q0, q1, q2⟩ := (HC.out i hi).below HT4.out.below hbl
  obtain ⟨r0, r1, r2⟩ := HL4.out i hi
  have h0 := HF4.out (i * 3)
  have h1 := HF4.out (i * 3 + 1)
  have h2 := HF4.out (i * 3 + 2)
  have hbs : b < w4.heap.size := Nat.lt_trans hbl x4
  have hset := set3_lies (n := 0) hi HL4.out P
  rw [HPt.out, HPc.out] at hset
  have HW := Hid.mk2 (fun w9 hw9 => take_end (w := w) (w8 := w4) (w9 := w9) (g := g) (i := i) (t := t) (c := c) (p := P) (b := .slice none 0 0) hw9 HT4.out.below (by omega) hgs b4 f4 HF4.out hset)
  have HWL := Hid.mk2 (fun w9 (hw9 : w9 = (((w4.setCell ⟨g, i * 3, none⟩ (.int .i64 t)).setCell ⟨g, i * 3 + 1, none⟩ (.int .i64 c)).setCell ⟨g, i * 3 + 2, none⟩ (.int .u16 (P.u : Int))).drew) => show w9.cell? ⟨lb, 0, none⟩ = some (.slice (some ⟨g, 0, none⟩) ps.length rc) ∧ lb < w9.heap.size from by
    rw [hw9]
    have hgr : w4.grownBy (((w4.setCell ⟨g, i * 3, none⟩ (.int .i64 t)).setCell ⟨g, i * 3 + 1, none⟩ (.int .i64 c)).setCell ⟨g, i * 3 + 2, none⟩ (.int .u16 (P.u : Int))) (some g) := ((grown_set _ _ _ _).trans (grown_set _ _ _ _)).trans (grown_set _ _ _ _)
    exact ⟨hgr.cell (a := ⟨lb, 0, none⟩) l4 (by intro e; have := Option.some.inj e; simp at this; omega), Nat.lt_of_lt_of_le hlb4 hgr.size⟩)
  clear hw4 hlb hb4 hL3 hfr hset a3 b3 f3 x3 y3 HT3 HT2 HT1 HTW HF3
  go_wp2
  go_region
  all_goals
    obtain ⟨w9, hw9⟩ : ∃ w9, w9 = (((w4.setCell ⟨g, i * 3, none⟩ (.int .i64 t)).setCell ⟨g, i * 3 + 1, none⟩ (.int .i64 c)).setCell ⟨g, i * 3 + 2, none⟩ (.int .u16 (P.u : Int))).drew := ⟨_, rfl⟩
    rw [← hw9]
    obtain ⟨b9, f9, y9, HB9, HF9⟩ := HW.out w9 hw9
    obtain ⟨l9, hl9⟩ := HWL.out w9 hw9
    clear hw9
    go_wp2
    have z0 : (w9.setCell ⟨w.heap.size + 1, 0, none⟩ (.slice (some ⟨g, 0, none⟩) ps.length rc)).cell? ⟨w.heap.size + 1, 0, none⟩ = some (.slice (some ⟨g, 0, none⟩) ps.length rc) := World.cell?_setCell_same _ _ _ b9
    try simp only [Exit.inBlock, Exit.then]
    refine bodyPost_ret (v := .tuple #[.agg #[.slice (some ⟨g, 0, none⟩) ps.length rc], .int .i64 i, .int .i64 k, .int .i64 0]) (by simp [results, Try.results38, go_sem, z0]) rfl ⟨_, _, rfl, ?_, HB9.out.setCell (by simp) _⟩
    refine ⟨by simpa using hF1, hF2, (by intro e; cases e), .inr ⟨g, 0, rfl, by simpa using HF9.out.1, fun j hj => ?_⟩⟩
    rw [Nat.zero_add]
    exact (HF9.out.2.2 j hj).grown (grown_set w9 (w.heap.size + 1) 0 _) (by intro e; have := Option.some.inj e; omega)
end Go.Proofs.Ytkcgleahbhmggaa
