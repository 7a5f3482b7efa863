/-
  Package ticket: Put and Take where they are refused, of inboxes that may be.
-/
import Derived.Test.YtpnmokmadbapoaaTkV
namespace Go.Proofs.Ytpnmokmadbapoaa
open Go.RowKit
set_option linter.unusedSimpArgs false
set_option linter.unusedVariables false
set_option maxRecDepth 100000

set_option maxHeartbeats 2000000 in
theorem put_no (B : List Bx) (ao : Option Addr) (cap m : Nat) (hm : m = B.length) (next : Int) (hq : QOk (dat B) next) (t : Tk) (hmay : t.may = false) (ka : Option Addr) (ca ma : Nat) (hma : ma = t.c.keys.length) (w : World) (h : Qr w ao B cap) (ha : GRd ES w ka t.c.keys ca) :
    Calls Try.prog 26 #[.agg #[.int .i64 next, .slice ao m cap], .agg (t.arr (.slice ka ma ca))] w fun e w' => e = .returned (.tuple #[.agg #[.int .i64 0, .slice none 0 0], .int .i64 0, .int .i64 8]) ∧ Below w.heap.size w w' := by
  subst hm hma
  obtain ⟨W, hW⟩ : ∃ W, W = ((w.alloc (.cells #[.int .i64 next, .slice ao B.length cap] 62)).alloc (.cells (t.arr (.slice ka t.c.keys.length ca)) 68)).alloc (.cells #[.int .i64 0, .slice none 0 0] 62) := ⟨_, rfl⟩
  have HB : Hid (Below w.heap.size w W) := by rw [hW]; exact g_on (g_on (g_alloc _ _) (g_alloc _ _)) (g_alloc _ _)
  have HX : Hid (GBx W w.heap.size [.int .i64 next, .slice ao B.length cap]) := by rw [hW]; exact ((GBx.made w [.int .i64 next, .slice ao B.length cap] _).alloc _).alloc _
  have HY : Hid (GBx W (w.heap.size + 1) (t.cl (.slice ka t.c.keys.length ca))) := by
    rw [hW]
    have := GBx.made (w.alloc (.cells #[.int .i64 next, .slice ao B.length cap] 62)) (t.cl (.slice ka t.c.keys.length ca)) 68
    rw [show (w.alloc (.cells #[.int .i64 next, .slice ao B.length cap] 62)).heap.size = w.heap.size + 1 by simp] at this
    exact this.alloc _
  have HZ : Hid (GBx W (w.heap.size + 2) [.int .i64 0, .slice none 0 0]) := by
    rw [hW]
    have := GBx.made ((w.alloc (.cells #[.int .i64 next, .slice ao B.length cap] 62)).alloc (.cells (t.arr (.slice ka t.c.keys.length ca)) 68)) [.int .i64 0, .slice none 0 0] 62
    rw [show ((w.alloc (.cells #[.int .i64 next, .slice ao B.length cap] 62)).alloc (.cells (t.arr (.slice ka t.c.keys.length ca)) 68)).heap.size = w.heap.size + 2 by simp] at this
    exact this
  have HCK := Hid.mk2 (tcheck_any B ao cap _ rfl next W (h.below HB.out))
  rw [ckQ_ok hq] at HCK
  have HMB := Hid.mk2 (fun V (hV : Below W.heap.size W V) => mayBe_any t ka ca _ rfl V ((ha.below HB.out).below hV))
  rw [hmay] at HMB
  clear h ha hq hmay
  obtain ⟨num, kind, ⟨ckind, tenant, keys, value, flags, life, unique, by_⟩, ten, dest⟩ := t
  unfold Tk.arr at *
  unfold Tk.cl at HY
  dsimp only at *
  have x0 := HX.out.c 0 (by simp)
  have x1 := HX.out.c 1 (by simp)
  simp only [List.getElem_cons_zero, List.getElem_cons_succ] at x0 x1
  have xlt := HX.out.lt
  go_enter Try.func26, Try.ntmps26
  go_upto_region 1 with (fail)
  rw [← hW]
  clear hW
  go_upto_region 4 with (go_at_call 43; refine HCK.out.mono ?_; rintro e w1 ⟨rfl, hb1⟩; have HB1 := Hid.mk2 hb1; clear hb1)
  have HY1 := Hid.mk2 (HY.out.below HB1.out)
  have HMB1 := Hid.mk2 (HMB.out w1 HB1.out)
  clear x0 x1 xlt HCK HMB
  have y0 := HY1.out.c 0 (by simp)
  have y1 := HY1.out.c 1 (by simp)
  have y2 := HY1.out.c 2 (by simp)
  have y3 := HY1.out.c 3 (by simp)
  have y4 := HY1.out.c 4 (by simp)
  have y5 := HY1.out.c 5 (by simp)
  have y6 := HY1.out.c 6 (by simp)
  have y7 := HY1.out.c 7 (by simp)
  have y8 := HY1.out.c 8 (by simp)
  have y9 := HY1.out.c 9 (by simp)
  have y10 := HY1.out.c 10 (by simp)
  have y11 := HY1.out.c 11 (by simp)
  simp only [List.getElem_cons_zero, List.getElem_cons_succ] at y0 y1 y2 y3 y4 y5 y6 y7 y8 y9 y10 y11
  have ylt := HY1.out.lt
  go_upto_region 5 with (go_at_call 65; refine HMB1.out.mono ?_; rintro e w2 ⟨rfl, hb2⟩; have HB2 := Hid.mk2 hb2; clear hb2)
  have HZ2 := Hid.mk2 ((HZ.out.below HB1.out).below HB2.out)
  clear y0 y1 y2 y3 y4 y5 y6 y7 y8 y9 y10 y11 ylt HMB1
  have z0 := HZ2.out.c 0 (by simp)
  have zf0 := HZ2.out.f 0
  have z1 := HZ2.out.c 1 (by simp)
  have zf1 := HZ2.out.f 1
  simp only [List.getElem_cons_zero, List.getElem_cons_succ] at z0 z1
  have zlt := HZ2.out.lt
  go_wp2
  have HZ9 : Hid (GBx ((w2.setCell ⟨w.heap.size + 2, 0, none⟩ (.int .i64 0)).setCell ⟨w.heap.size + 2, 1, none⟩ (.slice none 0 0)) (w.heap.size + 2) [.int .i64 0, .slice none 0 0]) := GBx.sets [.int .i64 0, .slice none 0 0] HZ2.out rfl
  have HBZ : Hid (Below w.heap.size w ((w2.setCell ⟨w.heap.size + 2, 0, none⟩ (.int .i64 0)).setCell ⟨w.heap.size + 2, 1, none⟩ (.slice none 0 0))) := sets_below (b := w.heap.size + 2) (g_on HB.out (g_on HB1.out HB2.out)) [.int .i64 0, .slice none 0 0] 0 (by omega) (by omega)
  have Z0 := HZ9.out.c 0 (by simp)
  have Z1 := HZ9.out.c 1 (by simp)
  simp only [List.getElem_cons_zero, List.getElem_cons_succ] at Z0 Z1
  try simp only [Exit.inBlock, Exit.then]
  refine bodyPost_ret (v := .tuple #[.agg #[.int .i64 0, .slice none 0 0], .int .i64 0, .int .i64 8]) (by simp [results, Try.results26, go_sem, Z0, Z1]) rfl ⟨rfl, HBZ.out⟩

set_option maxHeartbeats 2000000 in
theorem take_arg (B : List Bx) (ao : Option Addr) (cap m : Nat) (hm : m = B.length) (next : Int) (hq : QOk (dat B) next) (i : Int) (hi : (B.length : Int) ≤ i) (w : World) (h : Qr w ao B cap) :
    Calls Try.prog 29 #[.agg #[.int .i64 next, .slice ao m cap], .int .i64 i] w fun e w' => e = .returned (.tuple #[.agg #[.int .i64 0, .slice none 0 0], .agg #[.int .i64 0, .int .u8 0, .int .u8 0, .int .i64 0, .slice none 0 0, .string ⟨#[]⟩, .int .u32 0, .int .i64 0, .int .u64 0, .int .u64 0, .int .i64 0, .int .i64 0], .int .i64 2]) ∧ Below w.heap.size w w' := by
  subst hm
  have hlen := h.row.len
  have hn0 : 1 ≤ B.length := by have := hq.n0; rw [dat_len] at this; exact this
  have hn1 : B.length ≤ 4 := by have := hq.n1; rw [dat_len] at this; exact this
  obtain ⟨W, hW⟩ : ∃ W, W = ((w.alloc (.cells #[.int .i64 next, .slice ao B.length cap] 62)).alloc (.cells #[.int .i64 0, .slice none 0 0] 62)).alloc (.cells #[.int .i64 0, .int .u8 0, .int .u8 0, .int .i64 0, .slice none 0 0, .string ⟨#[]⟩, .int .u32 0, .int .i64 0, .int .u64 0, .int .u64 0, .int .i64 0, .int .i64 0] 68) := ⟨_, rfl⟩
  have HB : Hid (Below w.heap.size w W) := by rw [hW]; exact g_on (g_on (g_alloc _ _) (g_alloc _ _)) (g_alloc _ _)
  have HX : Hid (GBx W w.heap.size [.int .i64 next, .slice ao B.length cap]) := by rw [hW]; exact ((GBx.made w [.int .i64 next, .slice ao B.length cap] _).alloc _).alloc _
  have HY : Hid (GBx W (w.heap.size + 1) [.int .i64 0, .slice none 0 0]) := by
    rw [hW]
    have := GBx.made (w.alloc (.cells #[.int .i64 next, .slice ao B.length cap] 62)) [.int .i64 0, .slice none 0 0] 62
    rw [show (w.alloc (.cells #[.int .i64 next, .slice ao B.length cap] 62)).heap.size = w.heap.size + 1 by simp] at this
    exact this.alloc _
  have HZ : Hid (GBx W (w.heap.size + 2) [.int .i64 0, .int .u8 0, .int .u8 0, .int .i64 0, .slice none 0 0, .string ⟨#[]⟩, .int .u32 0, .int .i64 0, .int .u64 0, .int .u64 0, .int .i64 0, .int .i64 0]) := by
    rw [hW]
    have := GBx.made ((w.alloc (.cells #[.int .i64 next, .slice ao B.length cap] 62)).alloc (.cells #[.int .i64 0, .slice none 0 0] 62)) [.int .i64 0, .int .u8 0, .int .u8 0, .int .i64 0, .slice none 0 0, .string ⟨#[]⟩, .int .u32 0, .int .i64 0, .int .u64 0, .int .u64 0, .int .i64 0, .int .i64 0] 68
    rw [show ((w.alloc (.cells #[.int .i64 next, .slice ao B.length cap] 62)).alloc (.cells #[.int .i64 0, .slice none 0 0] 62)).heap.size = w.heap.size + 2 by simp] at this
    exact this
  have HCK := Hid.mk2 (tcheck_any B ao cap _ rfl next W (h.below HB.out))
  rw [ckQ_ok hq] at HCK
  clear h
  have hi0 : ¬ (i < 0) := by omega
  have x0 := HX.out.c 0 (by simp)
  have x1 := HX.out.c 1 (by simp)
  simp only [List.getElem_cons_zero, List.getElem_cons_succ] at x0 x1
  have xlt := HX.out.lt
  go_enter Try.func29, Try.ntmps29
  go_upto_region 1 with (fail)
  rw [← hW]
  clear hW
  go_upto_region 4 with (go_at_call 43; refine HCK.out.mono ?_; rintro e w1 ⟨rfl, hb1⟩; have HB1 := Hid.mk2 hb1; clear hb1)
  have HX1 := Hid.mk2 (HX.out.below HB1.out)
  clear x0 x1 xlt HCK
  have x0 := HX1.out.c 0 (by simp)
  have x1 := HX1.out.c 1 (by simp)
  simp only [List.getElem_cons_zero, List.getElem_cons_succ] at x0 x1
  have xlt := HX1.out.lt
  have HY1 := Hid.mk2 (HY.out.below HB1.out)
  have HZ1 := Hid.mk2 (HZ.out.below HB1.out)
  go_upto_region 5 with (fail)
  clear x0 x1 xlt
  have y0 := HY1.out.c 0 (by simp)
  have yf0 := HY1.out.f 0
  have y1 := HY1.out.c 1 (by simp)
  have yf1 := HY1.out.f 1
  simp only [List.getElem_cons_zero, List.getElem_cons_succ] at y0 y1
  have ylt := HY1.out.lt
  have z0 := HZ1.out.c 0 (by simp)
  have zf0 := HZ1.out.f 0
  have z1 := HZ1.out.c 1 (by simp)
  have zf1 := HZ1.out.f 1
  have z2 := HZ1.out.c 2 (by simp)
  have zf2 := HZ1.out.f 2
  have z3 := HZ1.out.c 3 (by simp)
  have zf3 := HZ1.out.f 3
  have z4 := HZ1.out.c 4 (by simp)
  have zf4 := HZ1.out.f 4
  have z5 := HZ1.out.c 5 (by simp)
  have zf5 := HZ1.out.f 5
  have z6 := HZ1.out.c 6 (by simp)
  have zf6 := HZ1.out.f 6
  have z7 := HZ1.out.c 7 (by simp)
  have zf7 := HZ1.out.f 7
  have z8 := HZ1.out.c 8 (by simp)
  have zf8 := HZ1.out.f 8
  have z9 := HZ1.out.c 9 (by simp)
  have zf9 := HZ1.out.f 9
  have z10 := HZ1.out.c 10 (by simp)
  have zf10 := HZ1.out.f 10
  have z11 := HZ1.out.c 11 (by simp)
  have zf11 := HZ1.out.f 11
  simp only [List.getElem_cons_zero, List.getElem_cons_succ] at z0 z1 z2 z3 z4 z5 z6 z7 z8 z9 z10 z11
  have zlt := HZ1.out.lt
  go_wp2
  have HY9 : Hid (GBx ((((((((((((((w1.setCell ⟨w.heap.size + 1, 0, none⟩ (.int .i64 0)).setCell ⟨w.heap.size + 1, 1, none⟩ (.slice none 0 0)).setCell ⟨w.heap.size + 2, 0, none⟩ (.int .i64 0)).setCell ⟨w.heap.size + 2, 1, none⟩ (.int .u8 0)).setCell ⟨w.heap.size + 2, 2, none⟩ (.int .u8 0)).setCell ⟨w.heap.size + 2, 3, none⟩ (.int .i64 0)).setCell ⟨w.heap.size + 2, 4, none⟩ (.slice none 0 0)).setCell ⟨w.heap.size + 2, 5, none⟩ (.string ⟨#[]⟩)).setCell ⟨w.heap.size + 2, 6, none⟩ (.int .u32 0)).setCell ⟨w.heap.size + 2, 7, none⟩ (.int .i64 0)).setCell ⟨w.heap.size + 2, 8, none⟩ (.int .u64 0)).setCell ⟨w.heap.size + 2, 9, none⟩ (.int .u64 0)).setCell ⟨w.heap.size + 2, 10, none⟩ (.int .i64 0)).setCell ⟨w.heap.size + 2, 11, none⟩ (.int .i64 0)) (w.heap.size + 1) [.int .i64 0, .slice none 0 0]) := (GBx.sets [.int .i64 0, .slice none 0 0] HY1.out rfl).grown (sets_grown (b := w.heap.size + 2) [.int .i64 0, .int .u8 0, .int .u8 0, .int .i64 0, .slice none 0 0, .string ⟨#[]⟩, .int .u32 0, .int .i64 0, .int .u64 0, .int .u64 0, .int .i64 0, .int .i64 0] _ 0) (by intro e; have := Option.some.inj e; omega)
  have HZ9 : Hid (GBx ((((((((((((((w1.setCell ⟨w.heap.size + 1, 0, none⟩ (.int .i64 0)).setCell ⟨w.heap.size + 1, 1, none⟩ (.slice none 0 0)).setCell ⟨w.heap.size + 2, 0, none⟩ (.int .i64 0)).setCell ⟨w.heap.size + 2, 1, none⟩ (.int .u8 0)).setCell ⟨w.heap.size + 2, 2, none⟩ (.int .u8 0)).setCell ⟨w.heap.size + 2, 3, none⟩ (.int .i64 0)).setCell ⟨w.heap.size + 2, 4, none⟩ (.slice none 0 0)).setCell ⟨w.heap.size + 2, 5, none⟩ (.string ⟨#[]⟩)).setCell ⟨w.heap.size + 2, 6, none⟩ (.int .u32 0)).setCell ⟨w.heap.size + 2, 7, none⟩ (.int .i64 0)).setCell ⟨w.heap.size + 2, 8, none⟩ (.int .u64 0)).setCell ⟨w.heap.size + 2, 9, none⟩ (.int .u64 0)).setCell ⟨w.heap.size + 2, 10, none⟩ (.int .i64 0)).setCell ⟨w.heap.size + 2, 11, none⟩ (.int .i64 0)) (w.heap.size + 2) [.int .i64 0, .int .u8 0, .int .u8 0, .int .i64 0, .slice none 0 0, .string ⟨#[]⟩, .int .u32 0, .int .i64 0, .int .u64 0, .int .u64 0, .int .i64 0, .int .i64 0]) := GBx.sets [.int .i64 0, .int .u8 0, .int .u8 0, .int .i64 0, .slice none 0 0, .string ⟨#[]⟩, .int .u32 0, .int .i64 0, .int .u64 0, .int .u64 0, .int .i64 0, .int .i64 0] (HZ1.out.grown (sets_grown (b := w.heap.size + 1) [.int .i64 0, .slice none 0 0] _ 0) (by intro e; have := Option.some.inj e; omega)) rfl
  have HGA : Hid (w1.grownBy ((w1.setCell ⟨w.heap.size + 1, 0, none⟩ (.int .i64 0)).setCell ⟨w.heap.size + 1, 1, none⟩ (.slice none 0 0)) (some (w.heap.size + 1))) := sets_grown (b := w.heap.size + 1) [.int .i64 0, .slice none 0 0] w1 0
  have HBZ : Hid (Below w.heap.size w ((((((((((((((w1.setCell ⟨w.heap.size + 1, 0, none⟩ (.int .i64 0)).setCell ⟨w.heap.size + 1, 1, none⟩ (.slice none 0 0)).setCell ⟨w.heap.size + 2, 0, none⟩ (.int .i64 0)).setCell ⟨w.heap.size + 2, 1, none⟩ (.int .u8 0)).setCell ⟨w.heap.size + 2, 2, none⟩ (.int .u8 0)).setCell ⟨w.heap.size + 2, 3, none⟩ (.int .i64 0)).setCell ⟨w.heap.size + 2, 4, none⟩ (.slice none 0 0)).setCell ⟨w.heap.size + 2, 5, none⟩ (.string ⟨#[]⟩)).setCell ⟨w.heap.size + 2, 6, none⟩ (.int .u32 0)).setCell ⟨w.heap.size + 2, 7, none⟩ (.int .i64 0)).setCell ⟨w.heap.size + 2, 8, none⟩ (.int .u64 0)).setCell ⟨w.heap.size + 2, 9, none⟩ (.int .u64 0)).setCell ⟨w.heap.size + 2, 10, none⟩ (.int .i64 0)).setCell ⟨w.heap.size + 2, 11, none⟩ (.int .i64 0))) := sets_below (b := w.heap.size + 2) (sets_below (b := w.heap.size + 1) (g_on HB.out HB1.out) [.int .i64 0, .slice none 0 0] 0 (by omega) (by omega)) [.int .i64 0, .int .u8 0, .int .u8 0, .int .i64 0, .slice none 0 0, .string ⟨#[]⟩, .int .u32 0, .int .i64 0, .int .u64 0, .int .u64 0, .int .i64 0, .int .i64 0] 0 (by omega) (by have := HGA.out.size; show _ ≤ ((w1.setCell ⟨w.heap.size + 1, 0, none⟩ (.int .i64 0)).setCell ⟨w.heap.size + 1, 1, none⟩ (.slice none 0 0)).heap.size; omega)
  have Q0 := HY9.out.c 0 (by simp)
  have Q1 := HY9.out.c 1 (by simp)
  have Z0 := HZ9.out.c 0 (by simp)
  have Z1 := HZ9.out.c 1 (by simp)
  have Z2 := HZ9.out.c 2 (by simp)
  have Z3 := HZ9.out.c 3 (by simp)
  have Z4 := HZ9.out.c 4 (by simp)
  have Z5 := HZ9.out.c 5 (by simp)
  have Z6 := HZ9.out.c 6 (by simp)
  have Z7 := HZ9.out.c 7 (by simp)
  have Z8 := HZ9.out.c 8 (by simp)
  have Z9 := HZ9.out.c 9 (by simp)
  have Z10 := HZ9.out.c 10 (by simp)
  have Z11 := HZ9.out.c 11 (by simp)
  simp only [List.getElem_cons_zero, List.getElem_cons_succ] at Q0 Q1 Z0 Z1 Z2 Z3 Z4 Z5 Z6 Z7 Z8 Z9 Z10 Z11
  try simp only [Exit.inBlock, Exit.then]
  refine bodyPost_ret (v := .tuple #[.agg #[.int .i64 0, .slice none 0 0], .agg #[.int .i64 0, .int .u8 0, .int .u8 0, .int .i64 0, .slice none 0 0, .string ⟨#[]⟩, .int .u32 0, .int .i64 0, .int .u64 0, .int .u64 0, .int .i64 0, .int .i64 0], .int .i64 2]) (by simp [results, Try.results29, go_sem, Q0, Q1, Z0, Z1, Z2, Z3, Z4, Z5, Z6, Z7, Z8, Z9, Z10, Z11]) rfl ⟨rfl, HBZ.out⟩

set_option maxHeartbeats 2000000 in
theorem take_none (B : List Bx) (ao : Option Addr) (cap m : Nat) (hm : m = B.length) (next : Int) (hq : QOk (dat B) next) (i : Nat) (hi : i < B.length) (hrd : rdy (dat B) i = false) (w : World) (h : Qr w ao B cap) :
    Calls Try.prog 29 #[.agg #[.int .i64 next, .slice ao m cap], .int .i64 i] w fun e w' => e = .returned (.tuple #[.agg #[.int .i64 0, .slice none 0 0], .agg #[.int .i64 0, .int .u8 0, .int .u8 0, .int .i64 0, .slice none 0 0, .string ⟨#[]⟩, .int .u32 0, .int .i64 0, .int .u64 0, .int .u64 0, .int .i64 0, .int .i64 0], .int .i64 6]) ∧ Below w.heap.size w w' := by
  subst hm
  have hlen := h.row.len
  have hn0 : 1 ≤ B.length := by have := hq.n0; rw [dat_len] at this; exact this
  have hn1 : B.length ≤ 4 := by have := hq.n1; rw [dat_len] at this; exact this
  obtain ⟨W, hW⟩ : ∃ W, W = ((w.alloc (.cells #[.int .i64 next, .slice ao B.length cap] 62)).alloc (.cells #[.int .i64 0, .slice none 0 0] 62)).alloc (.cells #[.int .i64 0, .int .u8 0, .int .u8 0, .int .i64 0, .slice none 0 0, .string ⟨#[]⟩, .int .u32 0, .int .i64 0, .int .u64 0, .int .u64 0, .int .i64 0, .int .i64 0] 68) := ⟨_, rfl⟩
  have HB : Hid (Below w.heap.size w W) := by rw [hW]; exact g_on (g_on (g_alloc _ _) (g_alloc _ _)) (g_alloc _ _)
  have HX : Hid (GBx W w.heap.size [.int .i64 next, .slice ao B.length cap]) := by rw [hW]; exact ((GBx.made w [.int .i64 next, .slice ao B.length cap] _).alloc _).alloc _
  have HY : Hid (GBx W (w.heap.size + 1) [.int .i64 0, .slice none 0 0]) := by
    rw [hW]
    have := GBx.made (w.alloc (.cells #[.int .i64 next, .slice ao B.length cap] 62)) [.int .i64 0, .slice none 0 0] 62
    rw [show (w.alloc (.cells #[.int .i64 next, .slice ao B.length cap] 62)).heap.size = w.heap.size + 1 by simp] at this
    exact this.alloc _
  have HZ : Hid (GBx W (w.heap.size + 2) [.int .i64 0, .int .u8 0, .int .u8 0, .int .i64 0, .slice none 0 0, .string ⟨#[]⟩, .int .u32 0, .int .i64 0, .int .u64 0, .int .u64 0, .int .i64 0, .int .i64 0]) := by
    rw [hW]
    have := GBx.made ((w.alloc (.cells #[.int .i64 next, .slice ao B.length cap] 62)).alloc (.cells #[.int .i64 0, .slice none 0 0] 62)) [.int .i64 0, .int .u8 0, .int .u8 0, .int .i64 0, .slice none 0 0, .string ⟨#[]⟩, .int .u32 0, .int .i64 0, .int .u64 0, .int .u64 0, .int .i64 0, .int .i64 0] 68
    rw [show ((w.alloc (.cells #[.int .i64 next, .slice ao B.length cap] 62)).alloc (.cells #[.int .i64 0, .slice none 0 0] 62)).heap.size = w.heap.size + 2 by simp] at this
    exact this
  have HCK := Hid.mk2 (tcheck_any B ao cap _ rfl next W (h.below HB.out))
  rw [ckQ_ok hq] at HCK
  have HIR := Hid.mk2 (fun V (hV : Below w.heap.size w V) => isReady_any B ao cap _ rfl hn0 hn1 next (fun l hl => (hq.box l hl).may) i hi V (h.below hV))
  rw [hrd] at HIR
  clear h hq
  have hi2 : (i : Int) < (B.length : Int) := by omega
  have hi3 : ¬ ((i : Int) < 0) := by omega
  have x0 := HX.out.c 0 (by simp)
  have x1 := HX.out.c 1 (by simp)
  simp only [List.getElem_cons_zero, List.getElem_cons_succ] at x0 x1
  have xlt := HX.out.lt
  go_enter Try.func29, Try.ntmps29
  go_upto_region 1 with (fail)
  rw [← hW]
  clear hW
  go_upto_region 4 with (go_at_call 43; refine HCK.out.mono ?_; rintro e w1 ⟨rfl, hb1⟩; have HB1 := Hid.mk2 hb1; clear hb1)
  have HX1 := Hid.mk2 (HX.out.below HB1.out)
  clear x0 x1 xlt HCK
  have x0 := HX1.out.c 0 (by simp)
  have x1 := HX1.out.c 1 (by simp)
  simp only [List.getElem_cons_zero, List.getElem_cons_succ] at x0 x1
  have xlt := HX1.out.lt
  have HIR1 := Hid.mk2 (HIR.out w1 (g_on HB.out HB1.out))
  go_upto_region 7 with (go_at_call 70; refine HIR1.out.mono ?_; rintro e w2 ⟨rfl, hb2⟩; have HB2 := Hid.mk2 hb2; clear hb2)
  have HY2 := Hid.mk2 ((HY.out.below HB1.out).below HB2.out)
  have HZ2 := Hid.mk2 ((HZ.out.below HB1.out).below HB2.out)
  clear x0 x1 xlt HIR HIR1
  have y0 := HY2.out.c 0 (by simp)
  have yf0 := HY2.out.f 0
  have y1 := HY2.out.c 1 (by simp)
  have yf1 := HY2.out.f 1
  simp only [List.getElem_cons_zero, List.getElem_cons_succ] at y0 y1
  have ylt := HY2.out.lt
  have z0 := HZ2.out.c 0 (by simp)
  have zf0 := HZ2.out.f 0
  have z1 := HZ2.out.c 1 (by simp)
  have zf1 := HZ2.out.f 1
  have z2 := HZ2.out.c 2 (by simp)
  have zf2 := HZ2.out.f 2
  have z3 := HZ2.out.c 3 (by simp)
  have zf3 := HZ2.out.f 3
  have z4 := HZ2.out.c 4 (by simp)
  have zf4 := HZ2.out.f 4
  have z5 := HZ2.out.c 5 (by simp)
  have zf5 := HZ2.out.f 5
  have z6 := HZ2.out.c 6 (by simp)
  have zf6 := HZ2.out.f 6
  have z7 := HZ2.out.c 7 (by simp)
  have zf7 := HZ2.out.f 7
  have z8 := HZ2.out.c 8 (by simp)
  have zf8 := HZ2.out.f 8
  have z9 := HZ2.out.c 9 (by simp)
  have zf9 := HZ2.out.f 9
  have z10 := HZ2.out.c 10 (by simp)
  have zf10 := HZ2.out.f 10
  have z11 := HZ2.out.c 11 (by simp)
  have zf11 := HZ2.out.f 11
  simp only [List.getElem_cons_zero, List.getElem_cons_succ] at z0 z1 z2 z3 z4 z5 z6 z7 z8 z9 z10 z11
  have zlt := HZ2.out.lt
  go_wp2
  have HY9 : Hid (GBx ((((((((((((((w2.setCell ⟨w.heap.size + 1, 0, none⟩ (.int .i64 0)).setCell ⟨w.heap.size + 1, 1, none⟩ (.slice none 0 0)).setCell ⟨w.heap.size + 2, 0, none⟩ (.int .i64 0)).setCell ⟨w.heap.size + 2, 1, none⟩ (.int .u8 0)).setCell ⟨w.heap.size + 2, 2, none⟩ (.int .u8 0)).setCell ⟨w.heap.size + 2, 3, none⟩ (.int .i64 0)).setCell ⟨w.heap.size + 2, 4, none⟩ (.slice none 0 0)).setCell ⟨w.heap.size + 2, 5, none⟩ (.string ⟨#[]⟩)).setCell ⟨w.heap.size + 2, 6, none⟩ (.int .u32 0)).setCell ⟨w.heap.size + 2, 7, none⟩ (.int .i64 0)).setCell ⟨w.heap.size + 2, 8, none⟩ (.int .u64 0)).setCell ⟨w.heap.size + 2, 9, none⟩ (.int .u64 0)).setCell ⟨w.heap.size + 2, 10, none⟩ (.int .i64 0)).setCell ⟨w.heap.size + 2, 11, none⟩ (.int .i64 0)) (w.heap.size + 1) [.int .i64 0, .slice none 0 0]) := (GBx.sets [.int .i64 0, .slice none 0 0] HY2.out rfl).grown (sets_grown (b := w.heap.size + 2) [.int .i64 0, .int .u8 0, .int .u8 0, .int .i64 0, .slice none 0 0, .string ⟨#[]⟩, .int .u32 0, .int .i64 0, .int .u64 0, .int .u64 0, .int .i64 0, .int .i64 0] _ 0) (by intro e; have := Option.some.inj e; omega)
  have HZ9 : Hid (GBx ((((((((((((((w2.setCell ⟨w.heap.size + 1, 0, none⟩ (.int .i64 0)).setCell ⟨w.heap.size + 1, 1, none⟩ (.slice none 0 0)).setCell ⟨w.heap.size + 2, 0, none⟩ (.int .i64 0)).setCell ⟨w.heap.size + 2, 1, none⟩ (.int .u8 0)).setCell ⟨w.heap.size + 2, 2, none⟩ (.int .u8 0)).setCell ⟨w.heap.size + 2, 3, none⟩ (.int .i64 0)).setCell ⟨w.heap.size + 2, 4, none⟩ (.slice none 0 0)).setCell ⟨w.heap.size + 2, 5, none⟩ (.string ⟨#[]⟩)).setCell ⟨w.heap.size + 2, 6, none⟩ (.int .u32 0)).setCell ⟨w.heap.size + 2, 7, none⟩ (.int .i64 0)).setCell ⟨w.heap.size + 2, 8, none⟩ (.int .u64 0)).setCell ⟨w.heap.size + 2, 9, none⟩ (.int .u64 0)).setCell ⟨w.heap.size + 2, 10, none⟩ (.int .i64 0)).setCell ⟨w.heap.size + 2, 11, none⟩ (.int .i64 0)) (w.heap.size + 2) [.int .i64 0, .int .u8 0, .int .u8 0, .int .i64 0, .slice none 0 0, .string ⟨#[]⟩, .int .u32 0, .int .i64 0, .int .u64 0, .int .u64 0, .int .i64 0, .int .i64 0]) := GBx.sets [.int .i64 0, .int .u8 0, .int .u8 0, .int .i64 0, .slice none 0 0, .string ⟨#[]⟩, .int .u32 0, .int .i64 0, .int .u64 0, .int .u64 0, .int .i64 0, .int .i64 0] (HZ2.out.grown (sets_grown (b := w.heap.size + 1) [.int .i64 0, .slice none 0 0] _ 0) (by intro e; have := Option.some.inj e; omega)) rfl
  have HGA : Hid (w2.grownBy ((w2.setCell ⟨w.heap.size + 1, 0, none⟩ (.int .i64 0)).setCell ⟨w.heap.size + 1, 1, none⟩ (.slice none 0 0)) (some (w.heap.size + 1))) := sets_grown (b := w.heap.size + 1) [.int .i64 0, .slice none 0 0] w2 0
  have HBZ : Hid (Below w.heap.size w ((((((((((((((w2.setCell ⟨w.heap.size + 1, 0, none⟩ (.int .i64 0)).setCell ⟨w.heap.size + 1, 1, none⟩ (.slice none 0 0)).setCell ⟨w.heap.size + 2, 0, none⟩ (.int .i64 0)).setCell ⟨w.heap.size + 2, 1, none⟩ (.int .u8 0)).setCell ⟨w.heap.size + 2, 2, none⟩ (.int .u8 0)).setCell ⟨w.heap.size + 2, 3, none⟩ (.int .i64 0)).setCell ⟨w.heap.size + 2, 4, none⟩ (.slice none 0 0)).setCell ⟨w.heap.size + 2, 5, none⟩ (.string ⟨#[]⟩)).setCell ⟨w.heap.size + 2, 6, none⟩ (.int .u32 0)).setCell ⟨w.heap.size + 2, 7, none⟩ (.int .i64 0)).setCell ⟨w.heap.size + 2, 8, none⟩ (.int .u64 0)).setCell ⟨w.heap.size + 2, 9, none⟩ (.int .u64 0)).setCell ⟨w.heap.size + 2, 10, none⟩ (.int .i64 0)).setCell ⟨w.heap.size + 2, 11, none⟩ (.int .i64 0))) := sets_below (b := w.heap.size + 2) (sets_below (b := w.heap.size + 1) (g_on HB.out (g_on HB1.out HB2.out)) [.int .i64 0, .slice none 0 0] 0 (by omega) (by omega)) [.int .i64 0, .int .u8 0, .int .u8 0, .int .i64 0, .slice none 0 0, .string ⟨#[]⟩, .int .u32 0, .int .i64 0, .int .u64 0, .int .u64 0, .int .i64 0, .int .i64 0] 0 (by omega) (by have := HGA.out.size; show _ ≤ ((w2.setCell ⟨w.heap.size + 1, 0, none⟩ (.int .i64 0)).setCell ⟨w.heap.size + 1, 1, none⟩ (.slice none 0 0)).heap.size; omega)
  have Q0 := HY9.out.c 0 (by simp)
  have Q1 := HY9.out.c 1 (by simp)
  have Z0 := HZ9.out.c 0 (by simp)
  have Z1 := HZ9.out.c 1 (by simp)
  have Z2 := HZ9.out.c 2 (by simp)
  have Z3 := HZ9.out.c 3 (by simp)
  have Z4 := HZ9.out.c 4 (by simp)
  have Z5 := HZ9.out.c 5 (by simp)
  have Z6 := HZ9.out.c 6 (by simp)
  have Z7 := HZ9.out.c 7 (by simp)
  have Z8 := HZ9.out.c 8 (by simp)
  have Z9 := HZ9.out.c 9 (by simp)
  have Z10 := HZ9.out.c 10 (by simp)
  have Z11 := HZ9.out.c 11 (by simp)
  simp only [List.getElem_cons_zero, List.getElem_cons_succ] at Q0 Q1 Z0 Z1 Z2 Z3 Z4 Z5 Z6 Z7 Z8 Z9 Z10 Z11
  try simp only [Exit.inBlock, Exit.then]
  refine bodyPost_ret (v := .tuple #[.agg #[.int .i64 0, .slice none 0 0], .agg #[.int .i64 0, .int .u8 0, .int .u8 0, .int .i64 0, .slice none 0 0, .string ⟨#[]⟩, .int .u32 0, .int .i64 0, .int .u64 0, .int .u64 0, .int .i64 0, .int .i64 0], .int .i64 6]) (by simp [results, Try.results29, go_sem, Q0, Q1, Z0, Z1, Z2, Z3, Z4, Z5, Z6, Z7, Z8, Z9, Z10, Z11]) rfl ⟨rfl, HBZ.out⟩
end Go.Proofs.Ytpnmokmadbapoaa
