/-
  Package order: Merge of a delete's results in several shards, and of a wrong number of results.
-/
import Derived.Test.YtiefdflkbihmkaaOrMa
import Derived.Test.YtiefdflkbihmkaaOrPd
import Derived.Test.YtiefdflkbihmkaaOrRefV
namespace Go.Proofs.Ytiefdflkbihmkaa
open Go.RowKit
set_option linter.unusedSimpArgs false
set_option linter.unusedVariables false
set_option maxRecDepth 100000

set_option maxHeartbeats 1000000 in
theorem pmerge_many (c : Cm) (ko : Option Addr) (kc : Nat) (n : Int) (l : List Rr) (lo : Option Addr) (lc : Nat) (w : World) (h : GRd ES w ko c.keys kc) (hr : GRd ER w lo l lc) (hE : c.shE n = 0) (hl : ¬ l.length = (c.shL n).length) :
    Calls Try.prog 10 #[.agg (c.arr (.slice ko c.keys.length kc)), .int .i64 n, .slice lo l.length lc] w fun e w' => e = .returned (.tuple #[.agg #[.int .u8 0, .slice none 0 0, .int .u64 0], .int .i64 4]) ∧ Below w.heap.size w w' := by
  have HSH := Hid.mk2 (fun W (hW : Below w.heap.size w W) => pshards_any c ko kc n W (h.below hW))
  rw [hE] at HSH
  obtain ⟨S, hS⟩ : ∃ S, S = c.shL n := ⟨_, rfl⟩
  rw [← hS] at HSH hl
  have hll := hr.len
  have HRR := Hid.mk2 hr
  clear hS hE h hr
  obtain ⟨W, hW⟩ : ∃ W, W = (w.alloc (.cells (c.arr (.slice ko c.keys.length kc)) 27)).alloc (.cells #[.int .u8 0, .slice none 0 0, .int .u64 0] 36) := ⟨_, rfl⟩
  have HB : Hid (Below w.heap.size w W) := by rw [hW]; exact g_on (g_alloc _ _) (g_alloc _ _)
  have HX0 : Hid (GBx W w.heap.size (c.cl (.slice ko c.keys.length kc))) := by rw [hW]; exact (GBx.made w (c.cl (.slice ko c.keys.length kc)) _).alloc _
  have HX1 : Hid (GBx W (w.heap.size + 1) [.int .u8 0, .slice none 0 0, .int .u64 0]) := by
    rw [hW]
    have := GBx.made (w.alloc (.cells (c.arr (.slice ko c.keys.length kc)) 27)) [.int .u8 0, .slice none 0 0, .int .u64 0] 36
    rw [show (w.alloc (.cells (c.arr (.slice ko c.keys.length kc)) 27)).heap.size = w.heap.size + 1 by simp] at this
    exact this
  obtain ⟨kind, tenant, keys, value, flags, life, unique, by_⟩ := c
  unfold Cm.arr at *
  unfold Cm.cl at HX0
  dsimp only at *
  have c0 := HX0.out.c 0 (by simp)
  have c1 := HX0.out.c 1 (by simp)
  have c2 := HX0.out.c 2 (by simp)
  have c3 := HX0.out.c 3 (by simp)
  have c4 := HX0.out.c 4 (by simp)
  have c5 := HX0.out.c 5 (by simp)
  have c6 := HX0.out.c 6 (by simp)
  have c7 := HX0.out.c 7 (by simp)
  simp only [List.getElem_cons_zero, List.getElem_cons_succ] at c0 c1 c2 c3 c4 c5 c6 c7
  have hlt := HX0.out.lt
  have hsz : W.heap.size = w.heap.size + 2 := by rw [hW]; simp
  go_enter Try.func10, Try.ntmps10
  go_upto_region 1 with (fail)
  rw [← hW]
  clear hW
  have hl' : ((l.length : Int) != (S.length : Int)) = true := bne_t (by omega)
  clear hl
  go_upto_region 5 with (go_at_call 8; refine (HSH.out _ HB.out).mono ?_; rintro e w1 ⟨v1, rfl, hO1, hb1⟩; obtain ⟨sa, sc, hv1, hS1⟩ := hO1.rd okI; subst hv1; have HQ1 := Hid.mk2 (HX1.out.below hb1); have HQ0 := Hid.mk2 (HX0.out.below hb1); have HB1 := Hid.mk2 (g_on HB.out hb1); have hsl := hS1.len; clear hO1 hb1 hS1)
  have y0 := HQ1.out.c 0 (by simp)
  have y1 := HQ1.out.c 1 (by simp)
  have y2 := HQ1.out.c 2 (by simp)
  simp only [List.getElem_cons_zero, List.getElem_cons_succ] at y0 y1 y2
  have f0 := HQ1.out.f 0
  have f1 := HQ1.out.f 1
  have f2 := HQ1.out.f 2
  have HZ : Hid (GBx (((w1.setCell ⟨w.heap.size + 1, 0, none⟩ (.int .u8 0)).setCell ⟨w.heap.size + 1, 1, none⟩ (.slice none 0 0)).setCell ⟨w.heap.size + 1, 2, none⟩ (.int .u64 0)) (w.heap.size + 1) [.int .u8 0, .slice none 0 0, .int .u64 0]) := (((HQ1.out.set 0 (.int .u8 0) (by simp)).set 1 (.slice none 0 0) (by simp)).set 2 (.int .u64 0) (by simp))
  have HBZ := Hid.mk2 (((HB1.out.setCell (p := ⟨w.heap.size + 1, 0, none⟩) (by show w.heap.size ≤ w.heap.size + 1; omega) (.int .u8 0)).setCell (p := ⟨w.heap.size + 1, 1, none⟩) (by show w.heap.size ≤ w.heap.size + 1; omega) (.slice none 0 0)).setCell (p := ⟨w.heap.size + 1, 2, none⟩) (by show w.heap.size ≤ w.heap.size + 1; omega) (.int .u64 0))
  have z0 := HZ.out.c 0 (by simp)
  have z1 := HZ.out.c 1 (by simp)
  have z2 := HZ.out.c 2 (by simp)
  simp only [List.getElem_cons_zero, List.getElem_cons_succ] at z0 z1 z2
  have Z0 := Hid.mk2 z0
  have Z1 := Hid.mk2 z1
  have Z2 := Hid.mk2 z2
  clear z0 z1 z2
  go_wp2
  try simp only [Exit.inBlock, Exit.then]
  refine bodyPost_ret (v := .tuple #[.agg #[.int .u8 0, .slice none 0 0, .int .u64 0], .int .i64 4]) (by simp [results, Try.results10, go_sem, Z0.out, Z1.out, Z2.out]) rfl ⟨rfl, HBZ.out⟩
set_option maxHeartbeats 1000000 in
theorem pmerge_del (c : Cm) (ko : Option Addr) (kc : Nat) (n : Int) (l : List Rr) (lo : Option Addr) (lc : Nat) (w : World) (h : GRd ES w ko c.keys kc) (hr : GRd ER w lo l lc) (hE : c.shE n = 0) (hl : l.length = (c.shL n).length) (hl1 : ¬ l.length = 1) (hk : c.kind = 10) (hf : l.any Rr.ref = false) :
    Calls Try.prog 10 #[.agg (c.arr (.slice ko c.keys.length kc)), .int .i64 n, .slice lo l.length lc] w fun e w' => e = .returned (.tuple #[.agg #[.int .u8 (if sumR l = 0 then 2 else 1), .slice none 0 0, .int .u64 (sumR l)], .int .i64 0]) ∧ Below w.heap.size w w' := by
  have HD := Hid.mk2 (fun W (hW : Below w.heap.size w W) => deleted_any l lo lc W (hr.below hW))
  have HC := Hid.mk2 (fun W (hW : Below w.heap.size w W) => containsR_any l lo lc W (hr.below hW))
  rw [hf] at HC
  obtain ⟨K, hK⟩ : ∃ K : Int, K = if sumR l = 0 then 2 else 1 := ⟨_, rfl⟩
  obtain ⟨SU, hSU⟩ : ∃ SU, SU = sumR l := ⟨_, rfl⟩
  rw [← hK, ← hSU] at HD ⊢
  have HLE := Hid.mk2 hl
  have HKI := Hid.mk2 hk
  have hl1' : ((l.length : Int) == 1) = false := beq_f (by omega)
  clear hK hSU hf hl hk hl1
  have HSH := Hid.mk2 (fun W (hW : Below w.heap.size w W) => pshards_any c ko kc n W (h.below hW))
  rw [hE] at HSH
  obtain ⟨S, hS⟩ : ∃ S, S = c.shL n := ⟨_, rfl⟩
  rw [← hS] at HSH HLE
  have hll := hr.len
  have HRR := Hid.mk2 hr
  clear hS hE h hr
  obtain ⟨W, hW⟩ : ∃ W, W = (w.alloc (.cells (c.arr (.slice ko c.keys.length kc)) 27)).alloc (.cells #[.int .u8 0, .slice none 0 0, .int .u64 0] 36) := ⟨_, rfl⟩
  have HB : Hid (Below w.heap.size w W) := by rw [hW]; exact g_on (g_alloc _ _) (g_alloc _ _)
  have HX0 : Hid (GBx W w.heap.size (c.cl (.slice ko c.keys.length kc))) := by rw [hW]; exact (GBx.made w (c.cl (.slice ko c.keys.length kc)) _).alloc _
  have HX1 : Hid (GBx W (w.heap.size + 1) [.int .u8 0, .slice none 0 0, .int .u64 0]) := by
    rw [hW]
    have := GBx.made (w.alloc (.cells (c.arr (.slice ko c.keys.length kc)) 27)) [.int .u8 0, .slice none 0 0, .int .u64 0] 36
    rw [show (w.alloc (.cells (c.arr (.slice ko c.keys.length kc)) 27)).heap.size = w.heap.size + 1 by simp] at this
    exact this
  obtain ⟨kind, tenant, keys, value, flags, life, unique, by_⟩ := c
  unfold Cm.arr at *
  unfold Cm.cl at HX0
  dsimp only at *
  have c0 := HX0.out.c 0 (by simp)
  have c1 := HX0.out.c 1 (by simp)
  have c2 := HX0.out.c 2 (by simp)
  have c3 := HX0.out.c 3 (by simp)
  have c4 := HX0.out.c 4 (by simp)
  have c5 := HX0.out.c 5 (by simp)
  have c6 := HX0.out.c 6 (by simp)
  have c7 := HX0.out.c 7 (by simp)
  simp only [List.getElem_cons_zero, List.getElem_cons_succ] at c0 c1 c2 c3 c4 c5 c6 c7
  have hlt := HX0.out.lt
  have hsz : W.heap.size = w.heap.size + 2 := by rw [hW]; simp
  go_enter Try.func10, Try.ntmps10
  go_upto_region 1 with (fail)
  rw [← hW]
  clear hW
  have hl' : ((l.length : Int) != (S.length : Int)) = false := bne_f (by rw [HLE.out])
  have hk1 : (kind == 1) = false := beq_f (by have := HKI.out; omega)
  have hk10 : (kind == 10) = true := by rw [HKI.out]; rfl
  go_upto_region 6 with (go_at_call 8; refine (HSH.out _ HB.out).mono ?_; rintro e w1 ⟨v1, rfl, hO1, hb1⟩; obtain ⟨sa, sc, hv1, hS1⟩ := hO1.rd okI; subst hv1; have HQ1 := Hid.mk2 (HX1.out.below hb1); have HQ0 := Hid.mk2 (HX0.out.below hb1); have HB1 := Hid.mk2 (g_on HB.out hb1); have hsl := hS1.len; clear hO1 hb1 hS1)
  clear c0 c1 c2 c3 c4 c5 c6 c7 hlt hsz
  go_upto_if 28 with (go_at_call 25; refine (HC.out _ HB1.out).mono ?_; rintro e w2 ⟨rfl, hb2⟩; have HQ2 := Hid.mk2 (HQ1.out.below hb2); have HP2 := Hid.mk2 (HQ0.out.below hb2); have HB2 := Hid.mk2 (g_on HB1.out hb2); clear hb2)
  have c0 := HP2.out.c 0 (by simp)
  have c1 := HP2.out.c 1 (by simp)
  have c2 := HP2.out.c 2 (by simp)
  have c3 := HP2.out.c 3 (by simp)
  have c4 := HP2.out.c 4 (by simp)
  have c5 := HP2.out.c 5 (by simp)
  have c6 := HP2.out.c 6 (by simp)
  have c7 := HP2.out.c 7 (by simp)
  simp only [List.getElem_cons_zero, List.getElem_cons_succ] at c0 c1 c2 c3 c4 c5 c6 c7
  have hlt := HP2.out.lt
  go_upto_region 16 with (fail)
  go_wp2_with (go_at_call 29; refine (HD.out _ HB2.out).mono ?_; rintro e w3 ⟨rfl, hb3⟩; have HQ3 := Hid.mk2 (HQ2.out.below hb3); have HB3 := Hid.mk2 (g_on HB2.out hb3); clear hb3; have y0 := HQ3.out.c 0 (by simp); have y1 := HQ3.out.c 1 (by simp); have y2 := HQ3.out.c 2 (by simp); simp only [List.getElem_cons_zero, List.getElem_cons_succ] at y0 y1 y2; have f0 := HQ3.out.f 0; have f1 := HQ3.out.f 1; have f2 := HQ3.out.f 2)
  have HZ : Hid (GBx (((w3.setCell ⟨w.heap.size + 1, 0, none⟩ (.int .u8 K)).setCell ⟨w.heap.size + 1, 1, none⟩ (.slice none 0 0)).setCell ⟨w.heap.size + 1, 2, none⟩ (.int .u64 SU)) (w.heap.size + 1) [.int .u8 K, .slice none 0 0, .int .u64 SU]) := (((HQ3.out.set 0 (.int .u8 K) (by simp)).set 1 (.slice none 0 0) (by simp)).set 2 (.int .u64 SU) (by simp))
  have HBZ := Hid.mk2 (((HB3.out.setCell (p := ⟨w.heap.size + 1, 0, none⟩) (by show w.heap.size ≤ w.heap.size + 1; omega) (.int .u8 K)).setCell (p := ⟨w.heap.size + 1, 1, none⟩) (by show w.heap.size ≤ w.heap.size + 1; omega) (.slice none 0 0)).setCell (p := ⟨w.heap.size + 1, 2, none⟩) (by show w.heap.size ≤ w.heap.size + 1; omega) (.int .u64 SU))
  have z0 := HZ.out.c 0 (by simp)
  have z1 := HZ.out.c 1 (by simp)
  have z2 := HZ.out.c 2 (by simp)
  simp only [List.getElem_cons_zero, List.getElem_cons_succ] at z0 z1 z2
  have Z0 := Hid.mk2 z0
  have Z1 := Hid.mk2 z1
  have Z2 := Hid.mk2 z2
  clear z0 z1 z2
  try simp only [Exit.inBlock, Exit.then]
  refine bodyPost_ret (v := .tuple #[.agg #[.int .u8 K, .slice none 0 0, .int .u64 SU], .int .i64 0]) (by simp [results, Try.results10, go_sem, Z0.out, Z1.out, Z2.out]) rfl ⟨rfl, HBZ.out⟩
end Go.Proofs.Ytiefdflkbihmkaa
