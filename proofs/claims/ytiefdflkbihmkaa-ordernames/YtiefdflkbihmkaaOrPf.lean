/-
  Package order: the contract of Part.
-/
import Derived.Test.YtiefdflkbihmkaaOrPe
import Derived.Test.YtiefdflkbihmkaaOrLd
import Derived.Test.YtiefdflkbihmkaaOrRefW
namespace Go.Proofs.Ytiefdflkbihmkaa
open Go.RowKit Go.Sort Go.Shelf
set_option linter.unusedSimpArgs false
set_option linter.unusedVariables false
set_option maxRecDepth 100000

theorem filter_nn (p : ByteArray → Bool) (l : List ByteArray) : (l.filter fun x => !(!p x)) = l.filter p := by simp
/-- a box, and an int in it, in a new block -/
theorem box_int (w : World) (x : Int) (k : Nat) (hk : w.heap.size = k) : GBx (w.alloc (.cells #[.int .i64 x] 3)) k [.int .i64 x] := by
  subst hk
  exact GBx.made w [.int .i64 x] 3
set_option maxHeartbeats 4000000 in
theorem ppart_any (c : Cm) (ko : Option Addr) (kc : Nat) (sh n : Int) (w : World) (h : GRd ES w ko c.keys kc) :
    Calls Try.prog 16 #[.agg (c.arr (.slice ko c.keys.length kc)), .int .i64 sh, .int .i64 n] w fun e w' => ∃ v, e = .returned (.tuple #[.agg ((c.prt sh n).arr v), .int .i64 (c.prE sh n)]) ∧ GOwn ES w' w.heap.size v (c.prt sh n).keys ∧ RowKit.Below w.heap.size w w' := by
  have HSH := Hid.mk2 (fun W (hW : RowKit.Below w.heap.size w W) => pshards_any c ko kc n W (h.below hW))
  have HRD := Hid.mk2 h
  have eg : ∀ args w, (callFunc 35 args).run Try.prog w = .ok (.enter 35 args) w := enters_of Try.func35 (by kernel_rfl) rfl
  have HDE : Hid (c.shE n = 0 → ∀ (W : World) (v : Value) (base : Nat), GOwn ES W base v c.keys → w.heap.size + 3 ≤ base → GBx W w.heap.size (c.cl (.slice ko c.keys.length kc)) → GBx W (w.heap.size + 1) [.int .i64 sh] → GBx W (w.heap.size + 2) [.int .i64 n] →
      Calls Try.prog 33 #[v, .func (.func 35) #[] #[.pointer (some ⟨w.heap.size, 0, none⟩), .pointer (some ⟨w.heap.size + 2, 0, none⟩), .pointer (some ⟨w.heap.size + 1, 0, none⟩)]] W fun e w' => ∃ v', e = .returned v' ∧ GOwn ES w' base v' (c.piece sh n).keys ∧ W.grownBy w' v.ownBlock) := by
    intro he W v base hO hbase b0 b1 b2
    obtain ⟨hm, h1, h2⟩ := Cm.shE_ok he
    have e1 : (c.piece sh n).keys = c.keys.filter fun x => !(!(c.of n x == sh)) := by rw [filter_nn]; rfl
    rw [e1]
    refine deleteF_any 35 _ (fun x => !(c.of n x == sh)) c.keys base v W eg hO ?_
    intro W' hW' x hx
    have hne : ∀ b, b < w.heap.size + 3 → v.ownBlock ≠ some b := fun b hb e => by have := (hO.lt b e).1; omega
    have q0 := b0.grown hW' (hne _ (by omega))
    have q1 := b1.grown hW' (hne _ (by omega))
    have q2 := b2.grown hW' (hne _ (by omega))
    refine (part1_g c.tenant x n sh w.heap.size (w.heap.size + 2) (w.heap.size + 1) W' (Cm.may_parts hm).2.1 (Cm.kOk_keys (Cm.may_parts hm).2.2.1 x hx) h1 h2 q0.lt q2.lt q1.lt (q0.c 1 (by simp [Cm.cl])) (q2.c 0 (by simp)) (q1.c 0 (by simp))).mono ?_
    rintro e w' ⟨rfl, q, os, rfl⟩
    exact ⟨rfl, g_grow _ _ _⟩
  have hE1 : ¬ c.shE n = 0 → c.prE sh n = c.shE n ∧ c.prt sh n = noC := fun e => by unfold Cm.prE Cm.prt; rw [if_neg e, if_neg (fun x => e x.1)]; exact ⟨rfl, rfl⟩
  have hE2 : c.shE n = 0 → ¬ sh ∈ c.shL n → c.prE sh n = 2 ∧ c.prt sh n = noC := fun e e2 => by unfold Cm.prE Cm.prt; rw [if_pos e, if_neg e2, if_neg (fun x => e2 x.2)]; exact ⟨rfl, rfl⟩
  have hE3 : c.shE n = 0 → sh ∈ c.shL n → c.prE sh n = 0 ∧ c.prt sh n = c.piece sh n ∧ c.keys.length ≤ 8 := fun e e2 => by unfold Cm.prE Cm.prt; rw [if_pos e, if_pos e2, if_pos ⟨e, e2⟩]; exact ⟨rfl, rfl, Cm.kOk_len (Cm.may_parts (Cm.shE_ok e).1).2.2.1⟩
  obtain ⟨E, hEe⟩ : ∃ E, E = c.shE n := ⟨_, rfl⟩
  obtain ⟨S, hSe⟩ : ∃ S, S = c.shL n := ⟨_, rfl⟩
  obtain ⟨R, hRe⟩ : ∃ R, R = c.prE sh n := ⟨_, rfl⟩
  obtain ⟨P, hPe⟩ : ∃ P, P = c.prt sh n := ⟨_, rfl⟩
  rw [← hEe, ← hSe] at HSH
  rw [← hEe] at HDE
  rw [← hEe, ← hRe, ← hPe] at hE1 hE2 hE3
  rw [← hSe] at hE2 hE3
  rw [← hRe, ← hPe]
  obtain ⟨PK, hPK⟩ : ∃ PK, PK = (c.piece sh n).keys := ⟨_, rfl⟩
  rw [← hPK] at HDE
  have H1 := Hid.mk2 hE1
  have H2 := Hid.mk2 hE2
  have H3 := Hid.mk2 hE3
  obtain ⟨W, hW⟩ : ∃ W, W = ((((w.alloc (.cells (c.arr (.slice ko c.keys.length kc)) 27)).alloc (.cells #[.int .i64 sh] 3)).alloc (.cells #[.int .i64 n] 3)).alloc (.cells (noC.arr (.slice none 0 0)) 27)) := ⟨_, rfl⟩
  have HB : Hid (RowKit.Below w.heap.size w W) := by rw [hW]; exact g_on (g_on (g_on (g_alloc _ _) (g_alloc _ _)) (g_alloc _ _)) (g_alloc _ _)
  have HX0 : Hid (GBx W w.heap.size (c.cl (.slice ko c.keys.length kc))) := by rw [hW]; exact (((GBx.made w (c.cl (.slice ko c.keys.length kc)) _).alloc _).alloc _).alloc _
  have HX1 : Hid (GBx W (w.heap.size + 1) [.int .i64 sh]) := by rw [hW]; exact ((box_int (w.alloc (.cells (c.arr (.slice ko c.keys.length kc)) 27)) sh _ (by simp)).alloc _).alloc _
  have HX2 : Hid (GBx W (w.heap.size + 2) [.int .i64 n]) := by rw [hW]; exact (box_int ((w.alloc (.cells (c.arr (.slice ko c.keys.length kc)) 27)).alloc (.cells #[.int .i64 sh] 3)) n _ (by simp)).alloc _
  have HX3 : Hid (GBx W (w.heap.size + 3) (noC.cl (.slice none 0 0))) := by
    rw [hW]
    have := GBx.made (((w.alloc (.cells (c.arr (.slice ko c.keys.length kc)) 27)).alloc (.cells #[.int .i64 sh] 3)).alloc (.cells #[.int .i64 n] 3)) (noC.cl (.slice none 0 0)) 27
    rw [show (((w.alloc (.cells (c.arr (.slice ko c.keys.length kc)) 27)).alloc (.cells #[.int .i64 sh] 3)).alloc (.cells #[.int .i64 n] 3)).heap.size = w.heap.size + 3 by simp] at this
    exact this
  have HPQ : Hid ((c.piece sh n).keys = PK) := hPK.symm
  have HPC : Hid ((c.piece sh n).arr = fun v => #[.int .u8 c.kind, .int .i64 c.tenant, v, .string c.value, .int .u32 c.flags, .int .i64 c.life, .int .u64 c.unique, .int .u64 c.by_]) := by show _ = _; funext v; rfl
  clear hEe hSe hRe hPe hE1 hE2 hE3 h hPK eg
  unfold Cm.arr noC at hW
  dsimp only at hW
  have HNO : Hid (noC.arr = fun v => #[.int .u8 0, .int .i64 0, v, .string ⟨#[]⟩, .int .u32 0, .int .i64 0, .int .u64 0, .int .u64 0]) := rfl
  obtain ⟨kind, tenant, keys, value, flags, life, unique, by_⟩ := c
  unfold Cm.cl at HX0 HX3 HDE
  unfold noC at HX3
  dsimp only at HX0 HX3 HDE HSH HPC HRD
  unfold Cm.arr at HSH ⊢
  dsimp only at HSH
  have hsz : W.heap.size = w.heap.size + 4 := by rw [hW]; simp
  have c0 := HX0.out.c 0 (by simp)
  have c1 := HX0.out.c 1 (by simp)
  have c2 := HX0.out.c 2 (by simp)
  have c3 := HX0.out.c 3 (by simp)
  have c4 := HX0.out.c 4 (by simp)
  have c5 := HX0.out.c 5 (by simp)
  have c6 := HX0.out.c 6 (by simp)
  have c7 := HX0.out.c 7 (by simp)
  simp only [List.getElem_cons_zero, List.getElem_cons_succ] at c0 c1 c2 c3 c4 c5 c6 c7
  have s0 := HX1.out.c 0 (by simp)
  have n0 := HX2.out.c 0 (by simp)
  simp only [List.getElem_cons_zero] at s0 n0
  have hlt := HX0.out.lt
  go_enter Try.func16, Try.ntmps16
  go_upto_region 1 with (fail)
  rw [← hW]
  clear hW
  by_cases hE : E = 0
  case neg =>
    obtain ⟨rfl, rfl⟩ := H1.out hE
    have hE' := bne_t hE
    clear H1 H2 H3 HDE hE
    go_upto_region 2 with (go_at_call 8; refine (HSH.out _ HB.out).mono ?_; rintro e w1 ⟨v1, rfl, hO1, hb1⟩)
    have HQ1 := Hid.mk2 (HX3.out.below hb1)
    have HB1 := Hid.mk2 (g_on HB.out hb1)
    clear hO1 hb1 HX0 HX3 HB
    have y0 := HQ1.out.c 0 (by simp)
    have y1 := HQ1.out.c 1 (by simp)
    have y2 := HQ1.out.c 2 (by simp)
    have y3 := HQ1.out.c 3 (by simp)
    have y4 := HQ1.out.c 4 (by simp)
    have y5 := HQ1.out.c 5 (by simp)
    have y6 := HQ1.out.c 6 (by simp)
    have y7 := HQ1.out.c 7 (by simp)
    simp only [List.getElem_cons_zero, List.getElem_cons_succ] at y0 y1 y2 y3 y4 y5 y6 y7
    have f0 := HQ1.out.f 0
    have f1 := HQ1.out.f 1
    have f2 := HQ1.out.f 2
    have f3 := HQ1.out.f 3
    have f4 := HQ1.out.f 4
    have f5 := HQ1.out.f 5
    have f6 := HQ1.out.f 6
    have f7 := HQ1.out.f 7
    have HZ : Hid (GBx ((((((((w1.setCell ⟨w.heap.size + 3, 0, none⟩ (.int .u8 0)).setCell ⟨w.heap.size + 3, 1, none⟩ (.int .i64 0)).setCell ⟨w.heap.size + 3, 2, none⟩ (.slice none 0 0)).setCell ⟨w.heap.size + 3, 3, none⟩ (.string ⟨#[]⟩)).setCell ⟨w.heap.size + 3, 4, none⟩ (.int .u32 0)).setCell ⟨w.heap.size + 3, 5, none⟩ (.int .i64 0)).setCell ⟨w.heap.size + 3, 6, none⟩ (.int .u64 0)).setCell ⟨w.heap.size + 3, 7, none⟩ (.int .u64 0)) (w.heap.size + 3) [.int .u8 0, .int .i64 0, .slice none 0 0, .string ⟨#[]⟩, .int .u32 0, .int .i64 0, .int .u64 0, .int .u64 0]) := ((((((((HQ1.out.set 0 (.int .u8 0) (by simp)).set 1 (.int .i64 0) (by simp)).set 2 (.slice none 0 0) (by simp)).set 3 (.string ⟨#[]⟩) (by simp)).set 4 (.int .u32 0) (by simp)).set 5 (.int .i64 0) (by simp)).set 6 (.int .u64 0) (by simp)).set 7 (.int .u64 0) (by simp))
    have HBZ := Hid.mk2 ((((((((HB1.out.setCell (p := ⟨w.heap.size + 3, 0, none⟩) (by show w.heap.size ≤ w.heap.size + 3; omega) (.int .u8 0)).setCell (p := ⟨w.heap.size + 3, 1, none⟩) (by show w.heap.size ≤ w.heap.size + 3; omega) (.int .i64 0)).setCell (p := ⟨w.heap.size + 3, 2, none⟩) (by show w.heap.size ≤ w.heap.size + 3; omega) (.slice none 0 0)).setCell (p := ⟨w.heap.size + 3, 3, none⟩) (by show w.heap.size ≤ w.heap.size + 3; omega) (.string ⟨#[]⟩)).setCell (p := ⟨w.heap.size + 3, 4, none⟩) (by show w.heap.size ≤ w.heap.size + 3; omega) (.int .u32 0)).setCell (p := ⟨w.heap.size + 3, 5, none⟩) (by show w.heap.size ≤ w.heap.size + 3; omega) (.int .i64 0)).setCell (p := ⟨w.heap.size + 3, 6, none⟩) (by show w.heap.size ≤ w.heap.size + 3; omega) (.int .u64 0)).setCell (p := ⟨w.heap.size + 3, 7, none⟩) (by show w.heap.size ≤ w.heap.size + 3; omega) (.int .u64 0))
    have z0 := HZ.out.c 0 (by simp)
    have z1 := HZ.out.c 1 (by simp)
    have z2 := HZ.out.c 2 (by simp)
    have z3 := HZ.out.c 3 (by simp)
    have z4 := HZ.out.c 4 (by simp)
    have z5 := HZ.out.c 5 (by simp)
    have z6 := HZ.out.c 6 (by simp)
    have z7 := HZ.out.c 7 (by simp)
    simp only [List.getElem_cons_zero, List.getElem_cons_succ] at z0 z1 z2 z3 z4 z5 z6 z7
    have Z0 := Hid.mk2 z0
    have Z1 := Hid.mk2 z1
    have Z2 := Hid.mk2 z2
    have Z3 := Hid.mk2 z3
    have Z4 := Hid.mk2 z4
    have Z5 := Hid.mk2 z5
    have Z6 := Hid.mk2 z6
    have Z7 := Hid.mk2 z7
    clear z0 z1 z2 z3 z4 z5 z6 z7
    go_wp2
    try simp only [Exit.inBlock, Exit.then]
    refine bodyPost_ret (v := .tuple #[.agg #[.int .u8 0, .int .i64 0, .slice none 0 0, .string ⟨#[]⟩, .int .u32 0, .int .i64 0, .int .u64 0, .int .u64 0], .int .i64 R]) (by simp [results, Try.results16, go_sem, Z0.out, Z1.out, Z2.out, Z3.out, Z4.out, Z5.out, Z6.out, Z7.out]) rfl ⟨.slice none 0 0, rfl, GOwn.nil _ _, HBZ.out⟩
  subst hE
  go_upto_region 4 with (go_at_call 8; refine (HSH.out _ HB.out).mono ?_; rintro e w1 ⟨v1, rfl, hO1, hb1⟩)
  obtain ⟨sa, sc, rfl, hS⟩ := hO1.rd okI
  have HCT := Hid.mk2 (containsI_any S sa sc sh w1 hS)
  have HQ0 := Hid.mk2 (HX0.out.below hb1)
  have HQ1 := Hid.mk2 (HX1.out.below hb1)
  have HQ2 := Hid.mk2 (HX2.out.below hb1)
  have HQ3 := Hid.mk2 (HX3.out.below hb1)
  have HB1 := Hid.mk2 (g_on HB.out hb1)
  have hs1 : w.heap.size + 4 ≤ w1.heap.size := by have := hb1.size; omega
  clear hO1 hb1 hS HX0 HX1 HX2 HX3 HB H1 c0 c1 c2 c3 c4 c5 c6 c7 s0 n0 hlt hsz HSH
  have c0 := HQ0.out.c 0 (by simp)
  have c1 := HQ0.out.c 1 (by simp)
  have c2 := HQ0.out.c 2 (by simp)
  have c3 := HQ0.out.c 3 (by simp)
  have c4 := HQ0.out.c 4 (by simp)
  have c5 := HQ0.out.c 5 (by simp)
  have c6 := HQ0.out.c 6 (by simp)
  have c7 := HQ0.out.c 7 (by simp)
  simp only [List.getElem_cons_zero, List.getElem_cons_succ] at c0 c1 c2 c3 c4 c5 c6 c7
  have cf2 := HQ0.out.f 2
  have s0 := HQ1.out.c 0 (by simp)
  simp only [List.getElem_cons_zero] at s0
  have hlt := HQ0.out.lt
  by_cases hmem : sh ∈ S
  case neg =>
    obtain ⟨rfl, rfl⟩ := H2.out (by first | rfl | trivial) hmem
    rw [decide_eq_false hmem] at HCT
    clear H2 H3 HDE hmem
    go_upto_region 5 with (go_at_call 32; refine HCT.out.mono ?_; rintro e w2 ⟨rfl, hw2⟩; have hw2 := hw2.symm; subst hw2)
    have y0 := HQ3.out.c 0 (by simp)
    have y1 := HQ3.out.c 1 (by simp)
    have y2 := HQ3.out.c 2 (by simp)
    have y3 := HQ3.out.c 3 (by simp)
    have y4 := HQ3.out.c 4 (by simp)
    have y5 := HQ3.out.c 5 (by simp)
    have y6 := HQ3.out.c 6 (by simp)
    have y7 := HQ3.out.c 7 (by simp)
    simp only [List.getElem_cons_zero, List.getElem_cons_succ] at y0 y1 y2 y3 y4 y5 y6 y7
    have f0 := HQ3.out.f 0
    have f1 := HQ3.out.f 1
    have f2 := HQ3.out.f 2
    have f3 := HQ3.out.f 3
    have f4 := HQ3.out.f 4
    have f5 := HQ3.out.f 5
    have f6 := HQ3.out.f 6
    have f7 := HQ3.out.f 7
    have HZ : Hid (GBx ((((((((w1.setCell ⟨w.heap.size + 3, 0, none⟩ (.int .u8 0)).setCell ⟨w.heap.size + 3, 1, none⟩ (.int .i64 0)).setCell ⟨w.heap.size + 3, 2, none⟩ (.slice none 0 0)).setCell ⟨w.heap.size + 3, 3, none⟩ (.string ⟨#[]⟩)).setCell ⟨w.heap.size + 3, 4, none⟩ (.int .u32 0)).setCell ⟨w.heap.size + 3, 5, none⟩ (.int .i64 0)).setCell ⟨w.heap.size + 3, 6, none⟩ (.int .u64 0)).setCell ⟨w.heap.size + 3, 7, none⟩ (.int .u64 0)) (w.heap.size + 3) [.int .u8 0, .int .i64 0, .slice none 0 0, .string ⟨#[]⟩, .int .u32 0, .int .i64 0, .int .u64 0, .int .u64 0]) := ((((((((HQ3.out.set 0 (.int .u8 0) (by simp)).set 1 (.int .i64 0) (by simp)).set 2 (.slice none 0 0) (by simp)).set 3 (.string ⟨#[]⟩) (by simp)).set 4 (.int .u32 0) (by simp)).set 5 (.int .i64 0) (by simp)).set 6 (.int .u64 0) (by simp)).set 7 (.int .u64 0) (by simp))
    have HBZ := Hid.mk2 ((((((((HB1.out.setCell (p := ⟨w.heap.size + 3, 0, none⟩) (by show w.heap.size ≤ w.heap.size + 3; omega) (.int .u8 0)).setCell (p := ⟨w.heap.size + 3, 1, none⟩) (by show w.heap.size ≤ w.heap.size + 3; omega) (.int .i64 0)).setCell (p := ⟨w.heap.size + 3, 2, none⟩) (by show w.heap.size ≤ w.heap.size + 3; omega) (.slice none 0 0)).setCell (p := ⟨w.heap.size + 3, 3, none⟩) (by show w.heap.size ≤ w.heap.size + 3; omega) (.string ⟨#[]⟩)).setCell (p := ⟨w.heap.size + 3, 4, none⟩) (by show w.heap.size ≤ w.heap.size + 3; omega) (.int .u32 0)).setCell (p := ⟨w.heap.size + 3, 5, none⟩) (by show w.heap.size ≤ w.heap.size + 3; omega) (.int .i64 0)).setCell (p := ⟨w.heap.size + 3, 6, none⟩) (by show w.heap.size ≤ w.heap.size + 3; omega) (.int .u64 0)).setCell (p := ⟨w.heap.size + 3, 7, none⟩) (by show w.heap.size ≤ w.heap.size + 3; omega) (.int .u64 0))
    have z0 := HZ.out.c 0 (by simp)
    have z1 := HZ.out.c 1 (by simp)
    have z2 := HZ.out.c 2 (by simp)
    have z3 := HZ.out.c 3 (by simp)
    have z4 := HZ.out.c 4 (by simp)
    have z5 := HZ.out.c 5 (by simp)
    have z6 := HZ.out.c 6 (by simp)
    have z7 := HZ.out.c 7 (by simp)
    simp only [List.getElem_cons_zero, List.getElem_cons_succ] at z0 z1 z2 z3 z4 z5 z6 z7
    have Z0 := Hid.mk2 z0
    have Z1 := Hid.mk2 z1
    have Z2 := Hid.mk2 z2
    have Z3 := Hid.mk2 z3
    have Z4 := Hid.mk2 z4
    have Z5 := Hid.mk2 z5
    have Z6 := Hid.mk2 z6
    have Z7 := Hid.mk2 z7
    clear z0 z1 z2 z3 z4 z5 z6 z7
    go_wp2
    try simp only [Exit.inBlock, Exit.then]
    refine bodyPost_ret (v := .tuple #[.agg #[.int .u8 0, .int .i64 0, .slice none 0 0, .string ⟨#[]⟩, .int .u32 0, .int .i64 0, .int .u64 0, .int .u64 0], .int .i64 2]) (by simp [results, Try.results16, go_sem, Z0.out, Z1.out, Z2.out, Z3.out, Z4.out, Z5.out, Z6.out, Z7.out]) rfl ⟨.slice none 0 0, rfl, GOwn.nil _ _, HBZ.out⟩
  obtain ⟨rfl, rfl, hk8⟩ := H3.out (by first | rfl | trivial) hmem
  rw [decide_eq_true hmem] at HCT
  have HCL := Hid.mk2 (cloneS_any keys ko kc w1 (HRD.out.below HB1.out) (by omega))
  clear H2 H3 hmem
  go_upto_region 6 with (go_at_call 32; refine HCT.out.mono ?_; rintro e w2 ⟨rfl, hw2⟩; have hw2 := hw2.symm; subst hw2)
  go_cut [] from 8 (fun wx => ∃ (av : Option Addr) (cp : Nat), Hid (RowKit.Below w.heap.size w wx) ∧ Hid (GBx wx w.heap.size [.int .u8 kind, .int .i64 tenant, .slice av PK.length cp, .string value, .int .u32 flags, .int .i64 life, .int .u64 unique, .int .u64 by_]) ∧ Hid (GBx wx (w.heap.size + 3) [.int .u8 0, .int .i64 0, .slice none 0 0, .string ⟨#[]⟩, .int .u32 0, .int .i64 0, .int .u64 0, .int .u64 0]) ∧ Hid (GOwn ES wx w1.heap.size (.slice av PK.length cp) PK) ∧ Hid (w1.heap.size ≤ wx.heap.size))
  case first =>
    go_wp2_with (first
      | (go_at_call 34; refine HCL.out.mono ?_; rintro e w3 ⟨v3, rfl, hO3, hb3⟩; obtain ⟨a3, cp3, hv3, -⟩ := hO3.rd okS; subst hv3; have HO3 := Hid.mk2 hO3; have HB3 := Hid.mk2 hb3; clear hO3 hb3)
      | (go_at_call 33; refine (HDE.out (by first | rfl | trivial) _ _ _ HO3.out (by omega) (HQ0.out.below HB3.out) (HQ1.out.below HB3.out) (HQ2.out.below HB3.out)).mono ?_; rintro e w4 ⟨v4, rfl, hO4, hg4⟩; obtain ⟨a4, cp4, hv4, -⟩ := hO4.rd okS; subst hv4; have HO4 := Hid.mk2 hO4; have HG4 := Hid.mk2 hg4; have HN4 : Hid (∀ b, b < w1.heap.size → (Value.slice a3 keys.length cp3).ownBlock ≠ some b) := (fun b hb e => by have := (HO3.out.lt b e).1; omega); have HQ4 := Hid.mk2 ((HQ0.out.below HB3.out).grown hg4 (HN4.out _ (by omega))); have HQ5 := Hid.mk2 ((HQ3.out.below HB3.out).grown hg4 (HN4.out _ (by omega))); have HB4 : Hid (RowKit.Below w1.heap.size w1 w4) := HB3.out.grown hg4 HB3.out.size (fun k hk => (HO3.out.lt k hk).1); clear hO4 hg4; have g2 := HQ4.out.c 2 (by simp); simp only [List.getElem_cons_zero, List.getElem_cons_succ] at g2; have gf2 := HQ4.out.f 2))
    go_meet
    case rel => exact ⟨a4, cp4, (g_on HB1.out HB4.out).setCell (p := ⟨w.heap.size, 2, none⟩) (Nat.le_refl _) _, HQ4.out.set 2 (.slice a4 PK.length cp4) (by simp), HQ5.out.other 2 _ (by omega), HO4.out.other _ 2 _ (by omega), (by show _ ≤ _; simpa using HB4.out.size)⟩
  case rest =>
  obtain ⟨av, cp, HBX, HXX, HXR, HOX, HLX⟩ := hcut
  clear c0 c1 c2 c3 c4 c5 c6 c7 cf2 s0 hlt
  have c0 := HXX.out.c 0 (by simp)
  have c1 := HXX.out.c 1 (by simp)
  have c2 := HXX.out.c 2 (by simp)
  have c3 := HXX.out.c 3 (by simp)
  have c4 := HXX.out.c 4 (by simp)
  have c5 := HXX.out.c 5 (by simp)
  have c6 := HXX.out.c 6 (by simp)
  have c7 := HXX.out.c 7 (by simp)
  simp only [List.getElem_cons_zero, List.getElem_cons_succ] at c0 c1 c2 c3 c4 c5 c6 c7
  have hlt := HXX.out.lt
  have hw1le := HLX.out
  have y0 := HXR.out.c 0 (by simp)
  have y1 := HXR.out.c 1 (by simp)
  have y2 := HXR.out.c 2 (by simp)
  have y3 := HXR.out.c 3 (by simp)
  have y4 := HXR.out.c 4 (by simp)
  have y5 := HXR.out.c 5 (by simp)
  have y6 := HXR.out.c 6 (by simp)
  have y7 := HXR.out.c 7 (by simp)
  simp only [List.getElem_cons_zero, List.getElem_cons_succ] at y0 y1 y2 y3 y4 y5 y6 y7
  have f0 := HXR.out.f 0
  have f1 := HXR.out.f 1
  have f2 := HXR.out.f 2
  have f3 := HXR.out.f 3
  have f4 := HXR.out.f 4
  have f5 := HXR.out.f 5
  have f6 := HXR.out.f 6
  have f7 := HXR.out.f 7
  have HZ : Hid (GBx ((((((((wc.setCell ⟨w.heap.size + 3, 0, none⟩ (.int .u8 kind)).setCell ⟨w.heap.size + 3, 1, none⟩ (.int .i64 tenant)).setCell ⟨w.heap.size + 3, 2, none⟩ (.slice av PK.length cp)).setCell ⟨w.heap.size + 3, 3, none⟩ (.string value)).setCell ⟨w.heap.size + 3, 4, none⟩ (.int .u32 flags)).setCell ⟨w.heap.size + 3, 5, none⟩ (.int .i64 life)).setCell ⟨w.heap.size + 3, 6, none⟩ (.int .u64 unique)).setCell ⟨w.heap.size + 3, 7, none⟩ (.int .u64 by_)) (w.heap.size + 3) [.int .u8 kind, .int .i64 tenant, .slice av PK.length cp, .string value, .int .u32 flags, .int .i64 life, .int .u64 unique, .int .u64 by_]) := ((((((((HXR.out.set 0 (.int .u8 kind) (by simp)).set 1 (.int .i64 tenant) (by simp)).set 2 (.slice av PK.length cp) (by simp)).set 3 (.string value) (by simp)).set 4 (.int .u32 flags) (by simp)).set 5 (.int .i64 life) (by simp)).set 6 (.int .u64 unique) (by simp)).set 7 (.int .u64 by_) (by simp))
  have HOZ := Hid.mk2 ((((((((HOX.out.other (w.heap.size + 3) 0 (.int .u8 kind) (by omega)).other (w.heap.size + 3) 1 (.int .i64 tenant) (by omega)).other (w.heap.size + 3) 2 (.slice av PK.length cp) (by omega)).other (w.heap.size + 3) 3 (.string value) (by omega)).other (w.heap.size + 3) 4 (.int .u32 flags) (by omega)).other (w.heap.size + 3) 5 (.int .i64 life) (by omega)).other (w.heap.size + 3) 6 (.int .u64 unique) (by omega)).other (w.heap.size + 3) 7 (.int .u64 by_) (by omega))
  have HBZ := Hid.mk2 ((((((((HBX.out.setCell (p := ⟨w.heap.size + 3, 0, none⟩) (by show w.heap.size ≤ w.heap.size + 3; omega) (.int .u8 kind)).setCell (p := ⟨w.heap.size + 3, 1, none⟩) (by show w.heap.size ≤ w.heap.size + 3; omega) (.int .i64 tenant)).setCell (p := ⟨w.heap.size + 3, 2, none⟩) (by show w.heap.size ≤ w.heap.size + 3; omega) (.slice av PK.length cp)).setCell (p := ⟨w.heap.size + 3, 3, none⟩) (by show w.heap.size ≤ w.heap.size + 3; omega) (.string value)).setCell (p := ⟨w.heap.size + 3, 4, none⟩) (by show w.heap.size ≤ w.heap.size + 3; omega) (.int .u32 flags)).setCell (p := ⟨w.heap.size + 3, 5, none⟩) (by show w.heap.size ≤ w.heap.size + 3; omega) (.int .i64 life)).setCell (p := ⟨w.heap.size + 3, 6, none⟩) (by show w.heap.size ≤ w.heap.size + 3; omega) (.int .u64 unique)).setCell (p := ⟨w.heap.size + 3, 7, none⟩) (by show w.heap.size ≤ w.heap.size + 3; omega) (.int .u64 by_))
  have z0 := HZ.out.c 0 (by simp)
  have z1 := HZ.out.c 1 (by simp)
  have z2 := HZ.out.c 2 (by simp)
  have z3 := HZ.out.c 3 (by simp)
  have z4 := HZ.out.c 4 (by simp)
  have z5 := HZ.out.c 5 (by simp)
  have z6 := HZ.out.c 6 (by simp)
  have z7 := HZ.out.c 7 (by simp)
  simp only [List.getElem_cons_zero, List.getElem_cons_succ] at z0 z1 z2 z3 z4 z5 z6 z7
  have Z0 := Hid.mk2 z0
  have Z1 := Hid.mk2 z1
  have Z2 := Hid.mk2 z2
  have Z3 := Hid.mk2 z3
  have Z4 := Hid.mk2 z4
  have Z5 := Hid.mk2 z5
  have Z6 := Hid.mk2 z6
  have Z7 := Hid.mk2 z7
  clear z0 z1 z2 z3 z4 z5 z6 z7
  go_wp2
  try simp only [Exit.inBlock, Exit.then]
  refine bodyPost_ret (v := .tuple #[.agg #[.int .u8 kind, .int .i64 tenant, .slice av PK.length cp, .string value, .int .u32 flags, .int .i64 life, .int .u64 unique, .int .u64 by_], .int .i64 0]) (by simp [results, Try.results16, go_sem, Z0.out, Z1.out, Z2.out, Z3.out, Z4.out, Z5.out, Z6.out, Z7.out]) rfl ⟨.slice av PK.length cp, rfl, ?_, HBZ.out⟩
  show GOwn ES _ _ _ _
  rw [HPQ.out]
  exact HOZ.out.down (by omega)
end Go.Proofs.Ytiefdflkbihmkaa
