/-
  OrderTells: which commands may be, their names, shards and parts are the document's; what is handed in stays. No conditions.
-/
import Derived.Test.YtiefdflkbihmkaaOrPf
import Derived.Test.YtiefdflkbihmkaaOrRefX
import Derived.Test.YtiefdflkbihmkaaGq
namespace Go.Proofs.Ytiefdflkbihmkaa
open Go.RowKit
set_option linter.unusedSimpArgs false
set_option linter.unusedVariables false
set_option maxRecDepth 100000

set_option maxHeartbeats 4000000 in
theorem orderTells_any (c : Cm) (ko : Option Addr) (kc : Nat) (sh n : Int) (w : World) (h : GRd ES w ko c.keys kc) :
    Calls Try.prog 4 #[.agg (c.arr (.slice ko c.keys.length kc)), .int .i64 sh, .int .i64 n] w fun e w' => e = .returned (.bool true) ∧ Below w.heap.size w w' := by
  have mixed : Try.prog.follows .mixedOrders = true := by kernel_rfl
  have HR := Hid.mk2 h
  have hlen := h.len
  have HLG := Hid.mk2 (fun W (hW : Below w.heap.size w W) => rlong_any c ko kc W (h.below hW))
  have HN1 := Hid.mk2 (fun W a cp (hg : GRd ES W a c.keys cp) => pnames_any c a cp W hg)
  have HN2 := Hid.mk2 (fun W (hW : Below w.heap.size w W) => rnames_any c ko kc W (h.below hW))
  have HS1 := Hid.mk2 (fun W a cp (hg : GRd ES W a c.keys cp) => pshards_any c a cp n W hg)
  have HS2 := Hid.mk2 (fun W (hW : Below w.heap.size w W) => rshards_any c ko kc n W (h.below hW))
  have HP1 := Hid.mk2 (fun W a cp (hg : GRd ES W a c.keys cp) => ppart_any c a cp sh n W hg)
  have HP2 := Hid.mk2 (fun W (hW : Below w.heap.size w W) => rpart_any c ko kc sh n W (h.below hW))
  have HC1 := Hid.mk2 (fun W a cp (hg : GRd ES W a c.keys cp) => pcheck_any c a cp W hg)
  have HC2 := Hid.mk2 (fun W (hW : Below w.heap.size w W) => rcheck10_any c ko kc W (h.below hW))
  have HSM := Hid.mk2 (fun W a cp b cq (ha : GRd ES W a (c.prt sh n).keys cp) (hb : GRd ES W b (c.prt sh n).keys cq) => samec_any (c.prt sh n) a b cp cq W ha hb)
  have HSO := Hid.mk2 (fun W a cp (ha : GRd ES W a c.keys cp) (hb : Below w.heap.size w W) => samec_any c a ko cp kc W ha (h.below hb))
  have HRE := Hid.mk2 (fun W => preads_any c.kind W)
  have hl40 : c.lg = false → c.keys.length ≤ 40 := by
    intro e
    unfold Cm.lg at e
    simp only [Bool.or_eq_false_iff, decide_eq_false_iff_not] at e
    omega
  obtain ⟨G, hG⟩ : ∃ G, G = c.lg := ⟨_, rfl⟩
  obtain ⟨NM, hNM⟩ : ∃ NM, NM = c.nmL := ⟨_, rfl⟩
  obtain ⟨CE, hCE⟩ : ∃ CE, CE = c.chkE := ⟨_, rfl⟩
  obtain ⟨SL, hSL⟩ : ∃ SL, SL = c.shL n := ⟨_, rfl⟩
  obtain ⟨SE, hSE⟩ : ∃ SE, SE = c.shE n := ⟨_, rfl⟩
  obtain ⟨P, hP⟩ : ∃ P, P = c.prt sh n := ⟨_, rfl⟩
  obtain ⟨PE, hPE⟩ : ∃ PE, PE = c.prE sh n := ⟨_, rfl⟩
  rw [← hG] at HLG hl40
  rw [← hNM, ← hCE] at HN1 HN2
  rw [← hSL, ← hSE] at HS1 HS2
  rw [← hP, ← hPE] at HP1 HP2
  rw [← hCE] at HC1 HC2
  rw [← hP] at HSM
  have HL4 := Hid.mk2 hl40
  clear hG hNM hCE hSL hSE hP hPE h hl40
  obtain ⟨W, hW⟩ : ∃ W, W = w.alloc (.cells (c.arr (.slice ko c.keys.length kc)) 27) := ⟨_, rfl⟩
  have HB : Hid (Below w.heap.size w W) := by rw [hW]; exact g_alloc _ _
  have HX0 : Hid (GBx W w.heap.size (c.cl (.slice ko c.keys.length kc))) := by rw [hW]; exact GBx.made w (c.cl (.slice ko c.keys.length kc)) _
  obtain ⟨kind, tenant, keys, value, flags, life, unique, by_⟩ := c
  obtain ⟨pkind, ptenant, PK, pvalue, pflags, plife, punique, pby⟩ := P
  unfold Cm.arr at *
  unfold Cm.cl at HX0
  dsimp only at *
  have c0 := HX0.out.c 0 (by simp)
  have c1 := HX0.out.c 1 (by simp)
  have c2 := HX0.out.c 2 (by simp)
  have c3 := HX0.out.c 3 (by simp)
  have c4 := HX0.out.c 4 (by simp)
  have c5 := HX0.out.c 5 (by simp)
  have c6 := HX0.out.c 6 (by simp)
  have c7 := HX0.out.c 7 (by simp)
  simp only [List.getElem_cons_zero, List.getElem_cons_succ] at c0 c1 c2 c3 c4 c5 c6 c7
  have hlt := HX0.out.lt
  go_enter Try.func4, Try.ntmps4
  go_upto_region 1 with (fail)
  rw [← hW]
  clear hW
  cases G
  case true =>
    go_wp2_with (go_at_call 12; refine (HLG.out _ HB.out).mono ?_; rintro e w9 ⟨rfl, hb9⟩)
    go_ret
    exact ⟨rfl, g_on HB.out hb9⟩
  have hk40 := HL4.out rfl
  go_upto_region 5 with (go_at_call 12; refine (HLG.out _ HB.out).mono ?_; rintro e w9 ⟨rfl, hb9⟩; have HB9 := Hid.mk2 (g_on HB.out hb9); have HX09 := Hid.mk2 (HX0.out.below hb9); clear HB HX0; have HB := HB9; have HX0 := HX09; clear HB9 HX09; clear c0 c1 c2 c3 c4 c5 c6 c7 hlt; have hlt := HX0.out.lt; have c0 := HX0.out.c 0 (by simp); have c1 := HX0.out.c 1 (by simp); have c2 := HX0.out.c 2 (by simp); have c3 := HX0.out.c 3 (by simp); have c4 := HX0.out.c 4 (by simp); have c5 := HX0.out.c 5 (by simp); have c6 := HX0.out.c 6 (by simp); have c7 := HX0.out.c 7 (by simp); simp only [List.getElem_cons_zero, List.getElem_cons_succ] at c0 c1 c2 c3 c4 c5 c6 c7)
  obtain ⟨Wo, hWo⟩ : ∃ Wo, Wo = w9.alloc (.cells #[.int .u8 kind, .int .i64 tenant, .slice none 0 0, .string value, .int .u32 flags, .int .i64 life, .int .u64 unique, .int .u64 by_] 27) := ⟨_, rfl⟩
  have HX1 : Hid (GBx Wo w9.heap.size [.int .u8 kind, .int .i64 tenant, .slice none 0 0, .string value, .int .u32 flags, .int .i64 life, .int .u64 unique, .int .u64 by_]) := by rw [hWo]; exact GBx.made w9 [.int .u8 kind, .int .i64 tenant, .slice none 0 0, .string value, .int .u32 flags, .int .i64 life, .int .u64 unique, .int .u64 by_] 27
  have HB9 : Hid (Below w.heap.size w Wo) := by rw [hWo]; exact g_on HB.out (g_alloc _ _)
  have HX9 : Hid (GBx Wo w.heap.size [.int .u8 kind, .int .i64 tenant, .slice ko keys.length kc, .string value, .int .u32 flags, .int .i64 life, .int .u64 unique, .int .u64 by_]) := by rw [hWo]; exact HX0.out.alloc _
  have hw9s : w9.heap.size + 1 = Wo.heap.size := by rw [hWo]; simp
  have hw9l : w.heap.size < w9.heap.size := hlt
  rw [← hWo]
  clear hWo HB HX0 c0 c1 c2 c3 c4 c5 c6 c7 hlt
  have HB := HB9
  have HX0 := HX9
  clear HB9 HX9
  obtain ⟨B1, hB1⟩ : ∃ B1, B1 = w9.heap.size := ⟨_, rfl⟩
  rw [← hB1] at HX1 hw9s hw9l ⊢
  clear hB1
  have hlt := HX0.out.lt
  have c2 := HX0.out.c 2 (by simp)
  have o2 := HX1.out.c 2 (by simp)
  have of2 := HX1.out.f 2
  simp only [List.getElem_cons_zero, List.getElem_cons_succ] at c2 o2
  go_cut [] from 23 (fun wx => ∃ (av : Option Addr) (cp : Nat), Hid (Below w.heap.size w wx) ∧ Hid (GBx wx w.heap.size [.int .u8 kind, .int .i64 tenant, .slice ko keys.length kc, .string value, .int .u32 flags, .int .i64 life, .int .u64 unique, .int .u64 by_]) ∧ Hid (GBx wx B1 [.int .u8 kind, .int .i64 tenant, .slice av keys.length cp, .string value, .int .u32 flags, .int .i64 life, .int .u64 unique, .int .u64 by_]) ∧ Hid (GOwn ES wx (B1 + 1) (.slice av keys.length cp) keys) ∧ Hid (B1 + 1 ≤ wx.heap.size))
  case first =>
    go_wp2_with (at_builtin; refine g_app okS rfl _ _ _ rfl rfl Wo.heap.size _ [] (GOwn.nil _ _) rfl ko kc keys _ rfl rfl (HR.out.below HB.out) (by simp; omega) (Nat.le_refl _) ?_; intro v7 w7 hO7 hG7; obtain ⟨av, cp, hv7, -⟩ := hO7.rd okS; subst hv7; have HO7 := Hid.mk2 hO7; have HG7 := Hid.mk2 hG7.grown; clear hO7 hG7; have z2 := (HX1.out.grown HG7.out (by intro e; cases e)).c 2 (by simp); have zf := (HX1.out.grown HG7.out (by intro e; cases e)).f 2; simp only [List.getElem_cons_zero, List.getElem_cons_succ] at z2)
    go_meet
    case rel => exact ⟨av, cp, (g_on HB.out (g_grown_below HG7.out)).setCell (p := ⟨B1, 2, none⟩) (by show w.heap.size ≤ B1; omega) _, (HX0.out.grown HG7.out (by intro e; cases e)).other 2 _ (by omega), (HX1.out.grown HG7.out (by intro e; cases e)).set 2 (.slice av keys.length cp) (by simp), by show GOwn _ _ _ _ _; rw [hw9s]; exact HO7.out.other B1 2 _ (by omega), (by show _ ≤ _; have := HG7.out.size; simp; omega)⟩
  case rest =>
  obtain ⟨av, cp, HBn, HX0n, HX1n, HVO, HSZ⟩ := hcut
  clear HB HX0 HX1 hlt c2 o2 of2
  have HB := HBn
  have HX0 := HX0n
  have HX1 := HX1n
  clear HBn HX0n HX1n
  have hlt := HX0.out.lt
  have hlo := HX1.out.lt
  have c0 := HX0.out.c 0 (by simp)
  have c1 := HX0.out.c 1 (by simp)
  have c2 := HX0.out.c 2 (by simp)
  have c3 := HX0.out.c 3 (by simp)
  have c4 := HX0.out.c 4 (by simp)
  have c5 := HX0.out.c 5 (by simp)
  have c6 := HX0.out.c 6 (by simp)
  have c7 := HX0.out.c 7 (by simp)
  simp only [List.getElem_cons_zero, List.getElem_cons_succ] at c0 c1 c2 c3 c4 c5 c6 c7
  have o0 := HX1.out.c 0 (by simp)
  have o1 := HX1.out.c 1 (by simp)
  have o2 := HX1.out.c 2 (by simp)
  have o3 := HX1.out.c 3 (by simp)
  have o4 := HX1.out.c 4 (by simp)
  have o5 := HX1.out.c 5 (by simp)
  have o6 := HX1.out.c 6 (by simp)
  have o7 := HX1.out.c 7 (by simp)
  simp only [List.getElem_cons_zero, List.getElem_cons_succ] at o0 o1 o2 o3 o4 o5 o6 o7
  obtain ⟨w2, hw2⟩ : ∃ w2, w2 = wc := ⟨_, rfl⟩
  rw [← hw2] at HB HX0 HX1 HVO HSZ hlt hlo c0 c1 c2 c3 c4 c5 c6 c7 o0 o1 o2 o3 o4 o5 o6 o7 ⊢
  clear hw2
  have HW2 := Hid.mk2 (Below.refl w2.heap.size w2)
  go_upto_region 10 with (first
    | (go_at_call 13; refine (HN1.out _ av cp (HVO.out.rdOf okS)).mono ?_; rintro e w9 ⟨v9, rfl, hO9, hb9⟩; obtain ⟨na, nc, hv9, hr9⟩ := hO9.rd okN; subst hv9; have HNA := Hid.mk2 hr9; clear hO9 hr9; have HB9 := Hid.mk2 (g_on HB.out hb9); have HX09 := Hid.mk2 (HX0.out.below hb9); have HX19 := Hid.mk2 (HX1.out.below hb9); have HVO9 := Hid.mk2 (HVO.out.below hb9); clear HB HX0 HX1 HVO; have HB := HB9; have HX0 := HX09; have HX1 := HX19; have HVO := HVO9; clear HB9 HX09 HX19 HVO9; clear c0 c1 c2 c3 c4 c5 c6 c7 hlt; have hlt := HX0.out.lt; have c0 := HX0.out.c 0 (by simp); have c1 := HX0.out.c 1 (by simp); have c2 := HX0.out.c 2 (by simp); have c3 := HX0.out.c 3 (by simp); have c4 := HX0.out.c 4 (by simp); have c5 := HX0.out.c 5 (by simp); have c6 := HX0.out.c 6 (by simp); have c7 := HX0.out.c 7 (by simp); simp only [List.getElem_cons_zero, List.getElem_cons_succ] at c0 c1 c2 c3 c4 c5 c6 c7; clear o0 o1 o2 o3 o4 o5 o6 o7 hlo; have hlo := HX1.out.lt; have o0 := HX1.out.c 0 (by simp); have o1 := HX1.out.c 1 (by simp); have o2 := HX1.out.c 2 (by simp); have o3 := HX1.out.c 3 (by simp); have o4 := HX1.out.c 4 (by simp); have o5 := HX1.out.c 5 (by simp); have o6 := HX1.out.c 6 (by simp); have o7 := HX1.out.c 7 (by simp); simp only [List.getElem_cons_zero, List.getElem_cons_succ] at o0 o1 o2 o3 o4 o5 o6 o7; clear hb9)
    | (go_at_call 14; refine (HN2.out _ HB.out).mono ?_; rintro e w9 ⟨v9, rfl, hO9, hb9⟩; obtain ⟨ma, mc, hv9, hr9⟩ := hO9.rd okN; subst hv9; have HNB := Hid.mk2 hr9; clear hO9 hr9; have HB9 := Hid.mk2 (g_on HB.out hb9); have HX09 := Hid.mk2 (HX0.out.below hb9); have HX19 := Hid.mk2 (HX1.out.below hb9); have HVO9 := Hid.mk2 (HVO.out.below hb9); have HNA9 := Hid.mk2 (HNA.out.below hb9); clear HB HX0 HX1 HVO HNA; have HB := HB9; have HX0 := HX09; have HX1 := HX19; have HVO := HVO9; have HNA := HNA9; clear HB9 HX09 HX19 HVO9 HNA9; clear c0 c1 c2 c3 c4 c5 c6 c7 hlt; have hlt := HX0.out.lt; have c0 := HX0.out.c 0 (by simp); have c1 := HX0.out.c 1 (by simp); have c2 := HX0.out.c 2 (by simp); have c3 := HX0.out.c 3 (by simp); have c4 := HX0.out.c 4 (by simp); have c5 := HX0.out.c 5 (by simp); have c6 := HX0.out.c 6 (by simp); have c7 := HX0.out.c 7 (by simp); simp only [List.getElem_cons_zero, List.getElem_cons_succ] at c0 c1 c2 c3 c4 c5 c6 c7; clear o0 o1 o2 o3 o4 o5 o6 o7 hlo; have hlo := HX1.out.lt; have o0 := HX1.out.c 0 (by simp); have o1 := HX1.out.c 1 (by simp); have o2 := HX1.out.c 2 (by simp); have o3 := HX1.out.c 3 (by simp); have o4 := HX1.out.c 4 (by simp); have o5 := HX1.out.c 5 (by simp); have o6 := HX1.out.c 6 (by simp); have o7 := HX1.out.c 7 (by simp); simp only [List.getElem_cons_zero, List.getElem_cons_succ] at o0 o1 o2 o3 o4 o5 o6 o7; clear hb9)
    | (go_at_call 8; refine (HS1.out _ av cp (HVO.out.rdOf okS)).mono ?_; rintro e w9 ⟨v9, rfl, hO9, hb9⟩; obtain ⟨la, lc, hv9, hr9⟩ := hO9.rd okI; subst hv9; have HLA := Hid.mk2 hr9; clear hO9 hr9; have HB9 := Hid.mk2 (g_on HB.out hb9); have HX09 := Hid.mk2 (HX0.out.below hb9); have HX19 := Hid.mk2 (HX1.out.below hb9); have HVO9 := Hid.mk2 (HVO.out.below hb9); have HNA9 := Hid.mk2 (HNA.out.below hb9); have HNB9 := Hid.mk2 (HNB.out.below hb9); clear HB HX0 HX1 HVO HNA HNB; have HB := HB9; have HX0 := HX09; have HX1 := HX19; have HVO := HVO9; have HNA := HNA9; have HNB := HNB9; clear HB9 HX09 HX19 HVO9 HNA9 HNB9; clear c0 c1 c2 c3 c4 c5 c6 c7 hlt; have hlt := HX0.out.lt; have c0 := HX0.out.c 0 (by simp); have c1 := HX0.out.c 1 (by simp); have c2 := HX0.out.c 2 (by simp); have c3 := HX0.out.c 3 (by simp); have c4 := HX0.out.c 4 (by simp); have c5 := HX0.out.c 5 (by simp); have c6 := HX0.out.c 6 (by simp); have c7 := HX0.out.c 7 (by simp); simp only [List.getElem_cons_zero, List.getElem_cons_succ] at c0 c1 c2 c3 c4 c5 c6 c7; clear o0 o1 o2 o3 o4 o5 o6 o7 hlo; have hlo := HX1.out.lt; have o0 := HX1.out.c 0 (by simp); have o1 := HX1.out.c 1 (by simp); have o2 := HX1.out.c 2 (by simp); have o3 := HX1.out.c 3 (by simp); have o4 := HX1.out.c 4 (by simp); have o5 := HX1.out.c 5 (by simp); have o6 := HX1.out.c 6 (by simp); have o7 := HX1.out.c 7 (by simp); simp only [List.getElem_cons_zero, List.getElem_cons_succ] at o0 o1 o2 o3 o4 o5 o6 o7; clear hb9)
    | (go_at_call 15; refine (HS2.out _ HB.out).mono ?_; rintro e w9 ⟨v9, rfl, hO9, hb9⟩; obtain ⟨ra, rc, hv9, hr9⟩ := hO9.rd okI; subst hv9; have HLB := Hid.mk2 hr9; clear hO9 hr9; have HB9 := Hid.mk2 (g_on HB.out hb9); have HX09 := Hid.mk2 (HX0.out.below hb9); have HX19 := Hid.mk2 (HX1.out.below hb9); have HVO9 := Hid.mk2 (HVO.out.below hb9); have HNA9 := Hid.mk2 (HNA.out.below hb9); have HNB9 := Hid.mk2 (HNB.out.below hb9); have HLA9 := Hid.mk2 (HLA.out.below hb9); clear HB HX0 HX1 HVO HNA HNB HLA; have HB := HB9; have HX0 := HX09; have HX1 := HX19; have HVO := HVO9; have HNA := HNA9; have HNB := HNB9; have HLA := HLA9; clear HB9 HX09 HX19 HVO9 HNA9 HNB9 HLA9; clear c0 c1 c2 c3 c4 c5 c6 c7 hlt; have hlt := HX0.out.lt; have c0 := HX0.out.c 0 (by simp); have c1 := HX0.out.c 1 (by simp); have c2 := HX0.out.c 2 (by simp); have c3 := HX0.out.c 3 (by simp); have c4 := HX0.out.c 4 (by simp); have c5 := HX0.out.c 5 (by simp); have c6 := HX0.out.c 6 (by simp); have c7 := HX0.out.c 7 (by simp); simp only [List.getElem_cons_zero, List.getElem_cons_succ] at c0 c1 c2 c3 c4 c5 c6 c7; clear o0 o1 o2 o3 o4 o5 o6 o7 hlo; have hlo := HX1.out.lt; have o0 := HX1.out.c 0 (by simp); have o1 := HX1.out.c 1 (by simp); have o2 := HX1.out.c 2 (by simp); have o3 := HX1.out.c 3 (by simp); have o4 := HX1.out.c 4 (by simp); have o5 := HX1.out.c 5 (by simp); have o6 := HX1.out.c 6 (by simp); have o7 := HX1.out.c 7 (by simp); simp only [List.getElem_cons_zero, List.getElem_cons_succ] at o0 o1 o2 o3 o4 o5 o6 o7; clear hb9))
  obtain ⟨w3, hw3⟩ : ∃ w3, w3 = w9 := ⟨_, rfl⟩
  rw [← hw3] at HB HX0 HX1 HVO HNA HNB HLA HLB c0 c1 c2 c3 c4 c5 c6 c7 hlt o0 o1 o2 o3 o4 o5 o6 o7 hlo ⊢
  clear hw3
  have HS3 : Hid (B1 + 1 ≤ w3.heap.size) := by show B1 + 1 ≤ w3.heap.size; exact hlo
  have HVK : Hid (∀ k, (Value.slice av keys.length cp).ownBlock = some k → k < w3.heap.size) := fun k hk => (HVO.out.lt k hk).2
  go_cut [16, 17] from 23 (fun s16 s17 wx => ∃ (bx : Nat) (xa : Option Addr) (xc : Nat), s16 = .pointer (some ⟨bx, 0, none⟩) ∧ s17 = .int .i64 PE ∧ Hid (Below w3.heap.size w3 wx) ∧ Hid (GBx wx bx [.int .u8 pkind, .int .i64 ptenant, .slice xa PK.length xc, .string pvalue, .int .u32 pflags, .int .i64 plife, .int .u64 punique, .int .u64 pby]) ∧ Hid (GOwn ES wx w3.heap.size (.slice xa PK.length xc) PK) ∧ Hid (∀ k, (Value.slice xa PK.length xc).ownBlock = some k → k < bx))
  case first =>
    go_wp2_with (go_at_call 16; refine (HP1.out _ av cp (HVO.out.rdOf okS)).mono ?_; rintro e w9 ⟨v9, rfl, hO9, hb9⟩; obtain ⟨xa, xc, hv9, -⟩ := hO9.rd okS; subst hv9; have HO9 := Hid.mk2 hO9; have HB9 := Hid.mk2 hb9; clear hO9 hb9)
    go_meet
    case rel => exact ⟨w9.heap.size, xa, xc, rfl, rfl, g_on HB9.out (g_alloc _ _), GBx.made w9 [.int .u8 pkind, .int .i64 ptenant, .slice xa PK.length xc, .string pvalue, .int .u32 pflags, .int .i64 plife, .int .u64 punique, .int .u64 pby] 27, HO9.out.alloc _, fun k hk => (HO9.out.lt k hk).2⟩
  case rest =>
  obtain ⟨bx, xa, xc, rfl, rfl, HBX, HXX, HVX, HNX⟩ := hcut
  obtain ⟨w4, hw4⟩ : ∃ w4, w4 = wc := ⟨_, rfl⟩
  rw [← hw4] at HBX HXX HVX ⊢
  clear hw4
  have HB9 := Hid.mk2 (g_on HB.out HBX.out)
  have HX09 := Hid.mk2 (HX0.out.below HBX.out)
  have HX19 := Hid.mk2 (HX1.out.below HBX.out)
  have HVO9 := Hid.mk2 (HVO.out.below HBX.out)
  have HNA9 := Hid.mk2 (HNA.out.below HBX.out)
  have HNB9 := Hid.mk2 (HNB.out.below HBX.out)
  have HLA9 := Hid.mk2 (HLA.out.below HBX.out)
  have HLB9 := Hid.mk2 (HLB.out.below HBX.out)
  clear HB HX0 HX1 HVO HNA HNB HLA HLB
  have HB := HB9
  have HX0 := HX09
  have HX1 := HX19
  have HVO := HVO9
  have HNA := HNA9
  have HNB := HNB9
  have HLA := HLA9
  have HLB := HLB9
  clear HB9 HX09 HX19 HVO9 HNA9 HNB9 HLA9 HLB9
  clear c0 c1 c2 c3 c4 c5 c6 c7 hlt
  have hlt := HX0.out.lt
  have c0 := HX0.out.c 0 (by simp)
  have c1 := HX0.out.c 1 (by simp)
  have c2 := HX0.out.c 2 (by simp)
  have c3 := HX0.out.c 3 (by simp)
  have c4 := HX0.out.c 4 (by simp)
  have c5 := HX0.out.c 5 (by simp)
  have c6 := HX0.out.c 6 (by simp)
  have c7 := HX0.out.c 7 (by simp)
  simp only [List.getElem_cons_zero, List.getElem_cons_succ] at c0 c1 c2 c3 c4 c5 c6 c7
  clear o0 o1 o2 o3 o4 o5 o6 o7 hlo
  have hlo := HX1.out.lt
  have o0 := HX1.out.c 0 (by simp)
  have o1 := HX1.out.c 1 (by simp)
  have o2 := HX1.out.c 2 (by simp)
  have o3 := HX1.out.c 3 (by simp)
  have o4 := HX1.out.c 4 (by simp)
  have o5 := HX1.out.c 5 (by simp)
  have o6 := HX1.out.c 6 (by simp)
  have o7 := HX1.out.c 7 (by simp)
  simp only [List.getElem_cons_zero, List.getElem_cons_succ] at o0 o1 o2 o3 o4 o5 o6 o7
  go_upto_region 11 with (fail)
  go_cut [18, 19] from 23 (fun s18 s19 wx => ∃ (bz : Nat) (ya : Option Addr) (yc : Nat), s18 = .pointer (some ⟨bz, 0, none⟩) ∧ s19 = .int .i64 PE ∧ Hid (Below w4.heap.size w4 wx) ∧ Hid (GBx wx bz [.int .u8 pkind, .int .i64 ptenant, .slice ya PK.length yc, .string pvalue, .int .u32 pflags, .int .i64 plife, .int .u64 punique, .int .u64 pby]) ∧ Hid (GRd ES wx ya PK yc))
  case first =>
    go_wp2_with (go_at_call 17; refine (HP2.out _ HB.out).mono ?_; rintro e w9 ⟨v9, rfl, hO9, hb9⟩; obtain ⟨ya, yc, hv9, hr9⟩ := hO9.rd okS; subst hv9; have HR9 := Hid.mk2 hr9; have HB9 := Hid.mk2 hb9; clear hO9 hb9 hr9)
    go_meet
    case rel => exact ⟨w9.heap.size, ya, yc, rfl, rfl, g_on HB9.out (g_alloc _ _), GBx.made w9 [.int .u8 pkind, .int .i64 ptenant, .slice ya PK.length yc, .string pvalue, .int .u32 pflags, .int .i64 plife, .int .u64 punique, .int .u64 pby] 27, HR9.out.alloc _⟩
  case rest =>
  obtain ⟨bz, ya, yc, rfl, rfl, HBY, HXZ, HVY⟩ := hcut
  obtain ⟨w5, hw5⟩ : ∃ w5, w5 = wc := ⟨_, rfl⟩
  rw [← hw5] at HBY HXZ HVY ⊢
  clear hw5
  have HB9 := Hid.mk2 (g_on HB.out HBY.out)
  have HX09 := Hid.mk2 (HX0.out.below HBY.out)
  have HX19 := Hid.mk2 (HX1.out.below HBY.out)
  have HVO9 := Hid.mk2 (HVO.out.below HBY.out)
  have HNA9 := Hid.mk2 (HNA.out.below HBY.out)
  have HNB9 := Hid.mk2 (HNB.out.below HBY.out)
  have HLA9 := Hid.mk2 (HLA.out.below HBY.out)
  have HLB9 := Hid.mk2 (HLB.out.below HBY.out)
  have HXX9 := Hid.mk2 (HXX.out.below HBY.out)
  have HVX9 := Hid.mk2 (HVX.out.below HBY.out)
  clear HB HX0 HX1 HVO HNA HNB HLA HLB HXX HVX
  have HB := HB9
  have HX0 := HX09
  have HX1 := HX19
  have HVO := HVO9
  have HNA := HNA9
  have HNB := HNB9
  have HLA := HLA9
  have HLB := HLB9
  have HXX := HXX9
  have HVX := HVX9
  clear HB9 HX09 HX19 HVO9 HNA9 HNB9 HLA9 HLB9 HXX9 HVX9
  clear c0 c1 c2 c3 c4 c5 c6 c7 hlt
  have hlt := HX0.out.lt
  have c0 := HX0.out.c 0 (by simp)
  have c1 := HX0.out.c 1 (by simp)
  have c2 := HX0.out.c 2 (by simp)
  have c3 := HX0.out.c 3 (by simp)
  have c4 := HX0.out.c 4 (by simp)
  have c5 := HX0.out.c 5 (by simp)
  have c6 := HX0.out.c 6 (by simp)
  have c7 := HX0.out.c 7 (by simp)
  simp only [List.getElem_cons_zero, List.getElem_cons_succ] at c0 c1 c2 c3 c4 c5 c6 c7
  clear o0 o1 o2 o3 o4 o5 o6 o7 hlo
  have hlo := HX1.out.lt
  have o0 := HX1.out.c 0 (by simp)
  have o1 := HX1.out.c 1 (by simp)
  have o2 := HX1.out.c 2 (by simp)
  have o3 := HX1.out.c 3 (by simp)
  have o4 := HX1.out.c 4 (by simp)
  have o5 := HX1.out.c 5 (by simp)
  have o6 := HX1.out.c 6 (by simp)
  have o7 := HX1.out.c 7 (by simp)
  simp only [List.getElem_cons_zero, List.getElem_cons_succ] at o0 o1 o2 o3 o4 o5 o6 o7
  have hlx := HXX.out.lt
  have hlz := HXZ.out.lt
  have x0 := HXX.out.c 0 (by simp)
  have x1 := HXX.out.c 1 (by simp)
  have x2 := HXX.out.c 2 (by simp)
  have x3 := HXX.out.c 3 (by simp)
  have x4 := HXX.out.c 4 (by simp)
  have x5 := HXX.out.c 5 (by simp)
  have x6 := HXX.out.c 6 (by simp)
  have x7 := HXX.out.c 7 (by simp)
  simp only [List.getElem_cons_zero, List.getElem_cons_succ] at x0 x1 x2 x3 x4 x5 x6 x7
  have y0 := HXZ.out.c 0 (by simp)
  have y1 := HXZ.out.c 1 (by simp)
  have y2 := HXZ.out.c 2 (by simp)
  have y3 := HXZ.out.c 3 (by simp)
  have y4 := HXZ.out.c 4 (by simp)
  have y5 := HXZ.out.c 5 (by simp)
  have y6 := HXZ.out.c 6 (by simp)
  have y7 := HXZ.out.c 7 (by simp)
  simp only [List.getElem_cons_zero, List.getElem_cons_succ] at y0 y1 y2 y3 y4 y5 y6 y7
  go_upto_region 12 with (fail)
  go_cut [117] from 23 (fun s117 wx => s117 = .bool false ∧ Hid (Below w5.heap.size w5 wx))
  case first =>
    have d0 : ∀ p : Beh w5, p.v.cell? ⟨w.heap.size, 0, none⟩ = _ := cell_beh hlt c0
    have e0 : ∀ p : Beh w5, p.v.cell? ⟨B1, 0, none⟩ = _ := cell_beh hlo o0
    have f0 : ∀ p : Beh w5, p.v.cell? ⟨bx, 0, none⟩ = _ := cell_beh hlx x0
    have g0 : ∀ p : Beh w5, p.v.cell? ⟨bz, 0, none⟩ = _ := cell_beh hlz y0
    have d1 : ∀ p : Beh w5, p.v.cell? ⟨w.heap.size, 1, none⟩ = _ := cell_beh hlt c1
    have e1 : ∀ p : Beh w5, p.v.cell? ⟨B1, 1, none⟩ = _ := cell_beh hlo o1
    have f1 : ∀ p : Beh w5, p.v.cell? ⟨bx, 1, none⟩ = _ := cell_beh hlx x1
    have g1 : ∀ p : Beh w5, p.v.cell? ⟨bz, 1, none⟩ = _ := cell_beh hlz y1
    have d2 : ∀ p : Beh w5, p.v.cell? ⟨w.heap.size, 2, none⟩ = _ := cell_beh hlt c2
    have e2 : ∀ p : Beh w5, p.v.cell? ⟨B1, 2, none⟩ = _ := cell_beh hlo o2
    have f2 : ∀ p : Beh w5, p.v.cell? ⟨bx, 2, none⟩ = _ := cell_beh hlx x2
    have g2 : ∀ p : Beh w5, p.v.cell? ⟨bz, 2, none⟩ = _ := cell_beh hlz y2
    have d3 : ∀ p : Beh w5, p.v.cell? ⟨w.heap.size, 3, none⟩ = _ := cell_beh hlt c3
    have e3 : ∀ p : Beh w5, p.v.cell? ⟨B1, 3, none⟩ = _ := cell_beh hlo o3
    have f3 : ∀ p : Beh w5, p.v.cell? ⟨bx, 3, none⟩ = _ := cell_beh hlx x3
    have g3 : ∀ p : Beh w5, p.v.cell? ⟨bz, 3, none⟩ = _ := cell_beh hlz y3
    have d4 : ∀ p : Beh w5, p.v.cell? ⟨w.heap.size, 4, none⟩ = _ := cell_beh hlt c4
    have e4 : ∀ p : Beh w5, p.v.cell? ⟨B1, 4, none⟩ = _ := cell_beh hlo o4
    have f4 : ∀ p : Beh w5, p.v.cell? ⟨bx, 4, none⟩ = _ := cell_beh hlx x4
    have g4 : ∀ p : Beh w5, p.v.cell? ⟨bz, 4, none⟩ = _ := cell_beh hlz y4
    have d5 : ∀ p : Beh w5, p.v.cell? ⟨w.heap.size, 5, none⟩ = _ := cell_beh hlt c5
    have e5 : ∀ p : Beh w5, p.v.cell? ⟨B1, 5, none⟩ = _ := cell_beh hlo o5
    have f5 : ∀ p : Beh w5, p.v.cell? ⟨bx, 5, none⟩ = _ := cell_beh hlx x5
    have g5 : ∀ p : Beh w5, p.v.cell? ⟨bz, 5, none⟩ = _ := cell_beh hlz y5
    have d6 : ∀ p : Beh w5, p.v.cell? ⟨w.heap.size, 6, none⟩ = _ := cell_beh hlt c6
    have e6 : ∀ p : Beh w5, p.v.cell? ⟨B1, 6, none⟩ = _ := cell_beh hlo o6
    have f6 : ∀ p : Beh w5, p.v.cell? ⟨bx, 6, none⟩ = _ := cell_beh hlx x6
    have g6 : ∀ p : Beh w5, p.v.cell? ⟨bz, 6, none⟩ = _ := cell_beh hlz y6
    have d7 : ∀ p : Beh w5, p.v.cell? ⟨w.heap.size, 7, none⟩ = _ := cell_beh hlt c7
    have e7 : ∀ p : Beh w5, p.v.cell? ⟨B1, 7, none⟩ = _ := cell_beh hlo o7
    have f7 : ∀ p : Beh w5, p.v.cell? ⟨bx, 7, none⟩ = _ := cell_beh hlx x7
    have g7 : ∀ p : Beh w5, p.v.cell? ⟨bz, 7, none⟩ = _ := cell_beh hlz y7
    have HQ1 := Hid.mk2 (fun p : Beh w5 => HC1.out p.v av cp ((HVO.out.rdOf okS).below p.ok))
    have HQ2 := Hid.mk2 (fun p : Beh w5 => HC2.out p.v (g_on HB.out p.ok))
    have HQ3 := Hid.mk2 (fun p : Beh w5 => HSM.out p.v xa xc ya yc ((HVX.out.rdOf okS).below p.ok) (HVY.out.below p.ok))
    clear c0 c1 c2 c3 c4 c5 c6 c7 hlt o0 o1 o2 o3 o4 o5 o6 o7 hlo x0 x1 x2 x3 x4 x5 x6 x7 y0 y1 y2 y3 y4 y5 y6 y7
    have hce := bne_f (rfl : CE = CE)
    have hse := bne_f (rfl : SE = SE)
    have hpe := bne_f (rfl : PE = PE)
    refine wp_region_quiet_beh (by assumption) (by kernel_rfl) ?_
    repeat (first | go_big_quiet_skip | (quiet_step (first
      | (go_at_call 18; exact Calls.beh_of (HQ1.out _))
      | (go_at_call 19; exact Calls.beh_of (HQ2.out _))
      | (go_at_call 20; exact Calls.beh_of (HQ3.out _))
      | (go_at_call 21; exact Calls.beh_same (HRE.out _)))))
    refine wpQuiet_nil ?_
    intro _ hw'
    obtain ⟨⟨wq, hq⟩, hw''⟩ := hw'
    subst hw''
    go_wp2
    go_meet
    case rel => exact ⟨by simp, hq⟩
  case rest =>
  obtain ⟨rfl, HBQ⟩ := hcut
  clear x0 x1 x2 x3 x4 x5 x6 x7 y0 y1 y2 y3 y4 y5 y6 y7 hlx hlz
  obtain ⟨w6, hw6⟩ : ∃ w6, w6 = wc := ⟨_, rfl⟩
  rw [← hw6] at HBQ ⊢
  clear hw6
  have HB9 := Hid.mk2 (g_on HB.out HBQ.out)
  have HX09 := Hid.mk2 (HX0.out.below HBQ.out)
  have HX19 := Hid.mk2 (HX1.out.below HBQ.out)
  have HVO9 := Hid.mk2 (HVO.out.below HBQ.out)
  have HNA9 := Hid.mk2 (HNA.out.below HBQ.out)
  have HNB9 := Hid.mk2 (HNB.out.below HBQ.out)
  have HLA9 := Hid.mk2 (HLA.out.below HBQ.out)
  have HLB9 := Hid.mk2 (HLB.out.below HBQ.out)
  have HXX9 := Hid.mk2 (HXX.out.below HBQ.out)
  have HVX9 := Hid.mk2 (HVX.out.below HBQ.out)
  have HXZ9 := Hid.mk2 (HXZ.out.below HBQ.out)
  have HVY9 := Hid.mk2 (HVY.out.below HBQ.out)
  clear HB HX0 HX1 HVO HNA HNB HLA HLB HXX HVX HXZ HVY
  have HB := HB9
  have HX0 := HX09
  have HX1 := HX19
  have HVO := HVO9
  have HNA := HNA9
  have HNB := HNB9
  have HLA := HLA9
  have HLB := HLB9
  have HXX := HXX9
  have HVX := HVX9
  have HXZ := HXZ9
  have HVY := HVY9
  clear HB9 HX09 HX19 HVO9 HNA9 HNB9 HLA9 HLB9 HXX9 HVX9 HXZ9 HVY9
  clear c0 c1 c2 c3 c4 c5 c6 c7 hlt
  have hlt := HX0.out.lt
  have c0 := HX0.out.c 0 (by simp)
  have c1 := HX0.out.c 1 (by simp)
  have c2 := HX0.out.c 2 (by simp)
  have c3 := HX0.out.c 3 (by simp)
  have c4 := HX0.out.c 4 (by simp)
  have c5 := HX0.out.c 5 (by simp)
  have c6 := HX0.out.c 6 (by simp)
  have c7 := HX0.out.c 7 (by simp)
  simp only [List.getElem_cons_zero, List.getElem_cons_succ] at c0 c1 c2 c3 c4 c5 c6 c7
  clear o0 o1 o2 o3 o4 o5 o6 o7 hlo
  have hlo := HX1.out.lt
  have o0 := HX1.out.c 0 (by simp)
  have o1 := HX1.out.c 1 (by simp)
  have o2 := HX1.out.c 2 (by simp)
  have o3 := HX1.out.c 3 (by simp)
  have o4 := HX1.out.c 4 (by simp)
  have o5 := HX1.out.c 5 (by simp)
  have o6 := HX1.out.c 6 (by simp)
  have o7 := HX1.out.c 7 (by simp)
  simp only [List.getElem_cons_zero, List.getElem_cons_succ] at o0 o1 o2 o3 o4 o5 o6 o7
  clear c0 c1 c2 c3 c4 c5 c6 c7 hlt o0 o1 o2 o3 o4 o5 o6 o7 hlo
  have hnl1 := HNA.out.len
  go_wp2
  go_loopw [20] (fun i wx => ∃ q : Nat, q ≤ NM.length ∧ i = .int .i64 q ∧ Hid (Below w6.heap.size w6 wx)) (fun i _ => NM.length - (intOf i).toNat)
  case atStart => exact ⟨0, Nat.zero_le _, rfl, Below.refl _ _⟩
  case round =>
    obtain ⟨q, hq, rfl, HBL⟩ := hrel
    by_cases hql : q < NM.length
    · have hql2 : (q : Int) < (NM.length : Int) := by omega
      have hne : NM ≠ [] := by intro e; rw [e] at hql; simp at hql
      obtain ⟨b1, f1, e1, hb1, hc1⟩ := (HNA.out.below HBL.out).nm hne
      obtain ⟨b2, f2, e2, hb2, hc2⟩ := (HNB.out.below HBL.out).nm hne
      subst e1 e2
      have r1 := (hc1 q hql).1
      have r2 := (hc1 q hql).2
      have r3 := (hc2 q hql).1
      have r4 := (hc2 q hql).2
      obtain ⟨nt, hnt⟩ : ∃ nt, nt = NM[q].1 := ⟨_, rfl⟩
      obtain ⟨nk, hnk⟩ : ∃ nk, nk = NM[q].2 := ⟨_, rfl⟩
      rw [← hnt] at r1 r3
      rw [← hnk] at r2 r4
      have hnte := bne_f (rfl : nt = nt)
      have hnke := ba_eq (rfl : nk = nk)
      clear hnt hnk
      clear hc1 hc2 hne
      go_upto_region 17 with (fail)
      go_quiet (fail)
      go_wp2
      go_roundw
      case rel => exact ⟨q + 1, by omega, by go_num, g_on HBL.out (g_drewN nq)⟩
      case measure => simp [intOf]; omega
    have hql2 : ¬ ((q : Int) < (NM.length : Int)) := by omega
    have HB7 := Hid.mk2 HBL.out
    obtain ⟨w7, hw7⟩ : ∃ w7, w7 = wr := ⟨_, rfl⟩
    rw [← hw7] at HB7 HBL ⊢
    clear hw7
    have HBn := Hid.mk2 (g_on HB.out HB7.out)
    have HX0n := Hid.mk2 (HX0.out.below HB7.out)
    have HX1n := Hid.mk2 (HX1.out.below HB7.out)
    have HVOn := Hid.mk2 (HVO.out.below HB7.out)
    have HNAn := Hid.mk2 (HNA.out.below HB7.out)
    have HNBn := Hid.mk2 (HNB.out.below HB7.out)
    have HLAn := Hid.mk2 (HLA.out.below HB7.out)
    have HLBn := Hid.mk2 (HLB.out.below HB7.out)
    have HXXn := Hid.mk2 (HXX.out.below HB7.out)
    have HVXn := Hid.mk2 (HVX.out.below HB7.out)
    have HXZn := Hid.mk2 (HXZ.out.below HB7.out)
    have HVYn := Hid.mk2 (HVY.out.below HB7.out)
    clear HB HX0 HX1 HVO HNA HNB HLA HLB HXX HVX HXZ HVY HB7 HBL
    have HB := HBn
    have HX0 := HX0n
    have HX1 := HX1n
    have HVO := HVOn
    have HNA := HNAn
    have HNB := HNBn
    have HLA := HLAn
    have HLB := HLBn
    have HXX := HXXn
    have HVX := HVXn
    have HXZ := HXZn
    have HVY := HVYn
    clear HBn HX0n HX1n HVOn HNAn HNBn HLAn HLBn HXXn HVXn HXZn HVYn
    have hnl2 := HLA.out.len
    go_wp2
    go_loopw [21] (fun i wx => ∃ q : Nat, q ≤ SL.length ∧ i = .int .i64 q ∧ Hid (Below w7.heap.size w7 wx)) (fun i _ => SL.length - (intOf i).toNat)
    case atStart => exact ⟨0, Nat.zero_le _, rfl, Below.refl _ _⟩
    case round =>
      obtain ⟨q, hq, rfl, HBL⟩ := hrel
      by_cases hql : q < SL.length
      · have hql2 : (q : Int) < (SL.length : Int) := by omega
        have hne : SL ≠ [] := by intro e; rw [e] at hql; simp at hql
        obtain ⟨b1, f1, e1, hb1, hc1⟩ := (HLA.out.below HBL.out).int hne
        obtain ⟨b2, f2, e2, hb2, hc2⟩ := (HLB.out.below HBL.out).int hne
        subst e1 e2
        have r1 := hc1 q hql
        have r2 := hc2 q hql
        obtain ⟨nt, hnt⟩ : ∃ nt, nt = SL[q] := ⟨_, rfl⟩
        rw [← hnt] at r1 r2
        have hnte := bne_f (rfl : nt = nt)
        clear hnt
        clear hc1 hc2 hne
        go_upto_region 22 with (fail)
        go_quiet (fail)
        go_wp2
        go_roundw
        case rel => exact ⟨q + 1, by omega, by go_num, g_on HBL.out (g_drewN nq)⟩
        case measure => simp [intOf]; omega
      have hql2 : ¬ ((q : Int) < (SL.length : Int)) := by omega
      have HB7 := Hid.mk2 HBL.out
      obtain ⟨w8, hw8⟩ : ∃ w8, w8 = wr := ⟨_, rfl⟩
      rw [← hw8] at HB7 HBL ⊢
      clear hw8
      have HBn := Hid.mk2 (g_on HB.out HB7.out)
      have HX0n := Hid.mk2 (HX0.out.below HB7.out)
      have HX1n := Hid.mk2 (HX1.out.below HB7.out)
      have HVOn := Hid.mk2 (HVO.out.below HB7.out)
      have HNAn := Hid.mk2 (HNA.out.below HB7.out)
      have HNBn := Hid.mk2 (HNB.out.below HB7.out)
      have HLAn := Hid.mk2 (HLA.out.below HB7.out)
      have HLBn := Hid.mk2 (HLB.out.below HB7.out)
      have HXXn := Hid.mk2 (HXX.out.below HB7.out)
      have HVXn := Hid.mk2 (HVX.out.below HB7.out)
      have HXZn := Hid.mk2 (HXZ.out.below HB7.out)
      have HVYn := Hid.mk2 (HVY.out.below HB7.out)
      clear HB HX0 HX1 HVO HNA HNB HLA HLB HXX HVX HXZ HVY HB7 HBL
      have HB := HBn
      have HX0 := HX0n
      have HX1 := HX1n
      have HVO := HVOn
      have HNA := HNAn
      have HNB := HNBn
      have HLA := HLAn
      have HLB := HLBn
      have HXX := HXXn
      have HVX := HVXn
      have HXZ := HXZn
      have HVY := HVYn
      clear HBn HX0n HX1n HVOn HNAn HNBn HLAn HLBn HXXn HVXn HXZn HVYn
      obtain ⟨row, hrow⟩ : ∃ row, row = (Value.slice xa PK.length xc).ownBlock := ⟨_, rfl⟩
      have HRW : Hid (∀ k, row = some k → w3.heap.size ≤ k ∧ k < bx) := fun k e => ⟨(HVX.out.lt k (by rw [← hrow]; exact e)).1, HNX.out k (by rw [← hrow]; exact e)⟩
      have HRO := Hid.mk2 hrow
      have hs3 := HS3.out
      have hxl := (HVX.out.rdOf okS).len
      clear hrow
      go_wp2
      go_loopw [22] (fun i wx => ∃ (q : Nat) (D : List ByteArray), q ≤ PK.length ∧ i = .int .i64 q ∧ Hid (w8.grownBy wx row) ∧ Hid (GOwn ES wx w3.heap.size (.slice xa PK.length xc) D)) (fun i _ => PK.length - (intOf i).toNat)
      case atStart => exact ⟨0, PK, Nat.zero_le _, rfl, World.grownBy.refl _ _, HVX⟩
      case round =>
        obtain ⟨q, D, hq, rfl, HGW, HDO⟩ := hrel
        by_cases hql : q < PK.length
        · have hql2 : (q : Int) < (PK.length : Int) := by omega
          have HXXr := Hid.mk2 (HXX.out.grown HGW.out (by intro e; have := HRW.out _ e; omega))
          have x2 := HXXr.out.c 2 (by simp)
          have hlx := HXXr.out.lt
          simp only [List.getElem_cons_zero, List.getElem_cons_succ] at x2
          rcases HDO.out.parts okS with ⟨e, _⟩ | ⟨g, cap', cur, e, hb, hg, hs, hn, hm, hc⟩
          · injection e with e1 e2 e3
            omega
          injection e with e1 e2 e3
          subst e1 e3
          obtain ⟨hT, e4, hb4, hm4⟩ := TRow.of HDO.out
          have r0 := hT.cell q (by omega)
          have rf := hT.frozen q
          obtain ⟨dq, hdq⟩ : ∃ dq, dq = D[q]'(by omega) := ⟨_, rfl⟩
          rw [← hdq] at r0
          have hrg : row = some g := HRO.out
          have HGN : Hid (w8.grownBy (wr.setCell ⟨g, q, none⟩ (.string ⟨#[119, 114, 105, 116, 116, 101, 110, 32, 111, 118, 101, 114]⟩)) row) := by
            show World.grownBy _ _ _
            have := g_set wr ⟨g, q, none⟩ (.string ⟨#[119, 114, 105, 116, 116, 101, 110, 32, 111, 118, 101, 114]⟩)
            rw [hrg] at HGW ⊢
            exact HGW.out.trans this
          have HON : Hid (GOwn ES (wr.setCell ⟨g, q, none⟩ (.string ⟨#[119, 114, 105, 116, 116, 101, 110, 32, 111, 118, 101, 114]⟩)) w3.heap.size (.slice (some ⟨g, 0, none⟩) PK.length xc) (D.set q ⟨#[119, 114, 105, 116, 116, 101, 110, 32, 111, 118, 101, 114]⟩)) := by
            have h5 := (hT.set q ⟨#[119, 114, 105, 116, 116, 101, 110, 32, 111, 118, 101, 114]⟩).own (base := w3.heap.size) hb4 hm4
            rw [List.length_set, ← e4] at h5
            exact h5
          clear hdq hrg hT hb hg hs hn hm hc e2 e4 hb4 hm4
          go_wp2
          go_roundw
          case rel => exact ⟨q + 1, _, by omega, by go_num, HGN, HON⟩
          case measure => simp [intOf]; omega
        · have hql2 : ¬ ((q : Int) < (PK.length : Int)) := by omega
          have hsw8 := HB.out.size
          have HXXr := Hid.mk2 (HXX.out.grown HGW.out (by intro e; have := HRW.out _ e; omega))
          have HX0r := Hid.mk2 (HX0.out.grown HGW.out (by intro e; have := HRW.out _ e; omega))
          have HX1r := Hid.mk2 (HX1.out.grown HGW.out (by intro e; have := HRW.out _ e; omega))
          have HVOr := Hid.mk2 (HVO.out.grown HGW.out (by intro k hk e; have h1 := HRW.out _ e; have h2 := HVK.out k hk; omega))
          have HBr : Hid (Below w.heap.size w wr) := HB.out.grown HGW.out hsw8 (fun k hk => by have h1 := HRW.out _ hk; omega)
          have x2 := HXXr.out.c 2 (by simp)
          have hlx := HXXr.out.lt
          simp only [List.getElem_cons_zero, List.getElem_cons_succ] at x2
          have hlt := HX0r.out.lt
          have hlo := HX1r.out.lt
          have c0 := HX0r.out.c 0 (by simp)
          have c1 := HX0r.out.c 1 (by simp)
          have c2 := HX0r.out.c 2 (by simp)
          have c3 := HX0r.out.c 3 (by simp)
          have c4 := HX0r.out.c 4 (by simp)
          have c5 := HX0r.out.c 5 (by simp)
          have c6 := HX0r.out.c 6 (by simp)
          have c7 := HX0r.out.c 7 (by simp)
          simp only [List.getElem_cons_zero, List.getElem_cons_succ] at c0 c1 c2 c3 c4 c5 c6 c7
          have o0 := HX1r.out.c 0 (by simp)
          have o1 := HX1r.out.c 1 (by simp)
          have o2 := HX1r.out.c 2 (by simp)
          have o3 := HX1r.out.c 3 (by simp)
          have o4 := HX1r.out.c 4 (by simp)
          have o5 := HX1r.out.c 5 (by simp)
          have o6 := HX1r.out.c 6 (by simp)
          have o7 := HX1r.out.c 7 (by simp)
          simp only [List.getElem_cons_zero, List.getElem_cons_succ] at o0 o1 o2 o3 o4 o5 o6 o7
          go_wp2_with (go_at_call 20; refine (HSO.out _ av cp (HVOr.out.rdOf okS) HBr.out).mono ?_; rintro e w9 ⟨rfl, hb9⟩)
          go_ret
          exact ⟨rfl, g_on HBr.out hb9⟩
end Go.Proofs.Ytiefdflkbihmkaa
