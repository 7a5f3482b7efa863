/-
  TicketNames, walked: the kinds' numbers, and the chapter's examples.
-/
import Derived.Test.YtbncanlkkgclbaaTkX
namespace Go.Proofs.Ytbncanlkkgclbaa
open Go.RowKit
set_option linter.unusedSimpArgs false
set_option linter.unusedVariables false
set_option maxRecDepth 100000

set_option maxHeartbeats 4000000 in
theorem ticketNames_any (w : World) : Calls Try.prog 6 #[] w fun e w' => e = .returned (.bool true) ∧ Below w.heap.size w w' := by
  have HN := Hid.mk2 (tnew_good 2 (by decide) (by decide) w)
  go_enter Try.func6, Try.ntmps6
  go_upto_region 2 with (go_at_call 25; refine HN.out.mono ?_; rintro e w1 ⟨g1, rfl, hg1, hq1, hb1⟩; have HG1 := Hid.mk2 hg1; have HQ1 := Hid.mk2 hq1; have HB1 := Hid.mk2 hb1; clear hg1 hq1 hb1)
  obtain ⟨W, hW⟩ : ∃ W, W = w1.alloc (.cells #[.int .i64 0, .slice (some ⟨g1, 0, none⟩) 2 2] 62) := ⟨_, rfl⟩
  obtain ⟨Q, hQ⟩ : ∃ Q, Q = w1.heap.size := ⟨_, rfl⟩
  have HA0 : Hid (Al w W Q g1 0 (List.replicate 2 nobox) q0) := by
    have hb := g_alloc w1 (.cells #[.int .i64 0, .slice (some ⟨g1, 0, none⟩) 2 2] 62)
    refine ⟨by rw [hW]; exact g_on HB1.out hb, by rw [hW, hQ]; exact GBx.made w1 [.int .i64 0, .slice (some ⟨g1, 0, none⟩) 2 2] _, ?_, by simp, by simp [dat, nobox, q0], by rw [hQ]; exact HB1.out.size⟩
    rw [hW]
    exact (HQ1.out.rd (by simp)).below hb
  rw [← hW, ← hQ]
  clear hW hQ HN HG1 HQ1 HB1
  have x0 := HA0.out.qb.c 0 (by simp)
  have x1 := HA0.out.qb.c 1 (by simp)
  have f0 := HA0.out.qb.f 0
  have f1 := HA0.out.qb.f 1
  have xlt := HA0.out.qb.lt
  simp only [List.getElem_cons_zero, List.getElem_cons_succ] at x0 x1
  have HPT : Hid (∀ (V : World) (ao : Option Addr), Below W.heap.size W V → GRd ES V ao [ka] 1 → Calls Try.prog 26 #[.agg #[.int .i64 0, .slice (some ⟨g1, 0, none⟩) 2 2], .agg ((getT [ka]).arr (.slice ao 1 1))] V fun e w' => ∃ g6 B6, e = .returned (.tuple #[.agg #[.int .i64 1, .slice (some ⟨g6, 0, none⟩) 2 2], .int .i64 0, .int .i64 0]) ∧ V.heap.size ≤ g6 ∧ Qo w' V.heap.size g6 B6 ∧ dat B6 = q1 ∧ Below V.heap.size V w') := by
    intro V ao hV hk
    have h9 := put_ok (List.replicate 2 nobox) (some ⟨g1, 0, none⟩) 2 2 HA0.out.len.symm 0 (by rw [HA0.out.dt]; exact ok0) (getT [ka]) may_A (by decide) (by rw [HA0.out.dt]; exact fullIn_few few0 (by decide) _) ao 1 1 rfl V (HA0.out.rd.below hV) hk
    rw [HA0.out.len, HA0.out.dt] at h9
    exact h9
  go_cut [] from 23 (fun wx => ∃ g6 B6, Hid (Al w wx Q g6 1 B6 q1))
  case first =>
    go_region_with (first
      | (go_at_call 28; refine (key0_any _).mono ?_; rintro e w4 ⟨rfl, hb4⟩; have HB4 : Hid (Below W.heap.size W w4) := (by first | exact g_drew hb4 | exact hb4); have HGN := Hid.mk2 (g_new okS w4 ka); have p0 := (HB4.out.cell (p := ⟨Q, 0, none⟩) xlt).trans x0; have p1 := (HB4.out.cell (p := ⟨Q, 1, none⟩) xlt).trans x1; have plt := Nat.lt_of_lt_of_le xlt HB4.out.size; clear hb4)
      | (go_at_call 27; refine (get_any [ka] _ _ _ _).mono ?_; rintro e w5 ⟨rfl, hb5⟩; have HB5 : Hid (Below W.heap.size W w5) := g_on HB4.out (g_behind hb5); have HK5 := Hid.mk2 (HGN.out.below hb5); have r0 := (HB5.out.cell (p := ⟨Q, 0, none⟩) xlt).trans x0; have r1 := (HB5.out.cell (p := ⟨Q, 1, none⟩) xlt).trans x1; have rlt := Nat.lt_of_lt_of_le xlt HB5.out.size; clear hb5)
      | (go_at_call 26; refine (HPT.out w5 _ HB5.out HK5.out).mono ?_; rintro e w6 ⟨g6, B6, rfl, hg6, hq6, hd6, hb6⟩; have HG6 := Hid.mk2 hg6; have HQ6 := Hid.mk2 hq6; have HD6 := Hid.mk2 hd6; have HB6 := Hid.mk2 hb6; have HX6 := Hid.mk2 ((HA0.out.qb.below HB5.out).below hb6); have v0 := HX6.out.c 0 (by simp); have v1 := HX6.out.c 1 (by simp); have d0 := HX6.out.f 0; have d1 := HX6.out.f 1; have vlt := HX6.out.lt; simp only [List.getElem_cons_zero, List.getElem_cons_succ] at v0 v1; clear hg6 hq6 hd6 hb6))
    all_goals
      go_wp2_with fail
      go_meet
      case rel => exact ⟨g6, B6, HA0.out.next HB5.out HB6.out HQ6.out HG6.out HD6.out (by decide)⟩
  case rest =>
  obtain ⟨g2, B2, HA2⟩ := hcut
  obtain ⟨W2, hW2⟩ : ∃ W2, W2 = wc := ⟨_, rfl⟩
  rw [← hW2] at HA2 ⊢
  clear hW2 x0 x1 f0 f1 xlt HPT HA0
  go_upto_region 3 with (fail)
  have x0 := HA2.out.qb.c 0 (by simp)
  have x1 := HA2.out.qb.c 1 (by simp)
  have f0 := HA2.out.qb.f 0
  have f1 := HA2.out.qb.f 1
  have xlt := HA2.out.qb.lt
  simp only [List.getElem_cons_zero, List.getElem_cons_succ] at x0 x1
  have HPT : Hid (∀ (V : World) (ao : Option Addr), Below W2.heap.size W2 V → GRd ES V ao [ka, kb] 2 → Calls Try.prog 26 #[.agg #[.int .i64 1, .slice (some ⟨g2, 0, none⟩) 2 2], .agg ((getT [ka, kb]).arr (.slice ao 2 2))] V fun e w' => ∃ g6 B6, e = .returned (.tuple #[.agg #[.int .i64 2, .slice (some ⟨g6, 0, none⟩) 2 2], .int .i64 1, .int .i64 0]) ∧ V.heap.size ≤ g6 ∧ Qo w' V.heap.size g6 B6 ∧ dat B6 = q2 ∧ Below V.heap.size V w') := by
    intro V ao hV hk
    have h9 := put_ok B2 (some ⟨g2, 0, none⟩) 2 2 HA2.out.len.symm 1 (by rw [HA2.out.dt]; exact ok1) (getT [ka, kb]) may_B (by decide) (by rw [HA2.out.dt]; exact fullIn_few few1 (by decide) _) ao 2 2 rfl V (HA2.out.rd.below hV) hk
    rw [HA2.out.len, HA2.out.dt] at h9
    exact h9
  go_cut [] from 23 (fun wx => ∃ g6 B6, Hid (Al w wx Q g6 2 B6 q2))
  case first =>
    go_region_with (first
      | (go_at_call 28; have HB3x := HB3; clear HB3x; refine (key1_any _).mono ?_; rintro e w4 ⟨rfl, hb4⟩; have HB4 : Hid (Below W2.heap.size W2 w4) := g_on HB3.out hb4; have HGN := Hid.mk2 (g_new2 w4 ka kb); have p0 := (HB4.out.cell (p := ⟨Q, 0, none⟩) xlt).trans x0; have p1 := (HB4.out.cell (p := ⟨Q, 1, none⟩) xlt).trans x1; have plt := Nat.lt_of_lt_of_le xlt HB4.out.size; clear hb4)
      | (go_at_call 28; refine (key0_any _).mono ?_; rintro e w3 ⟨rfl, hb3⟩; have HB3 : Hid (Below W2.heap.size W2 w3) := (by first | exact g_drew hb3 | exact hb3); have o0 := (HB3.out.cell (p := ⟨Q, 0, none⟩) xlt).trans x0; have o1 := (HB3.out.cell (p := ⟨Q, 1, none⟩) xlt).trans x1; have olt := Nat.lt_of_lt_of_le xlt HB3.out.size; clear hb3)
      | (go_at_call 27; refine (get_any [ka, kb] _ _ _ _).mono ?_; rintro e w5 ⟨rfl, hb5⟩; have HB5 : Hid (Below W2.heap.size W2 w5) := g_on HB4.out (g_behind hb5); have HK5 := Hid.mk2 (HGN.out.below hb5); have r0 := (HB5.out.cell (p := ⟨Q, 0, none⟩) xlt).trans x0; have r1 := (HB5.out.cell (p := ⟨Q, 1, none⟩) xlt).trans x1; have rlt := Nat.lt_of_lt_of_le xlt HB5.out.size; clear hb5)
      | (go_at_call 26; refine (HPT.out w5 _ HB5.out HK5.out).mono ?_; rintro e w6 ⟨g6, B6, rfl, hg6, hq6, hd6, hb6⟩; have HG6 := Hid.mk2 hg6; have HQ6 := Hid.mk2 hq6; have HD6 := Hid.mk2 hd6; have HB6 := Hid.mk2 hb6; have HX6 := Hid.mk2 ((HA2.out.qb.below HB5.out).below hb6); have v0 := HX6.out.c 0 (by simp); have v1 := HX6.out.c 1 (by simp); have d0 := HX6.out.f 0; have d1 := HX6.out.f 1; have vlt := HX6.out.lt; simp only [List.getElem_cons_zero, List.getElem_cons_succ] at v0 v1; clear hg6 hq6 hd6 hb6))
    all_goals
      go_wp2_with fail
      go_meet
      case rel => exact ⟨g6, B6, HA2.out.next HB5.out HB6.out HQ6.out HG6.out HD6.out (by decide)⟩
  case rest =>
  obtain ⟨g3, B3, HA3⟩ := hcut
  obtain ⟨W3, hW3⟩ : ∃ W3, W3 = wc := ⟨_, rfl⟩
  rw [← hW3] at HA3 ⊢
  clear hW3 x0 x1 f0 f1 xlt HPT HA2
  go_upto_region 4 with (fail)
  have x0 := HA3.out.qb.c 0 (by simp)
  have x1 := HA3.out.qb.c 1 (by simp)
  have f0 := HA3.out.qb.f 0
  have f1 := HA3.out.qb.f 1
  have xlt := HA3.out.qb.lt
  simp only [List.getElem_cons_zero, List.getElem_cons_succ] at x0 x1
  have HPT : Hid (∀ (V : World) (ao : Option Addr), Below W3.heap.size W3 V → GRd ES V ao [kb] 1 → Calls Try.prog 26 #[.agg #[.int .i64 2, .slice (some ⟨g3, 0, none⟩) 2 2], .agg ((getT [kb]).arr (.slice ao 1 1))] V fun e w' => ∃ g6 B6, e = .returned (.tuple #[.agg #[.int .i64 3, .slice (some ⟨g6, 0, none⟩) 2 2], .int .i64 2, .int .i64 0]) ∧ V.heap.size ≤ g6 ∧ Qo w' V.heap.size g6 B6 ∧ dat B6 = q3 ∧ Below V.heap.size V w') := by
    intro V ao hV hk
    have h9 := put_ok B3 (some ⟨g3, 0, none⟩) 2 2 HA3.out.len.symm 2 (by rw [HA3.out.dt]; exact ok2) (getT [kb]) may_C (by decide) (by rw [HA3.out.dt]; exact fullIn_few few2 (by decide) _) ao 1 1 rfl V (HA3.out.rd.below hV) hk
    rw [HA3.out.len, HA3.out.dt] at h9
    exact h9
  go_cut [] from 23 (fun wx => ∃ g6 B6, Hid (Al w wx Q g6 3 B6 q3))
  case first =>
    go_region_with (first
      | (go_at_call 28; refine (key1_any _).mono ?_; rintro e w4 ⟨rfl, hb4⟩; have HB4 : Hid (Below W3.heap.size W3 w4) := (by first | exact g_drew hb4 | exact hb4); have HGN := Hid.mk2 (g_new okS w4 kb); have p0 := (HB4.out.cell (p := ⟨Q, 0, none⟩) xlt).trans x0; have p1 := (HB4.out.cell (p := ⟨Q, 1, none⟩) xlt).trans x1; have plt := Nat.lt_of_lt_of_le xlt HB4.out.size; clear hb4)
      | (go_at_call 27; refine (get_any [kb] _ _ _ _).mono ?_; rintro e w5 ⟨rfl, hb5⟩; have HB5 : Hid (Below W3.heap.size W3 w5) := g_on HB4.out (g_behind hb5); have HK5 := Hid.mk2 (HGN.out.below hb5); have r0 := (HB5.out.cell (p := ⟨Q, 0, none⟩) xlt).trans x0; have r1 := (HB5.out.cell (p := ⟨Q, 1, none⟩) xlt).trans x1; have rlt := Nat.lt_of_lt_of_le xlt HB5.out.size; clear hb5)
      | (go_at_call 26; refine (HPT.out w5 _ HB5.out HK5.out).mono ?_; rintro e w6 ⟨g6, B6, rfl, hg6, hq6, hd6, hb6⟩; have HG6 := Hid.mk2 hg6; have HQ6 := Hid.mk2 hq6; have HD6 := Hid.mk2 hd6; have HB6 := Hid.mk2 hb6; have HX6 := Hid.mk2 ((HA3.out.qb.below HB5.out).below hb6); have v0 := HX6.out.c 0 (by simp); have v1 := HX6.out.c 1 (by simp); have d0 := HX6.out.f 0; have d1 := HX6.out.f 1; have vlt := HX6.out.lt; simp only [List.getElem_cons_zero, List.getElem_cons_succ] at v0 v1; clear hg6 hq6 hd6 hb6))
    all_goals
      go_wp2_with fail
      go_meet
      case rel => exact ⟨g6, B6, HA3.out.next HB5.out HB6.out HQ6.out HG6.out HD6.out (by decide)⟩
  case rest =>
  obtain ⟨g4, B4, HA4⟩ := hcut
  obtain ⟨W4, hW4⟩ : ∃ W4, W4 = wc := ⟨_, rfl⟩
  rw [← hW4] at HA4 ⊢
  clear hW4 x0 x1 f0 f1 xlt HPT HA3
  have x0 := HA4.out.qb.c 0 (by simp)
  have x1 := HA4.out.qb.c 1 (by simp)
  have f0 := HA4.out.qb.f 0
  have f1 := HA4.out.qb.f 1
  have xlt := HA4.out.qb.lt
  simp only [List.getElem_cons_zero, List.getElem_cons_succ] at x0 x1
  have HT5 := Hid.mk2 (takeA HA4.out ok3 0 (by decide) rd30 bx30)
  unfold t0 exA getT getC Tk.arr at HT5
  dsimp only [List.length_cons, List.length_nil] at HT5
  go_upto_region 6 with (go_at_call 29; refine HT5.out.mono ?_; rintro e w5 ⟨g5, B5, ko5, kc5, rfl, hg5, hq5, hd5, hb5⟩; have HG5 := Hid.mk2 hg5; have HQ5 := Hid.mk2 hq5; have HD5 := Hid.mk2 hd5; have HB5 := Hid.mk2 hb5; have HX5 := Hid.mk2 (HA4.out.qb.below hb5); have v0 := HX5.out.c 0 (by simp); have v1 := HX5.out.c 1 (by simp); have e0 := HX5.out.f 0; have e1 := HX5.out.f 1; have vlt := HX5.out.lt; simp only [List.getElem_cons_zero, List.getElem_cons_succ] at v0 v1; clear hg5 hq5 hd5 hb5)
  obtain ⟨V5, hV5⟩ : ∃ V5, V5 = ((w5.setCell ⟨Q, 0, none⟩ (.int .i64 3)).setCell ⟨Q, 1, none⟩ (.slice (some ⟨g5, 0, none⟩) 2 2)).alloc (.cells #[.int .i64 0, .int .u8 1, .int .u8 1, .int .i64 0, .slice ko5 1 kc5, .string ⟨#[]⟩, .int .u32 0, .int .i64 0, .int .u64 0, .int .u64 0, .int .i64 0, .int .i64 0] 68) := ⟨_, rfl⟩
  obtain ⟨A0, hA0⟩ : ∃ A0, A0 = w5.heap.size := ⟨_, rfl⟩
  have HA5 : Hid (Al w V5 Q g5 3 B5 q4) := by rw [hV5]; exact (HA4.out.next (Below.refl _ _) HB5.out HQ5.out HG5.out HD5.out (by decide)).on (g_alloc _ _)
  have HPA : Hid (GBx V5 A0 [.int .i64 0, .int .u8 1, .int .u8 1, .int .i64 0, .slice ko5 1 kc5, .string ⟨#[]⟩, .int .u32 0, .int .i64 0, .int .u64 0, .int .u64 0, .int .i64 0, .int .i64 0]) := by
    have h9 := GBx.made ((w5.setCell ⟨Q, 0, none⟩ (.int .i64 3)).setCell ⟨Q, 1, none⟩ (.slice (some ⟨g5, 0, none⟩) 2 2)) [.int .i64 0, .int .u8 1, .int .u8 1, .int .i64 0, .slice ko5 1 kc5, .string ⟨#[]⟩, .int .u32 0, .int .i64 0, .int .u64 0, .int .u64 0, .int .i64 0, .int .i64 0] 68
    rw [hV5, hA0]
    show GBx _ _ _
    simpa using h9
  rw [← hV5, ← hA0]
  clear hV5 hA0 v0 v1 e0 e1 vlt HX5 HQ5 HG5 HD5 HB5 HT5 HA4
  clear x0 x1 f0 f1 xlt
  have x0 := HA5.out.qb.c 0 (by simp)
  have x1 := HA5.out.qb.c 1 (by simp)
  have f0 := HA5.out.qb.f 0
  have f1 := HA5.out.qb.f 1
  have xlt := HA5.out.qb.lt
  simp only [List.getElem_cons_zero, List.getElem_cons_succ] at x0 x1
  have HR6 := Hid.mk2 (ready_any B5 (some ⟨g5, 0, none⟩) 2 2 HA5.out.len.symm 3 V5 HA5.out.rd)
  rw [HA5.out.dt, ckQ_ok ok4, if_pos rfl, rdy4] at HR6
  go_upto_region 7 with (go_at_call 30; refine HR6.out.mono ?_; rintro e w6 ⟨v6, rfl, hO6, hb6⟩; obtain ⟨a6, c6, hv6, -⟩ := hO6.rd okI; subst hv6; have HB6 := Hid.mk2 hb6; clear hO6 hb6)
  have HA6 := Hid.mk2 (HA5.out.on HB6.out)
  have HPA6 := Hid.mk2 (HPA.out.below HB6.out)
  clear HR6 HA5 HPA
  clear x0 x1 f0 f1 xlt
  have x0 := HA6.out.qb.c 0 (by simp)
  have x1 := HA6.out.qb.c 1 (by simp)
  have f0 := HA6.out.qb.f 0
  have f1 := HA6.out.qb.f 1
  have xlt := HA6.out.qb.lt
  simp only [List.getElem_cons_zero, List.getElem_cons_succ] at x0 x1
  have HT7 := Hid.mk2 (takeA HA6.out ok4 1 (by decide) rd41 bx41)
  unfold t1 exB getT getC Tk.arr at HT7
  dsimp only [List.length_cons, List.length_nil] at HT7
  go_upto_region 8 with (go_at_call 29; refine HT7.out.mono ?_; rintro e w7 ⟨g7, B7, ko7, kc7, rfl, hg7, hq7, hd7, hb7⟩; have HG7 := Hid.mk2 hg7; have HQ7 := Hid.mk2 hq7; have HD7 := Hid.mk2 hd7; have HB7 := Hid.mk2 hb7; have HX7 := Hid.mk2 (HA6.out.qb.below hb7); have v0 := HX7.out.c 0 (by simp); have v1 := HX7.out.c 1 (by simp); have e0 := HX7.out.f 0; have e1 := HX7.out.f 1; have vlt := HX7.out.lt; simp only [List.getElem_cons_zero, List.getElem_cons_succ] at v0 v1; clear hg7 hq7 hd7 hb7)
  obtain ⟨V7, hV7⟩ : ∃ V7, V7 = ((w7.setCell ⟨Q, 0, none⟩ (.int .i64 3)).setCell ⟨Q, 1, none⟩ (.slice (some ⟨g7, 0, none⟩) 2 2)).alloc (.cells #[.int .i64 1, .int .u8 1, .int .u8 1, .int .i64 0, .slice ko7 2 kc7, .string ⟨#[]⟩, .int .u32 0, .int .i64 0, .int .u64 0, .int .u64 0, .int .i64 0, .int .i64 0] 68) := ⟨_, rfl⟩
  obtain ⟨B0, hB0⟩ : ∃ B0, B0 = w7.heap.size := ⟨_, rfl⟩
  have HA7 : Hid (Al w V7 Q g7 3 B7 q5) := by rw [hV7]; exact (HA6.out.next (Below.refl _ _) HB7.out HQ7.out HG7.out HD7.out (by decide)).on (g_alloc _ _)
  have HPB : Hid (GBx V7 B0 [.int .i64 1, .int .u8 1, .int .u8 1, .int .i64 0, .slice ko7 2 kc7, .string ⟨#[]⟩, .int .u32 0, .int .i64 0, .int .u64 0, .int .u64 0, .int .i64 0, .int .i64 0]) := by
    have h9 := GBx.made ((w7.setCell ⟨Q, 0, none⟩ (.int .i64 3)).setCell ⟨Q, 1, none⟩ (.slice (some ⟨g7, 0, none⟩) 2 2)) [.int .i64 1, .int .u8 1, .int .u8 1, .int .i64 0, .slice ko7 2 kc7, .string ⟨#[]⟩, .int .u32 0, .int .i64 0, .int .u64 0, .int .u64 0, .int .i64 0, .int .i64 0] 68
    rw [hV7, hB0]
    show GBx _ _ _
    simpa using h9
  have hAQ : Q ≠ A0 := by intro e; have h9 := HPA6.out.c 0 (by simp); rw [← e, x0] at h9; cases h9
  have HPA7 : Hid (GBx V7 A0 [.int .i64 0, .int .u8 1, .int .u8 1, .int .i64 0, .slice ko5 1 kc5, .string ⟨#[]⟩, .int .u32 0, .int .i64 0, .int .u64 0, .int .u64 0, .int .i64 0, .int .i64 0]) := by rw [hV7]; exact (((HPA6.out.below HB7.out).other _ _ hAQ).other _ _ hAQ).alloc _
  rw [← hV7, ← hB0]
  clear hV7 hB0 v0 v1 e0 e1 vlt HX7 HQ7 HG7 HD7 HB7 HT7 HA6 HPA6 hAQ
  clear x0 x1 f0 f1 xlt
  have x0 := HA7.out.qb.c 0 (by simp)
  have x1 := HA7.out.qb.c 1 (by simp)
  have f0 := HA7.out.qb.f 0
  have f1 := HA7.out.qb.f 1
  have xlt := HA7.out.qb.lt
  simp only [List.getElem_cons_zero, List.getElem_cons_succ] at x0 x1
  have HR8 := Hid.mk2 (ready_any B7 (some ⟨g7, 0, none⟩) 2 2 HA7.out.len.symm 3 V7 HA7.out.rd)
  rw [HA7.out.dt, ckQ_ok ok5, if_pos rfl, rdy5] at HR8
  go_upto_region 9 with (go_at_call 30; refine HR8.out.mono ?_; rintro e w8 ⟨v8, rfl, hO8, hb8⟩; obtain ⟨a8, c8, hv8, hS8⟩ := hO8.rd okI; subst hv8; have HS8 := Hid.mk2 hS8; have HB8 := Hid.mk2 hb8; clear hO8 hb8 hS8)
  have HA8 := Hid.mk2 (HA7.out.on HB8.out)
  have HPA8 := Hid.mk2 (HPA7.out.below HB8.out)
  have HPB8 := Hid.mk2 (HPB.out.below HB8.out)
  clear HR8 HA7 HPA7 HPB
  clear x0 x1 f0 f1 xlt
  have x0 := HA8.out.qb.c 0 (by simp)
  have x1 := HA8.out.qb.c 1 (by simp)
  have f0 := HA8.out.qb.f 0
  have f1 := HA8.out.qb.f 1
  have xlt := HA8.out.qb.lt
  simp only [List.getElem_cons_zero, List.getElem_cons_succ] at x0 x1
  have HT9 := Hid.mk2 (take_none B7 (some ⟨g7, 0, none⟩) 2 2 HA8.out.len.symm 3 (by rw [HA8.out.dt]; exact ok5) 0 (by rw [HA8.out.len]; decide) (by rw [HA8.out.dt]; exact rd50) w8 HA8.out.rd)
  go_upto_region 10 with (go_at_call 29; refine HT9.out.mono ?_; rintro e w9 ⟨rfl, hb9⟩; have HB9 := Hid.mk2 hb9; clear hb9)
  obtain ⟨V9, hV9⟩ : ∃ V9, V9 = (w9.alloc (.cells #[.int .i64 0, .slice none 0 0] 62)).alloc (.cells #[.int .i64 0, .int .u8 0, .int .u8 0, .int .i64 0, .slice none 0 0, .string ⟨#[]⟩, .int .u32 0, .int .i64 0, .int .u64 0, .int .u64 0, .int .i64 0, .int .i64 0] 68) := ⟨_, rfl⟩
  have HBV9 : Hid (Below w8.heap.size w8 V9) := by rw [hV9]; exact g_on (g_on HB9.out (g_alloc _ _)) (g_alloc _ _)
  rw [← hV9]
  clear hV9 HT9 HB9
  have HA9 := Hid.mk2 (HA8.out.on HBV9.out)
  clear x0 x1 f0 f1 xlt
  have x0 := HA9.out.qb.c 0 (by simp)
  have x1 := HA9.out.qb.c 1 (by simp)
  have f0 := HA9.out.qb.f 0
  have f1 := HA9.out.qb.f 1
  have xlt := HA9.out.qb.lt
  simp only [List.getElem_cons_zero, List.getElem_cons_succ] at x0 x1
  have HT10 := Hid.mk2 (take_arg B7 (some ⟨g7, 0, none⟩) 2 2 HA9.out.len.symm 3 (by rw [HA9.out.dt]; exact ok5) 2 (by rw [HA9.out.len]; decide) V9 HA9.out.rd)
  go_upto_region 11 with (go_at_call 29; refine HT10.out.mono ?_; rintro e w10 ⟨rfl, hb10⟩; have HB10 := Hid.mk2 hb10; clear hb10)
  obtain ⟨V10, hV10⟩ : ∃ V10, V10 = (w10.alloc (.cells #[.int .i64 0, .slice none 0 0] 62)).alloc (.cells #[.int .i64 0, .int .u8 0, .int .u8 0, .int .i64 0, .slice none 0 0, .string ⟨#[]⟩, .int .u32 0, .int .i64 0, .int .u64 0, .int .u64 0, .int .i64 0, .int .i64 0] 68) := ⟨_, rfl⟩
  have HBV10 : Hid (Below V9.heap.size V9 V10) := by rw [hV10]; exact g_on (g_on HB10.out (g_alloc _ _)) (g_alloc _ _)
  rw [← hV10]
  clear hV10 HT10 HB10
  clear x0 x1 f0 f1 xlt
  have HN11 := Hid.mk2 (tnew_bad 5 (by decide) V10)
  go_upto_region 12 with (go_at_call 25; refine HN11.out.mono ?_; rintro e w11 ⟨rfl, hb11⟩; have HB11 := Hid.mk2 hb11; clear hb11)
  obtain ⟨V11, hV11⟩ : ∃ V11, V11 = w11.alloc (.cells #[.int .i64 0, .slice none 0 0] 62) := ⟨_, rfl⟩
  have HBV11 : Hid (Below V10.heap.size V10 V11) := by rw [hV11]; exact g_on HB11.out (g_alloc _ _)
  rw [← hV11]
  clear hV11 HN11 HB11
  have HA11 := Hid.mk2 ((HA9.out.on HBV10.out).on HBV11.out)
  have x0 := HA11.out.qb.c 0 (by simp)
  have x1 := HA11.out.qb.c 1 (by simp)
  have f0 := HA11.out.qb.f 0
  have f1 := HA11.out.qb.f 1
  have xlt := HA11.out.qb.lt
  simp only [List.getElem_cons_zero, List.getElem_cons_succ] at x0 x1
  have HP12 := Hid.mk2 (put_no B7 (some ⟨g7, 0, none⟩) 2 2 HA11.out.len.symm 3 (by rw [HA11.out.dt]; exact ok5) ⟨0, 0, ⟨0, 0, [], ⟨#[]⟩, 0, 0, 0, 0⟩, 0, 0⟩ no_may none 0 0 rfl V11 HA11.out.rd (GRd.nil _))
  unfold Tk.arr at HP12
  dsimp only at HP12
  go_upto_region 13 with (go_at_call 26; refine HP12.out.mono ?_; rintro e w12 ⟨rfl, hb12⟩; have HB12 := Hid.mk2 hb12; clear hb12)
  obtain ⟨V12, hV12⟩ : ∃ V12, V12 = w12.alloc (.cells #[.int .i64 0, .slice none 0 0] 62) := ⟨_, rfl⟩
  have HBV12 : Hid (Below w8.heap.size w8 V12) := by rw [hV12]; exact g_on HBV9.out (g_on HBV10.out (g_on HBV11.out (g_on HB12.out (g_alloc _ _))))
  rw [← hV12]
  clear hV12 HP12 HB12
  clear x0 x1 f0 f1 xlt
  have HA12 := Hid.mk2 (HA8.out.on HBV12.out)
  have a0 := (HPA8.out.below HBV12.out).c 0 (by simp)
  have alt := (HPA8.out.below HBV12.out).lt
  have b0 := (HPB8.out.below HBV12.out).c 0 (by simp)
  have b4 := (HPB8.out.below HBV12.out).c 4 (by simp)
  have blt := (HPB8.out.below HBV12.out).lt
  obtain ⟨bm, om, rfl, hbm, hcm⟩ := (HS8.out.below HBV12.out).int (by simp)
  have m0 := hcm 0 (by simp)
  simp only [List.getElem_cons_zero, List.getElem_cons_succ, Nat.add_zero] at a0 b0 b4 m0
  have HAL := Hid.mk2 (alive12_any V12)
  clear hcm
  go_wp2_with (go_at_call 31; refine HAL.out.mono ?_; rintro e w13 ⟨rfl, hb13⟩; have HB13 := Hid.mk2 hb13; clear hb13)
  go_ret
  exact ⟨by first | rfl | simp, g_on HA12.out.bel HB13.out⟩
end Go.Proofs.Ytbncanlkkgclbaa
