/-
  The chapter's examples (alive of layer 12).
-/
import Derived.Test.YtpnmokmadbapoaaTkR
namespace Go.Proofs.Ytpnmokmadbapoaa
open Go.RowKit
set_option linter.unusedSimpArgs false
set_option linter.unusedVariables false
set_option maxRecDepth 100000

/-- a variable that holds inboxes of two shards -/
structure Al (w wx : World) (Q g : Nat) (next : Int) (B : List Bx) (D : List (List Tk)) : Prop where
  bel : Below w.heap.size w wx
  qb : GBx wx Q [.int .i64 next, .slice (some ⟨g, 0, none⟩) 2 2]
  rd : Qr wx (some ⟨g, 0, none⟩) B 2
  len : B.length = 2
  dt : dat B = D
  q0 : w.heap.size ≤ Q
theorem Al.next {w wx w5 w6 : World} {Q g g6 : Nat} {next next' : Int} {B B6 : List Bx} {D D6 : List (List Tk)} (h : Al w wx Q g next B D) (h5 : Below wx.heap.size wx w5) (h6 : Below w5.heap.size w5 w6) (hq : Qo w6 w5.heap.size g6 B6) (hg : w5.heap.size ≤ g6) (hd : dat B6 = D6) (hl : D6.length = 2) : Al w ((w6.setCell ⟨Q, 0, none⟩ (.int .i64 next')).setCell ⟨Q, 1, none⟩ (.slice (some ⟨g6, 0, none⟩) 2 2)) Q g6 next' B6 D6 := by
  have hQ := h.qb.lt
  have z5 := h5.size
  have z6 := h6.size
  have z0 := h.q0
  have hB : B6.length = 2 := by have := congrArg List.length hd; rw [dat_len] at this; omega
  have hb : Below w.heap.size w w6 := g_on (g_on h.bel h5) h6
  have hs := GBx.sets [.int .i64 next', .slice (some ⟨g6, 0, none⟩) 2 2] ((h.qb.below h5).below h6) rfl
  have hq2 := ((hq.other Q 0 (.int .i64 next') (by omega) (by omega)).other Q 1 (.slice (some ⟨g6, 0, none⟩) 2 2) (by omega) (by omega)).rd (by omega)
  rw [hB] at hq2
  exact ⟨sets_below (b := Q) hb [.int .i64 next', .slice (some ⟨g6, 0, none⟩) 2 2] 0 z0 (by omega), hs, hq2, hB, hd, z0⟩

theorem g_new2 (w0 : World) (a b : ByteArray) : GRd ES (w0.alloc (.cells #[.string a, .string b] 9)) (some ⟨w0.heap.size, 0, none⟩) [a, b] 2 :=
  ⟨by simp, by simp, (by intro e; cases e), .inr ⟨w0.heap.size, 0, rfl, by simp, fun i hi j hj => by
    have hj0 : j = 0 := by simp [ES] at hj; omega
    have : i = 0 ∨ i = 1 := by simp at hi; omega
    subst hj0
    rcases this with rfl | rfl <;> simp [ES]⟩⟩
set_option maxHeartbeats 4000000 in
theorem alive12_any (w : World) : Calls Try.prog 31 #[] w fun e w' => e = .returned (.bool true) ∧ Below w.heap.size w w' := by
  have HN := Hid.mk2 (tnew_good 2 (by decide) (by decide) w)
  go_enter Try.func31, Try.ntmps31
  go_upto_region 2 with (go_at_call 25; refine HN.out.mono ?_; rintro e w1 ⟨g1, rfl, hg1, hq1, hb1⟩; have HG1 := Hid.mk2 hg1; have HQ1 := Hid.mk2 hq1; have HB1 := Hid.mk2 hb1; clear hg1 hq1 hb1)
  obtain ⟨W, hW⟩ : ∃ W, W = w1.alloc (.cells #[.int .i64 0, .slice (some ⟨g1, 0, none⟩) 2 2] 62) := ⟨_, rfl⟩
  obtain ⟨Q, hQ⟩ : ∃ Q, Q = w1.heap.size := ⟨_, rfl⟩
  have HA0 : Hid (Al w W Q g1 0 (List.replicate 2 nobox) q0) := by
    have hb := g_alloc w1 (.cells #[.int .i64 0, .slice (some ⟨g1, 0, none⟩) 2 2] 62)
    refine ⟨by rw [hW]; exact g_on HB1.out hb, by rw [hW, hQ]; exact GBx.made w1 [.int .i64 0, .slice (some ⟨g1, 0, none⟩) 2 2] _, ?_, by simp, by simp [dat, nobox, q0], by rw [hQ]; exact HB1.out.size⟩
    rw [hW]
    exact (HQ1.out.rd (by simp)).below hb
  rw [← hW, ← hQ]
  clear hW hQ HN HG1 HQ1 HB1
  have x0 := HA0.out.qb.c 0 (by simp)
  have x1 := HA0.out.qb.c 1 (by simp)
  have f0 := HA0.out.qb.f 0
  have f1 := HA0.out.qb.f 1
  have xlt := HA0.out.qb.lt
  simp only [List.getElem_cons_zero, List.getElem_cons_succ] at x0 x1
  have HPT : Hid (∀ (V : World) (ao : Option Addr), Below W.heap.size W V → GRd ES V ao [ka] 1 → Calls Try.prog 26 #[.agg #[.int .i64 0, .slice (some ⟨g1, 0, none⟩) 2 2], .agg ((getT [ka]).arr (.slice ao 1 1))] V fun e w' => ∃ g6 B6, e = .returned (.tuple #[.agg #[.int .i64 1, .slice (some ⟨g6, 0, none⟩) 2 2], .int .i64 0, .int .i64 0]) ∧ V.heap.size ≤ g6 ∧ Qo w' V.heap.size g6 B6 ∧ dat B6 = q1 ∧ Below V.heap.size V w') := by
    intro V ao hV hk
    have h9 := put_ok (List.replicate 2 nobox) (some ⟨g1, 0, none⟩) 2 2 HA0.out.len.symm 0 (by rw [HA0.out.dt]; exact ok0) (getT [ka]) may_A (by decide) (by rw [HA0.out.dt]; exact fullIn_few few0 (by decide) _) ao 1 1 rfl V (HA0.out.rd.below hV) hk
    rw [HA0.out.len, HA0.out.dt] at h9
    exact h9
  go_cut [3, 4] from 11 (fun s3 s4 wx => s3 = .int .i64 0 ∧ s4 = .int .i64 0 ∧ ∃ g6 B6, Hid (Al w wx Q g6 1 B6 q1))
  case first =>
    go_region_with (first
      | (go_at_call 28; refine (key0_any _).mono ?_; rintro e w4 ⟨rfl, hb4⟩; have HB4 : Hid (Below W.heap.size W w4) := (by first | exact g_drew hb4 | exact hb4); have HGN := Hid.mk2 (g_new okS w4 ka); have p0 := (HB4.out.cell (p := ⟨Q, 0, none⟩) xlt).trans x0; have p1 := (HB4.out.cell (p := ⟨Q, 1, none⟩) xlt).trans x1; have plt := Nat.lt_of_lt_of_le xlt HB4.out.size; clear hb4)
      | (go_at_call 27; refine (get_any [ka] _ _ _ _).mono ?_; rintro e w5 ⟨rfl, hb5⟩; have HB5 : Hid (Below W.heap.size W w5) := g_on HB4.out (g_behind hb5); have HK5 := Hid.mk2 (HGN.out.below hb5); have r0 := (HB5.out.cell (p := ⟨Q, 0, none⟩) xlt).trans x0; have r1 := (HB5.out.cell (p := ⟨Q, 1, none⟩) xlt).trans x1; have rlt := Nat.lt_of_lt_of_le xlt HB5.out.size; clear hb5)
      | (go_at_call 26; refine (HPT.out w5 _ HB5.out HK5.out).mono ?_; rintro e w6 ⟨g6, B6, rfl, hg6, hq6, hd6, hb6⟩; have HG6 := Hid.mk2 hg6; have HQ6 := Hid.mk2 hq6; have HD6 := Hid.mk2 hd6; have HB6 := Hid.mk2 hb6; have HX6 := Hid.mk2 ((HA0.out.qb.below HB5.out).below hb6); have v0 := HX6.out.c 0 (by simp); have v1 := HX6.out.c 1 (by simp); have d0 := HX6.out.f 0; have d1 := HX6.out.f 1; have vlt := HX6.out.lt; simp only [List.getElem_cons_zero, List.getElem_cons_succ] at v0 v1; clear hg6 hq6 hd6 hb6))
    all_goals
      go_wp2_with fail
      go_meet
      case rel => exact ⟨rfl, rfl, g6, B6, HA0.out.next HB5.out HB6.out HQ6.out HG6.out HD6.out (by decide)⟩
  case rest =>
  obtain ⟨rfl, rfl, g2, B2, HA2⟩ := hcut
  obtain ⟨W2, hW2⟩ : ∃ W2, W2 = wc := ⟨_, rfl⟩
  rw [← hW2] at HA2 ⊢
  clear hW2 x0 x1 f0 f1 xlt HPT HA0
  go_upto_region 3 with (fail)
  have x0 := HA2.out.qb.c 0 (by simp)
  have x1 := HA2.out.qb.c 1 (by simp)
  have f0 := HA2.out.qb.f 0
  have f1 := HA2.out.qb.f 1
  have xlt := HA2.out.qb.lt
  simp only [List.getElem_cons_zero, List.getElem_cons_succ] at x0 x1
  have HPT : Hid (∀ (V : World) (ao : Option Addr), Below W2.heap.size W2 V → GRd ES V ao [ka, kb] 2 → Calls Try.prog 26 #[.agg #[.int .i64 1, .slice (some ⟨g2, 0, none⟩) 2 2], .agg ((getT [ka, kb]).arr (.slice ao 2 2))] V fun e w' => ∃ g6 B6, e = .returned (.tuple #[.agg #[.int .i64 2, .slice (some ⟨g6, 0, none⟩) 2 2], .int .i64 1, .int .i64 0]) ∧ V.heap.size ≤ g6 ∧ Qo w' V.heap.size g6 B6 ∧ dat B6 = q2 ∧ Below V.heap.size V w') := by
    intro V ao hV hk
    have h9 := put_ok B2 (some ⟨g2, 0, none⟩) 2 2 HA2.out.len.symm 1 (by rw [HA2.out.dt]; exact ok1) (getT [ka, kb]) may_B (by decide) (by rw [HA2.out.dt]; exact fullIn_few few1 (by decide) _) ao 2 2 rfl V (HA2.out.rd.below hV) hk
    rw [HA2.out.len, HA2.out.dt] at h9
    exact h9
  go_cut [5, 6] from 11 (fun s5 s6 wx => s5 = .int .i64 1 ∧ s6 = .int .i64 0 ∧ ∃ g6 B6, Hid (Al w wx Q g6 2 B6 q2))
  case first =>
    go_region_with (first
      | (go_at_call 28; have HB3x := HB3; clear HB3x; refine (key1_any _).mono ?_; rintro e w4 ⟨rfl, hb4⟩; have HB4 : Hid (Below W2.heap.size W2 w4) := g_on HB3.out hb4; have HGN := Hid.mk2 (g_new2 w4 ka kb); have p0 := (HB4.out.cell (p := ⟨Q, 0, none⟩) xlt).trans x0; have p1 := (HB4.out.cell (p := ⟨Q, 1, none⟩) xlt).trans x1; have plt := Nat.lt_of_lt_of_le xlt HB4.out.size; clear hb4)
      | (go_at_call 28; refine (key0_any _).mono ?_; rintro e w3 ⟨rfl, hb3⟩; have HB3 : Hid (Below W2.heap.size W2 w3) := (by first | exact g_drew hb3 | exact hb3); have o0 := (HB3.out.cell (p := ⟨Q, 0, none⟩) xlt).trans x0; have o1 := (HB3.out.cell (p := ⟨Q, 1, none⟩) xlt).trans x1; have olt := Nat.lt_of_lt_of_le xlt HB3.out.size; clear hb3)
      | (go_at_call 27; refine (get_any [ka, kb] _ _ _ _).mono ?_; rintro e w5 ⟨rfl, hb5⟩; have HB5 : Hid (Below W2.heap.size W2 w5) := g_on HB4.out (g_behind hb5); have HK5 := Hid.mk2 (HGN.out.below hb5); have r0 := (HB5.out.cell (p := ⟨Q, 0, none⟩) xlt).trans x0; have r1 := (HB5.out.cell (p := ⟨Q, 1, none⟩) xlt).trans x1; have rlt := Nat.lt_of_lt_of_le xlt HB5.out.size; clear hb5)
      | (go_at_call 26; refine (HPT.out w5 _ HB5.out HK5.out).mono ?_; rintro e w6 ⟨g6, B6, rfl, hg6, hq6, hd6, hb6⟩; have HG6 := Hid.mk2 hg6; have HQ6 := Hid.mk2 hq6; have HD6 := Hid.mk2 hd6; have HB6 := Hid.mk2 hb6; have HX6 := Hid.mk2 ((HA2.out.qb.below HB5.out).below hb6); have v0 := HX6.out.c 0 (by simp); have v1 := HX6.out.c 1 (by simp); have d0 := HX6.out.f 0; have d1 := HX6.out.f 1; have vlt := HX6.out.lt; simp only [List.getElem_cons_zero, List.getElem_cons_succ] at v0 v1; clear hg6 hq6 hd6 hb6))
    all_goals
      go_wp2_with fail
      go_meet
      case rel => exact ⟨rfl, rfl, g6, B6, HA2.out.next HB5.out HB6.out HQ6.out HG6.out HD6.out (by decide)⟩
  case rest =>
  obtain ⟨rfl, rfl, g3, B3, HA3⟩ := hcut
  obtain ⟨W3, hW3⟩ : ∃ W3, W3 = wc := ⟨_, rfl⟩
  rw [← hW3] at HA3 ⊢
  clear hW3 x0 x1 f0 f1 xlt HPT HA2
  go_upto_region 4 with (fail)
  have x0 := HA3.out.qb.c 0 (by simp)
  have x1 := HA3.out.qb.c 1 (by simp)
  have f0 := HA3.out.qb.f 0
  have f1 := HA3.out.qb.f 1
  have xlt := HA3.out.qb.lt
  simp only [List.getElem_cons_zero, List.getElem_cons_succ] at x0 x1
  have HPT : Hid (∀ (V : World) (ao : Option Addr), Below W3.heap.size W3 V → GRd ES V ao [kb] 1 → Calls Try.prog 26 #[.agg #[.int .i64 2, .slice (some ⟨g3, 0, none⟩) 2 2], .agg ((getT [kb]).arr (.slice ao 1 1))] V fun e w' => ∃ g6 B6, e = .returned (.tuple #[.agg #[.int .i64 3, .slice (some ⟨g6, 0, none⟩) 2 2], .int .i64 2, .int .i64 0]) ∧ V.heap.size ≤ g6 ∧ Qo w' V.heap.size g6 B6 ∧ dat B6 = q3 ∧ Below V.heap.size V w') := by
    intro V ao hV hk
    have h9 := put_ok B3 (some ⟨g3, 0, none⟩) 2 2 HA3.out.len.symm 2 (by rw [HA3.out.dt]; exact ok2) (getT [kb]) may_C (by decide) (by rw [HA3.out.dt]; exact fullIn_few few2 (by decide) _) ao 1 1 rfl V (HA3.out.rd.below hV) hk
    rw [HA3.out.len, HA3.out.dt] at h9
    exact h9
  go_cut [7, 8] from 11 (fun s7 s8 wx => s7 = .int .i64 2 ∧ s8 = .int .i64 0 ∧ ∃ g6 B6, Hid (Al w wx Q g6 3 B6 q3))
  case first =>
    go_region_with (first
      | (go_at_call 28; refine (key1_any _).mono ?_; rintro e w4 ⟨rfl, hb4⟩; have HB4 : Hid (Below W3.heap.size W3 w4) := (by first | exact g_drew hb4 | exact hb4); have HGN := Hid.mk2 (g_new okS w4 kb); have p0 := (HB4.out.cell (p := ⟨Q, 0, none⟩) xlt).trans x0; have p1 := (HB4.out.cell (p := ⟨Q, 1, none⟩) xlt).trans x1; have plt := Nat.lt_of_lt_of_le xlt HB4.out.size; clear hb4)
      | (go_at_call 27; refine (get_any [kb] _ _ _ _).mono ?_; rintro e w5 ⟨rfl, hb5⟩; have HB5 : Hid (Below W3.heap.size W3 w5) := g_on HB4.out (g_behind hb5); have HK5 := Hid.mk2 (HGN.out.below hb5); have r0 := (HB5.out.cell (p := ⟨Q, 0, none⟩) xlt).trans x0; have r1 := (HB5.out.cell (p := ⟨Q, 1, none⟩) xlt).trans x1; have rlt := Nat.lt_of_lt_of_le xlt HB5.out.size; clear hb5)
      | (go_at_call 26; refine (HPT.out w5 _ HB5.out HK5.out).mono ?_; rintro e w6 ⟨g6, B6, rfl, hg6, hq6, hd6, hb6⟩; have HG6 := Hid.mk2 hg6; have HQ6 := Hid.mk2 hq6; have HD6 := Hid.mk2 hd6; have HB6 := Hid.mk2 hb6; have HX6 := Hid.mk2 ((HA3.out.qb.below HB5.out).below hb6); have v0 := HX6.out.c 0 (by simp); have v1 := HX6.out.c 1 (by simp); have d0 := HX6.out.f 0; have d1 := HX6.out.f 1; have vlt := HX6.out.lt; simp only [List.getElem_cons_zero, List.getElem_cons_succ] at v0 v1; clear hg6 hq6 hd6 hb6))
    all_goals
      go_wp2_with fail
      go_meet
      case rel => exact ⟨rfl, rfl, g6, B6, HA3.out.next HB5.out HB6.out HQ6.out HG6.out HD6.out (by decide)⟩
  case rest =>
  obtain ⟨rfl, rfl, g4, B4, HA4⟩ := hcut
  obtain ⟨W4, hW4⟩ : ∃ W4, W4 = wc := ⟨_, rfl⟩
  rw [← hW4] at HA4 ⊢
  clear hW4 x0 x1 f0 f1 xlt HPT HA3
  have x0 := HA4.out.qb.c 0 (by simp)
  have x1 := HA4.out.qb.c 1 (by simp)
  have xlt := HA4.out.qb.lt
  simp only [List.getElem_cons_zero, List.getElem_cons_succ] at x0 x1
  have HRD := Hid.mk2 (ready_any B4 (some ⟨g4, 0, none⟩) 2 2 HA4.out.len.symm 3 W4 HA4.out.rd)
  rw [HA4.out.dt, ckQ_ok ok3, if_pos rfl, rdy3] at HRD
  go_wp2_with (go_at_call 30; refine HRD.out.mono ?_; rintro e w9 ⟨v9, rfl, hO9, hb9⟩; obtain ⟨sa, sc, hv9, hS⟩ := hO9.rd okI; subst hv9; obtain ⟨b, off, rfl, hbl, hcs⟩ := hS.int (by simp); have r0 := hcs 0 (by simp); simp only [Nat.add_zero, List.getElem_cons_zero] at r0; have HB9 := Hid.mk2 hb9; clear hO9 hb9 hS hcs)
  go_ret
  exact ⟨by first | rfl | simp, g_on HA4.out.bel HB9.out⟩
end Go.Proofs.Ytpnmokmadbapoaa
