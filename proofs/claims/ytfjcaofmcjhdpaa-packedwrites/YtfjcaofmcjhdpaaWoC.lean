/-
  mayBe, Check of package words.
-/
import Derived.Test.YtfjcaofmcjhdpaaWoB
namespace Go.Proofs.Ytfjcaofmcjhdpaa
open Go.Proofs.Ytfjcaofmcjhdpaa.It
open Go.RowKit
set_option linter.unusedSimpArgs false
set_option linter.unusedVariables false
set_option maxRecDepth 100000

theorem below_set {B : Nat} {a V : World} (h : Below B a V) (b j : Nat) (v : Value) (hb : B ≤ b) (hs : B ≤ a.heap.size) : Below B a (V.setCell ⟨b, j, none⟩ v) :=
  h.grown (g_set V ⟨b, j, none⟩ v) (Nat.le_trans hs h.size) (fun k hk => by cases hk; exact hb)
theorem wno_z (w : World) : Calls Try.prog 40 #[.agg #[.int .u8 0, .slice none 0 0, .int .u64 0]] w fun e w' => e = .returned (.bool true) ∧ Below w.heap.size w w' := by
  have h := wisNothing_any 0 none 0 0 0 (by decide) w
  exact h.mono fun e w' ⟨h1, h2⟩ => ⟨by rw [h1]; rfl, h2⟩

set_option maxHeartbeats 4000000 in
theorem wmayBe_any (a : An) (io : Option Addr) (ic : Nat) (w : World) (hi : GRd EM w io a.items ic) (hk : a.key.size ≤ maxLen) : Calls Try.prog 26 #[.agg (a.arr (.slice io a.items.length ic))] w fun e w' => e = .returned (.bool a.may) ∧ Below w.heap.size w w' := by
  obtain ⟨W, hW⟩ : ∃ W, W = w.alloc (.cells (a.arr (.slice io a.items.length ic)) 31) := ⟨_, rfl⟩
  have HB : Hid (Below w.heap.size w W) := by rw [hW]; exact g_alloc _ _
  have HX : Hid (GBx W w.heap.size (a.cl (.slice io a.items.length ic))) := by rw [hW]; exact GBx.made w (a.cl _) _
  obtain ⟨kind, of_, rk, L, num, yes, key⟩ := a
  unfold An.arr at *
  unfold An.cl at HX
  unfold An.may
  dsimp only at *
  have HR := Hid.mk2 (wisResult_any of_ rk L io ic num W (hi.below HB.out))
  have HNO : Hid (∀ V, Calls Try.prog 40 #[.agg #[.int .u8 rk, .slice io L.length ic, .int .u64 num]] V fun e w' => e = .returned (.bool ((rk == 0) && ((L.length : Int) == 0) && (num == 0))) ∧ Below V.heap.size V w') := fun V => wisNothing_any rk io L.length ic num hi.len V
  have HNZ := Hid.mk2 wno_z
  have hsz : (key.size : Int) ≤ 9223372036854775807 := by have e : maxLen = 9223372036854775807 := rfl; omega
  have hs0 : (0 : Int) ≤ (key.size : Int) := by omega
  unfold noRes
  obtain ⟨RO, hRO⟩ : ∃ R, R = resOk of_ rk L num := ⟨_, rfl⟩
  rw [← hRO] at HR ⊢
  obtain ⟨NB, hNB⟩ : ∃ R, R = ((rk == 0) && ((L.length : Int) == 0) && (num == 0)) := ⟨_, rfl⟩
  rw [← hNB] at HNO ⊢
  obtain ⟨OB, hOB⟩ : ∃ R, (of_ == 0) = R := ⟨_, rfl⟩
  obtain ⟨EB, hEB⟩ : ∃ R, key.toList.isEmpty = R := ⟨_, rfl⟩
  rw [hOB, hEB]
  obtain ⟨MB, hMB⟩ : ∃ M : Bool, M = (if kind = 1 then RO && !yes && EB else if kind = 2 ∨ kind = 3 then OB && NB && EB else if kind = 7 then decide (0 < key.size) && decide (key.size ≤ 32) && (OB && NB) && !yes else if kind = 4 ∨ kind = 5 ∨ kind = 6 then OB && NB && !yes && EB else false) := ⟨_, rfl⟩
  rw [← hMB]
  have HMB := Hid.mk2 hMB
  obtain ⟨LN, hLN⟩ : ∃ n, n = L.length := ⟨_, rfl⟩
  rw [← hLN] at HR HNO HX hW ⊢
  clear hRO hNB hLN hi hk hMB
  have x0 := HX.out.c 0 (by simp)
  have x1 := HX.out.c 1 (by simp)
  have x2 := HX.out.c 2 (by simp)
  have x3 := HX.out.c 3 (by simp)
  have x4 := HX.out.c 4 (by simp)
  have x5 := HX.out.c 5 (by simp)
  have x6 := HX.out.c 6 (by simp)
  simp only [List.getElem_cons_zero, List.getElem_cons_succ] at x0 x1 x2 x3 x4 x5 x6
  have f0 := HX.out.f 0
  have f1 := HX.out.f 1
  have f2 := HX.out.f 2
  have f3 := HX.out.f 3
  have f4 := HX.out.f 4
  have f5 := HX.out.f 5
  have f6 := HX.out.f 6
  have hlt := HX.out.lt
  have HBS : Hid (∀ V j v, Below w.heap.size w V → Below w.heap.size w (V.setCell ⟨w.heap.size, j, none⟩ v)) := fun V j v h => below_set h _ _ _ (Nat.le_refl _) (Nat.le_refl _)
  go_enter Try.func26, Try.ntmps26
  go_upto_region 1 with (fail)
  rw [← hW]
  clear hW
  by_cases k1 : kind = 1
  · subst k1
    have HM2 : Hid (MB = (RO && !yes && EB)) := by show _ = _; rw [HMB.out, if_pos rfl]
    cases RO with
    | false =>
      go_wp2_with (go_at_call 39; refine HR.out.mono ?_; rintro e w5 ⟨rfl, hb5⟩; have HB5 := Hid.mk2 (g_on HB.out hb5); clear hb5)
      go_ret
      exact ⟨by rw [HM2.out]; rfl, HB5.out⟩
    | true =>
      go_upto_region 6 with (go_at_call 39; refine HR.out.mono ?_; rintro e w5 ⟨rfl, hb5⟩; have HB5 := Hid.mk2 (g_on HB.out hb5); have HX5 := Hid.mk2 (HX.out.below hb5); clear hb5)
      clear x0 x1 x2 x3 x4 x5 x6 f0 f1 f2 f3 f4 f5 f6 hlt
      have y0 := HX5.out.c 0 (by simp)
      have y1 := HX5.out.c 1 (by simp)
      have y2 := HX5.out.c 2 (by simp)
      have y3 := HX5.out.c 3 (by simp)
      have y4 := HX5.out.c 4 (by simp)
      have y5 := HX5.out.c 5 (by simp)
      have y6 := HX5.out.c 6 (by simp)
      simp only [List.getElem_cons_zero, List.getElem_cons_succ] at y0 y1 y2 y3 y4 y5 y6
      have f1 := HX5.out.f 1
      have f2 := HX5.out.f 2
      have f3 := HX5.out.f 3
      have f4 := HX5.out.f 4
      have hlt := HX5.out.lt
      go_upto_region 17 with (fail)
      obtain ⟨W6, hW6⟩ : ∃ W6, W6 = (((w5.setCell ⟨w.heap.size, 1, none⟩ (.int .u8 0)).setCell ⟨w.heap.size, 2, none⟩ (.int .u8 0)).setCell ⟨w.heap.size, 3, none⟩ (.slice none 0 0)).setCell ⟨w.heap.size, 4, none⟩ (.int .u64 0) := ⟨_, rfl⟩
      have HX6 : Hid (GBx W6 w.heap.size [.int .u8 1, .int .u8 0, .int .u8 0, .slice none 0 0, .int .u64 0, .bool yes, .string key]) := by
        rw [hW6]
        exact (((HX5.out.set 1 (.int .u8 0) (by simp)).set 2 (.int .u8 0) (by simp)).set 3 (.slice none 0 0) (by simp)).set 4 (.int .u64 0) (by simp)
      have HB6 : Hid (Below w.heap.size w W6) := by
        rw [hW6]
        exact HBS.out _ _ _ (HBS.out _ _ _ (HBS.out _ _ _ (HBS.out _ _ _ HB5.out)))
      rw [← hW6]
      clear hW6 y0 y1 y2 y3 y4 y5 y6 f1 f2 f3 f4 hlt
      have z0 := HX6.out.c 0 (by simp)
      have z1 := HX6.out.c 1 (by simp)
      have z2 := HX6.out.c 2 (by simp)
      have z3 := HX6.out.c 3 (by simp)
      have z4 := HX6.out.c 4 (by simp)
      have z5 := HX6.out.c 5 (by simp)
      have z6 := HX6.out.c 6 (by simp)
      simp only [List.getElem_cons_zero, List.getElem_cons_succ] at z0 z1 z2 z3 z4 z5 z6
      have hlt6 := HX6.out.lt
      cases yes <;> cases EB
      all_goals
        go_wp2_with (go_at_call 40; refine (HNZ.out _).mono ?_; rintro e w9 ⟨rfl, hb9⟩; have HB9 := Hid.mk2 (g_on HB6.out hb9); have HX9 := Hid.mk2 (HX6.out.below hb9); have t5 := HX9.out.c 5 (by simp); have t6 := HX9.out.c 6 (by simp); simp only [List.getElem_cons_zero, List.getElem_cons_succ] at t5 t6; clear hb9)
        all_goals go_ret
        all_goals exact ⟨by rw [HM2.out]; rfl, by first | exact HB9.out | exact HB6.out⟩
  have hb1 : (kind == 1) = false := by simpa using k1
  by_cases k2 : kind = 2
  · subst k2
    have HM2 : Hid (MB = (OB && NB && EB)) := by show _ = _; rw [HMB.out, if_neg (by decide), if_pos (by decide)]
    go_upto_region 17 with (fail)
    obtain ⟨W6, hW6⟩ : ∃ W6, W6 = W.setCell ⟨w.heap.size, 5, none⟩ (.bool false) := ⟨_, rfl⟩
    have HX6 : Hid (GBx W6 w.heap.size [.int .u8 2, .int .u8 of_, .int .u8 rk, .slice io LN ic, .int .u64 num, .bool false, .string key]) := by
      rw [hW6]
      exact HX.out.set 5 (.bool false) (by simp)
    have HB6 : Hid (Below w.heap.size w W6) := by
      rw [hW6]
      exact HBS.out _ _ _ HB.out
    rw [← hW6]
    clear hW6 x0 x1 x2 x3 x4 x5 x6 f0 f1 f2 f3 f4 f5 f6 hlt
    have z0 := HX6.out.c 0 (by simp)
    have z1 := HX6.out.c 1 (by simp)
    have z2 := HX6.out.c 2 (by simp)
    have z3 := HX6.out.c 3 (by simp)
    have z4 := HX6.out.c 4 (by simp)
    have z5 := HX6.out.c 5 (by simp)
    have z6 := HX6.out.c 6 (by simp)
    simp only [List.getElem_cons_zero, List.getElem_cons_succ] at z0 z1 z2 z3 z4 z5 z6
    have hlt6 := HX6.out.lt
    cases OB <;> cases NB <;> cases EB
    all_goals
      go_wp2_with (go_at_call 40; refine (HNO.out _).mono ?_; rintro e w9 ⟨rfl, hb9⟩; have HB9 := Hid.mk2 (g_on HB6.out hb9); have HX9 := Hid.mk2 (HX6.out.below hb9); have t5 := HX9.out.c 5 (by simp); have t6 := HX9.out.c 6 (by simp); simp only [List.getElem_cons_zero, List.getElem_cons_succ] at t5 t6; clear hb9)
      all_goals go_ret
      all_goals exact ⟨by rw [HM2.out]; rfl, by first | exact HB9.out | exact HB6.out⟩
  have hb2 : (kind == 2) = false := by simpa using k2
  by_cases k3 : kind = 3
  · subst k3
    have HM2 : Hid (MB = (OB && NB && EB)) := by show _ = _; rw [HMB.out, if_neg (by decide), if_pos (by decide)]
    go_upto_region 17 with (fail)
    obtain ⟨W6, hW6⟩ : ∃ W6, W6 = W.setCell ⟨w.heap.size, 5, none⟩ (.bool false) := ⟨_, rfl⟩
    have HX6 : Hid (GBx W6 w.heap.size [.int .u8 3, .int .u8 of_, .int .u8 rk, .slice io LN ic, .int .u64 num, .bool false, .string key]) := by
      rw [hW6]
      exact HX.out.set 5 (.bool false) (by simp)
    have HB6 : Hid (Below w.heap.size w W6) := by
      rw [hW6]
      exact HBS.out _ _ _ HB.out
    rw [← hW6]
    clear hW6 x0 x1 x2 x3 x4 x5 x6 f0 f1 f2 f3 f4 f5 f6 hlt
    have z0 := HX6.out.c 0 (by simp)
    have z1 := HX6.out.c 1 (by simp)
    have z2 := HX6.out.c 2 (by simp)
    have z3 := HX6.out.c 3 (by simp)
    have z4 := HX6.out.c 4 (by simp)
    have z5 := HX6.out.c 5 (by simp)
    have z6 := HX6.out.c 6 (by simp)
    simp only [List.getElem_cons_zero, List.getElem_cons_succ] at z0 z1 z2 z3 z4 z5 z6
    have hlt6 := HX6.out.lt
    cases OB <;> cases NB <;> cases EB
    all_goals
      go_wp2_with (go_at_call 40; refine (HNO.out _).mono ?_; rintro e w9 ⟨rfl, hb9⟩; have HB9 := Hid.mk2 (g_on HB6.out hb9); have HX9 := Hid.mk2 (HX6.out.below hb9); have t5 := HX9.out.c 5 (by simp); have t6 := HX9.out.c 6 (by simp); simp only [List.getElem_cons_zero, List.getElem_cons_succ] at t5 t6; clear hb9)
      all_goals go_ret
      all_goals exact ⟨by rw [HM2.out]; rfl, by first | exact HB9.out | exact HB6.out⟩
  have hb3 : (kind == 3) = false := by simpa using k3
  by_cases k7 : kind = 7
  · subst k7
    by_cases hz : key.size = 0
    · have HM2 : Hid (MB = false) := by show _ = _; rw [HMB.out, if_neg (by decide), if_neg (by decide), if_pos rfl]; simp [hz]
      have hzi : (key.size : Int) = 0 := by omega
      have hzb : ((key.size : Int) == 0) = true := by simpa using hz
      clear hz hzi
      go_wp2
      go_ret
      exact ⟨by rw [HM2.out]; rfl, HB.out⟩
    have hzb : ((key.size : Int) == 0) = false := by simpa using hz
    by_cases hg : (32 : Int) < (key.size : Int)
    · have HM2 : Hid (MB = false) := by show _ = _; rw [HMB.out, if_neg (by decide), if_neg (by decide), if_pos rfl]; have : ¬ key.size ≤ 32 := by omega
                                        simp [this]
      go_wp2
      go_ret
      exact ⟨by rw [HM2.out]; rfl, HB.out⟩
    have HM2 : Hid (MB = (OB && NB && !yes)) := by
      show _ = _
      rw [HMB.out, if_neg (by decide), if_neg (by decide), if_pos rfl, decide_eq_true (show 0 < key.size by omega), decide_eq_true (show key.size ≤ 32 by omega)]
      simp
    go_upto_region 17 with (fail)
    obtain ⟨W6, hW6⟩ : ∃ W6, W6 = W.setCell ⟨w.heap.size, 6, none⟩ (.string ⟨#[]⟩) := ⟨_, rfl⟩
    have HX6 : Hid (GBx W6 w.heap.size [.int .u8 7, .int .u8 of_, .int .u8 rk, .slice io LN ic, .int .u64 num, .bool yes, .string ⟨#[]⟩]) := by
      rw [hW6]
      exact HX.out.set 6 (.string ⟨#[]⟩) (by simp)
    have HB6 : Hid (Below w.heap.size w W6) := by
      rw [hW6]
      exact HBS.out _ _ _ HB.out
    rw [← hW6]
    clear hW6 x0 x1 x2 x3 x4 x5 x6 f0 f1 f2 f3 f4 f5 f6 hlt
    have z0 := HX6.out.c 0 (by simp)
    have z1 := HX6.out.c 1 (by simp)
    have z2 := HX6.out.c 2 (by simp)
    have z3 := HX6.out.c 3 (by simp)
    have z4 := HX6.out.c 4 (by simp)
    have z5 := HX6.out.c 5 (by simp)
    have z6 := HX6.out.c 6 (by simp)
    simp only [List.getElem_cons_zero, List.getElem_cons_succ] at z0 z1 z2 z3 z4 z5 z6
    have hlt6 := HX6.out.lt
    cases OB <;> cases NB <;> cases yes
    all_goals
      go_wp2_with (go_at_call 40; refine (HNO.out _).mono ?_; rintro e w9 ⟨rfl, hb9⟩; have HB9 := Hid.mk2 (g_on HB6.out hb9); have HX9 := Hid.mk2 (HX6.out.below hb9); have t5 := HX9.out.c 5 (by simp); have t6 := HX9.out.c 6 (by simp); simp only [List.getElem_cons_zero, List.getElem_cons_succ] at t5 t6; clear hb9)
      all_goals go_ret
      all_goals exact ⟨by rw [HM2.out]; rfl, by first | exact HB9.out | exact HB6.out⟩
  have hb7 : (kind == 7) = false := by simpa using k7
  by_cases k4 : kind = 4
  · subst k4
    have HM2 : Hid (MB = (OB && NB && !yes && EB)) := by show _ = _; rw [HMB.out, if_neg (by decide), if_neg (by decide), if_neg (by decide), if_pos (by decide)]
    go_upto_region 17 with (fail)
    obtain ⟨W6, hW6⟩ : ∃ W6, W6 = W := ⟨_, rfl⟩
    have HX6 : Hid (GBx W6 w.heap.size [.int .u8 4, .int .u8 of_, .int .u8 rk, .slice io LN ic, .int .u64 num, .bool yes, .string key]) := by
      rw [hW6]
      exact HX.out
    have HB6 : Hid (Below w.heap.size w W6) := by
      rw [hW6]
      exact HB.out
    rw [← hW6]
    clear hW6 x0 x1 x2 x3 x4 x5 x6 f0 f1 f2 f3 f4 f5 f6 hlt
    have z0 := HX6.out.c 0 (by simp)
    have z1 := HX6.out.c 1 (by simp)
    have z2 := HX6.out.c 2 (by simp)
    have z3 := HX6.out.c 3 (by simp)
    have z4 := HX6.out.c 4 (by simp)
    have z5 := HX6.out.c 5 (by simp)
    have z6 := HX6.out.c 6 (by simp)
    simp only [List.getElem_cons_zero, List.getElem_cons_succ] at z0 z1 z2 z3 z4 z5 z6
    have hlt6 := HX6.out.lt
    cases OB <;> cases NB <;> cases yes <;> cases EB
    all_goals
      go_wp2_with (go_at_call 40; refine (HNO.out _).mono ?_; rintro e w9 ⟨rfl, hb9⟩; have HB9 := Hid.mk2 (g_on HB6.out hb9); have HX9 := Hid.mk2 (HX6.out.below hb9); have t5 := HX9.out.c 5 (by simp); have t6 := HX9.out.c 6 (by simp); simp only [List.getElem_cons_zero, List.getElem_cons_succ] at t5 t6; clear hb9)
      all_goals go_ret
      all_goals exact ⟨by rw [HM2.out]; rfl, by first | exact HB9.out | exact HB6.out⟩
  have hb4 : (kind == 4) = false := by simpa using k4
  by_cases k5 : kind = 5
  · subst k5
    have HM2 : Hid (MB = (OB && NB && !yes && EB)) := by show _ = _; rw [HMB.out, if_neg (by decide), if_neg (by decide), if_neg (by decide), if_pos (by decide)]
    go_upto_region 17 with (fail)
    obtain ⟨W6, hW6⟩ : ∃ W6, W6 = W := ⟨_, rfl⟩
    have HX6 : Hid (GBx W6 w.heap.size [.int .u8 5, .int .u8 of_, .int .u8 rk, .slice io LN ic, .int .u64 num, .bool yes, .string key]) := by
      rw [hW6]
      exact HX.out
    have HB6 : Hid (Below w.heap.size w W6) := by
      rw [hW6]
      exact HB.out
    rw [← hW6]
    clear hW6 x0 x1 x2 x3 x4 x5 x6 f0 f1 f2 f3 f4 f5 f6 hlt
    have z0 := HX6.out.c 0 (by simp)
    have z1 := HX6.out.c 1 (by simp)
    have z2 := HX6.out.c 2 (by simp)
    have z3 := HX6.out.c 3 (by simp)
    have z4 := HX6.out.c 4 (by simp)
    have z5 := HX6.out.c 5 (by simp)
    have z6 := HX6.out.c 6 (by simp)
    simp only [List.getElem_cons_zero, List.getElem_cons_succ] at z0 z1 z2 z3 z4 z5 z6
    have hlt6 := HX6.out.lt
    cases OB <;> cases NB <;> cases yes <;> cases EB
    all_goals
      go_wp2_with (go_at_call 40; refine (HNO.out _).mono ?_; rintro e w9 ⟨rfl, hb9⟩; have HB9 := Hid.mk2 (g_on HB6.out hb9); have HX9 := Hid.mk2 (HX6.out.below hb9); have t5 := HX9.out.c 5 (by simp); have t6 := HX9.out.c 6 (by simp); simp only [List.getElem_cons_zero, List.getElem_cons_succ] at t5 t6; clear hb9)
      all_goals go_ret
      all_goals exact ⟨by rw [HM2.out]; rfl, by first | exact HB9.out | exact HB6.out⟩
  have hb5 : (kind == 5) = false := by simpa using k5
  by_cases k6 : kind = 6
  · subst k6
    have HM2 : Hid (MB = (OB && NB && !yes && EB)) := by show _ = _; rw [HMB.out, if_neg (by decide), if_neg (by decide), if_neg (by decide), if_pos (by decide)]
    go_upto_region 17 with (fail)
    obtain ⟨W6, hW6⟩ : ∃ W6, W6 = W := ⟨_, rfl⟩
    have HX6 : Hid (GBx W6 w.heap.size [.int .u8 6, .int .u8 of_, .int .u8 rk, .slice io LN ic, .int .u64 num, .bool yes, .string key]) := by
      rw [hW6]
      exact HX.out
    have HB6 : Hid (Below w.heap.size w W6) := by
      rw [hW6]
      exact HB.out
    rw [← hW6]
    clear hW6 x0 x1 x2 x3 x4 x5 x6 f0 f1 f2 f3 f4 f5 f6 hlt
    have z0 := HX6.out.c 0 (by simp)
    have z1 := HX6.out.c 1 (by simp)
    have z2 := HX6.out.c 2 (by simp)
    have z3 := HX6.out.c 3 (by simp)
    have z4 := HX6.out.c 4 (by simp)
    have z5 := HX6.out.c 5 (by simp)
    have z6 := HX6.out.c 6 (by simp)
    simp only [List.getElem_cons_zero, List.getElem_cons_succ] at z0 z1 z2 z3 z4 z5 z6
    have hlt6 := HX6.out.lt
    cases OB <;> cases NB <;> cases yes <;> cases EB
    all_goals
      go_wp2_with (go_at_call 40; refine (HNO.out _).mono ?_; rintro e w9 ⟨rfl, hb9⟩; have HB9 := Hid.mk2 (g_on HB6.out hb9); have HX9 := Hid.mk2 (HX6.out.below hb9); have t5 := HX9.out.c 5 (by simp); have t6 := HX9.out.c 6 (by simp); simp only [List.getElem_cons_zero, List.getElem_cons_succ] at t5 t6; clear hb9)
      all_goals go_ret
      all_goals exact ⟨by rw [HM2.out]; rfl, by first | exact HB9.out | exact HB6.out⟩
  have hb6 : (kind == 6) = false := by simpa using k6
  have HM2 : Hid (MB = false) := by show _ = _; rw [HMB.out, if_neg k1, if_neg (by omega), if_neg k7, if_neg (by omega)]
  go_wp2
  go_ret
  exact ⟨by rw [HM2.out]; rfl, HB.out⟩
theorem wCheck_any (a : An) (io : Option Addr) (ic : Nat) (w : World) (hi : GRd EM w io a.items ic) (hk : a.key.size ≤ maxLen) : Calls Try.prog 15 #[.agg (a.arr (.slice io a.items.length ic))] w fun e w' => e = .returned (.int .i64 (if a.may = true then 0 else 8)) ∧ Below w.heap.size w w' := by
  obtain ⟨W, hW⟩ : ∃ W, W = w.alloc (.cells (a.arr (.slice io a.items.length ic)) 31) := ⟨_, rfl⟩
  have HB : Hid (Below w.heap.size w W) := by rw [hW]; exact g_alloc _ _
  have HX : Hid (GBx W w.heap.size (a.cl (.slice io a.items.length ic))) := by rw [hW]; exact GBx.made w (a.cl _) _
  have HM := Hid.mk2 (wmayBe_any a io ic W (hi.below HB.out) hk)
  obtain ⟨MB, hMB⟩ : ∃ M, M = a.may := ⟨_, rfl⟩
  rw [← hMB] at HM ⊢
  clear hMB hi hk
  obtain ⟨kind, of_, rk, L, num, yes, key⟩ := a
  unfold An.arr at *
  unfold An.cl at HX
  dsimp only at *
  have x0 := HX.out.c 0 (by simp)
  have x1 := HX.out.c 1 (by simp)
  have x2 := HX.out.c 2 (by simp)
  have x3 := HX.out.c 3 (by simp)
  have x4 := HX.out.c 4 (by simp)
  have x5 := HX.out.c 5 (by simp)
  have x6 := HX.out.c 6 (by simp)
  simp only [List.getElem_cons_zero, List.getElem_cons_succ] at x0 x1 x2 x3 x4 x5 x6
  have hlt := HX.out.lt
  go_enter Try.func15, Try.ntmps15
  go_upto_region 1 with (fail)
  rw [← hW]
  clear hW
  cases MB with
  | true =>
    go_wp2_with (go_at_call 26; refine HM.out.mono ?_; rintro e w1 ⟨rfl, hb1⟩; have HB1 := Hid.mk2 (g_on HB.out hb1); clear hb1)
    go_ret
    exact ⟨rfl, HB1.out⟩
  | false =>
    go_wp2_with (go_at_call 26; refine HM.out.mono ?_; rintro e w1 ⟨rfl, hb1⟩; have HB1 := Hid.mk2 (g_on HB.out hb1); clear hb1)
    go_ret
    exact ⟨rfl, HB1.out⟩
end Go.Proofs.Ytfjcaofmcjhdpaa
