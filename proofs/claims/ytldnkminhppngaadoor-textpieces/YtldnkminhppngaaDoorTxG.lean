/-
  (shaken)
-/
import Derived.Test.YtldnkminhppngaaDoorTxF
namespace Go.Proofs.YtldnkminhppngaaDoor
open Go.Proofs.YtldnkminhppngaaDoor.It
open Go.RowKit
set_option linter.unusedSimpArgs false
set_option linter.unusedVariables false
set_option maxRecDepth 100000

theorem bl_app (a b : ByteArray) : bl (a ++ b) = bl a ++ bl b := by simp [bl, ByteArray.data_append]
theorem sz_app (a b : ByteArray) : (a ++ b).size = a.size + b.size := by rw [← bl_len, bl_app, List.length_append, bl_len, bl_len]
theorem joinW_le {r : Rq} (hE : r.wrE = 0) (hf : r.Fit) : (joinW r.words).length ≤ 30000 := by
  obtain ⟨h1, h2, h3⟩ := words_small hE hf
  cases hL : r.words with
  | nil => exact absurd hL h1
  | cons a L =>
    rw [hL] at h2 h3
    rw [joinW_cons, List.length_append, bl_len]
    have h4 := h3 a (by simp)
    have h5 := joinW_len 1000 L (fun x hx => h3 x (by simp [hx]))
    have h6 : L.length * 1001 ≤ 20 * 1001 := Nat.mul_le_mul_right _ (by simp at h2; omega)
    omega
theorem val_small {r : Rq} (hE : r.wrE = 0) : hasVal r.cmd.kind = true → r.cmd.value.size ≤ 512 := by
  intro hv
  obtain ⟨hline, hcmd⟩ := wrE_zero hE
  by_cases hk : r.kind = 1
  · exact (Cm.may_parts14 (hcmd hk).1).2.2.2.1
  · have := hasLine_none hline hk
    rw [this] at hv
    exact absurd hv (by decide)

set_option maxHeartbeats 2000000 in
theorem write14_any (r : Rq) (ko : Option Addr) (kc : Nat) (w : World) (h : GRd ES w ko r.cmd.keys kc) (hk : ∀ k ∈ r.cmd.keys, k.size ≤ maxLen) (hsec : r.secret.size ≤ maxLen) (hf : r.Fit) (ht : Tab w) (hkw : KwT w) :
    Calls Tryd.prog 16 #[.agg (r.arr (.slice ko r.cmd.keys.length kc))] w fun e w' => ∃ ao cap, e = .returned (.tuple #[.slice ao r.wr.length cap, .int .i64 r.wrE]) ∧ GRd EY w' ao r.wr cap ∧ Below w.heap.size w w' := by
  have HC := Hid.mk2 (fun V (hV : Below w.heap.size w V) => tcheck14_any r ko kc V (h.below hV) hk hsec)
  by_cases hE : r.wrE = 0
  case neg =>
    have hR : r.wr = [] := by unfold Rq.wr; rw [if_neg hE]
    rw [hR]
    obtain ⟨E, hEe⟩ : ∃ E, E = r.wrE := ⟨_, rfl⟩
    rw [← hEe] at HC hE ⊢
    clear hEe hR h hk hsec hf ht hkw
    obtain ⟨W, hW⟩ : ∃ W, W = w.alloc (.cells (r.arr (.slice ko r.cmd.keys.length kc)) 28) := ⟨_, rfl⟩
    have HB : Hid (Below w.heap.size w W) := by rw [hW]; exact g_alloc _ _
    have HX : Hid (GBx W w.heap.size (r.cl (.slice ko r.cmd.keys.length kc))) := by rw [hW]; exact GBx.made w (r.cl _) _
    obtain ⟨rk, ⟨kind, tenant, keys, value, flags, life, unique, by_⟩, rt, secret, on, close⟩ := r
    unfold Rq.arr Rq.cl at *
    dsimp only at *
    have c0 := HX.out.c 0 (by simp)
    have c1 := HX.out.c 1 (by simp)
    have c2 := HX.out.c 2 (by simp)
    have c3 := HX.out.c 3 (by simp)
    have c4 := HX.out.c 4 (by simp)
    have c5 := HX.out.c 5 (by simp)
    have c6 := HX.out.c 6 (by simp)
    have c7 := HX.out.c 7 (by simp)
    have c8 := HX.out.c 8 (by simp)
    have c9 := HX.out.c 9 (by simp)
    have c10 := HX.out.c 10 (by simp)
    have c11 := HX.out.c 11 (by simp)
    have c12 := HX.out.c 12 (by simp)
    simp only [List.getElem_cons_zero, List.getElem_cons_succ] at c0 c1 c2 c3 c4 c5 c6 c7 c8 c9 c10 c11 c12
    have hlt := HX.out.lt
    go_enter Tryd.func16, Tryd.ntmps16
    go_upto_region 1 with (fail)
    rw [← hW]
    clear hW
    go_wp2_with (go_at_call 22; refine (HC.out _ HB.out).mono ?_; rintro e w5 ⟨rfl, hb5⟩)
    go_ret2
    exact ⟨none, 0, rfl, GRd.nil _, g_on HB.out hb5⟩
  have hR : r.wr = r.wrL := by unfold Rq.wr; rw [if_pos hE]
  have HJL := Hid.mk2 (joinW_le hE hf)
  have HVL := Hid.mk2 (val_small hE)
  obtain ⟨s1, s2, s3⟩ := words_small hE hf
  have HWO := Hid.mk2 (fun V (hV : Below w.heap.size w V) => wordsOf_any r ko kc V (h.below hV) hE hf (ht.below hV) (hkw.below hV))
  have HJ := Hid.mk2 (fun base v V (hO : GOwn ES V base v r.words) => join_any14 r.words base v V hO s1 s2 s3)
  have HHV := Hid.mk2 (fun V => hasValue_any r.cmd.kind V)
  have hL : r.wrL = joinW r.words ++ [13, 10] ++ (if hasVal r.cmd.kind = true then bl r.cmd.value ++ [13, 10] else []) := rfl
  rw [hR, hE]
  rw [hE] at HC
  clear hR
  obtain ⟨L, hLe⟩ : ∃ L, L = r.wrL := ⟨_, rfl⟩
  rw [← hLe] at hL ⊢
  obtain ⟨WS, hWS⟩ : ∃ WS, WS = r.words := ⟨_, rfl⟩
  rw [← hWS] at HWO HJ hL HJL
  obtain ⟨V, hV⟩ : ∃ V, V = hasVal r.cmd.kind := ⟨_, rfl⟩
  rw [← hV] at HHV hL HVL
  obtain ⟨J, hJ⟩ : ∃ J : ByteArray, J = ⟨(joinW WS).toArray⟩ := ⟨_, rfl⟩
  have hJb : bl J = joinW WS := by rw [hJ, bl_mk]
  rw [← hJ] at HJ
  have hJs : J.size ≤ 30000 := by rw [← bl_len, hJb]; exact HJL.out
  rw [← hJb] at hL
  clear hLe hWS hV hJ s1 s2 s3 h hk hsec hf ht hkw hE HJL hJb
  obtain ⟨W, hW⟩ : ∃ W, W = w.alloc (.cells (r.arr (.slice ko r.cmd.keys.length kc)) 28) := ⟨_, rfl⟩
  have HB : Hid (Below w.heap.size w W) := by rw [hW]; exact g_alloc _ _
  have HX : Hid (GBx W w.heap.size (r.cl (.slice ko r.cmd.keys.length kc))) := by rw [hW]; exact GBx.made w (r.cl _) _
  obtain ⟨rk, ⟨kind, tenant, keys, value, flags, life, unique, by_⟩, rt, secret, on, close⟩ := r
  unfold Rq.arr Rq.cl at *
  dsimp only at *
  have c0 := HX.out.c 0 (by simp)
  have c1 := HX.out.c 1 (by simp)
  have c2 := HX.out.c 2 (by simp)
  have c3 := HX.out.c 3 (by simp)
  have c4 := HX.out.c 4 (by simp)
  have c5 := HX.out.c 5 (by simp)
  have c6 := HX.out.c 6 (by simp)
  have c7 := HX.out.c 7 (by simp)
  have c8 := HX.out.c 8 (by simp)
  have c9 := HX.out.c 9 (by simp)
  have c10 := HX.out.c 10 (by simp)
  have c11 := HX.out.c 11 (by simp)
  have c12 := HX.out.c 12 (by simp)
  simp only [List.getElem_cons_zero, List.getElem_cons_succ] at c0 c1 c2 c3 c4 c5 c6 c7 c8 c9 c10 c11 c12
  have hlt := HX.out.lt
  go_enter Tryd.func16, Tryd.ntmps16
  go_upto_region 1 with (fail)
  rw [← hW]
  clear hW
  have hz1 : ¬ 9223372036854775807 < J.size + 2 := by omega
  have hz2 : ¬ 9223372036854775807 < J.size + (⟨#[13, 10]⟩ : ByteArray).size := by show ¬ 9223372036854775807 < J.size + 2; omega
  cases V
  · have hcv := conv_str (J ++ ⟨#[13, 10]⟩)
    have HL : Hid (L = bl (J ++ ⟨#[13, 10]⟩)) := by show L = _; rw [hL, bl_app]; simp; rfl
    have HZ : Hid ((J ++ ⟨#[13, 10]⟩ : ByteArray).size ≤ maxLen) := by show _ ≤ _; rw [← bl_len, bl_app, List.length_append, bl_len]; have : maxLen = 9223372036854775807 := rfl; show J.size + 2 ≤ _; omega
    clear hL HVL
    go_wp2_with (first | (go_at_call 22; refine (HC.out _ HB.out).mono ?_; rintro e w5 ⟨rfl, hb5⟩; have HX5 := Hid.mk2 (HX.out.below hb5); have HB5 := Hid.mk2 (g_on HB.out hb5); have d0 := HX5.out.c 0 (by simp); have d1 := HX5.out.c 1 (by simp); have d2 := HX5.out.c 2 (by simp); have d3 := HX5.out.c 3 (by simp); have d4 := HX5.out.c 4 (by simp); have d5 := HX5.out.c 5 (by simp); have d6 := HX5.out.c 6 (by simp); have d7 := HX5.out.c 7 (by simp); have d8 := HX5.out.c 8 (by simp); have d9 := HX5.out.c 9 (by simp); have d10 := HX5.out.c 10 (by simp); have d11 := HX5.out.c 11 (by simp); have d12 := HX5.out.c 12 (by simp); simp only [List.getElem_cons_zero, List.getElem_cons_succ] at d0 d1 d2 d3 d4 d5 d6 d7 d8 d9 d10 d11 d12; have hlt5 := HX5.out.lt; clear hb5) | (go_at_call 24; refine (HWO.out _ HB5.out).mono ?_; rintro e w6 ⟨v6, rfl, hO6, hb6⟩; have HO6 := Hid.mk2 hO6; clear hO6; have HXn := Hid.mk2 (HX5.out.below hb6); have HBn := Hid.mk2 (g_on HB5.out hb6); clear HX5 HB5; have HX5 := HXn; have HB5 := HBn; clear HXn HBn; clear d0 d1 d2 d3 d4 d5 d6 d7 d8 d9 d10 d11 d12 hlt5; have d0 := HX5.out.c 0 (by simp); have d1 := HX5.out.c 1 (by simp); have d2 := HX5.out.c 2 (by simp); have d3 := HX5.out.c 3 (by simp); have d4 := HX5.out.c 4 (by simp); have d5 := HX5.out.c 5 (by simp); have d6 := HX5.out.c 6 (by simp); have d7 := HX5.out.c 7 (by simp); have d8 := HX5.out.c 8 (by simp); have d9 := HX5.out.c 9 (by simp); have d10 := HX5.out.c 10 (by simp); have d11 := HX5.out.c 11 (by simp); have d12 := HX5.out.c 12 (by simp); simp only [List.getElem_cons_zero, List.getElem_cons_succ] at d0 d1 d2 d3 d4 d5 d6 d7 d8 d9 d10 d11 d12; have hlt5 := HX5.out.lt; clear hb6) | (go_at_call 23; refine (HJ.out _ _ _ HO6.out).mono ?_; rintro e w7 ⟨rfl, hb7⟩; have HXn := Hid.mk2 (HX5.out.below hb7); have HBn := Hid.mk2 (g_on HB5.out hb7); clear HX5 HB5; have HX5 := HXn; have HB5 := HBn; clear HXn HBn; clear d0 d1 d2 d3 d4 d5 d6 d7 d8 d9 d10 d11 d12 hlt5; have d0 := HX5.out.c 0 (by simp); have d1 := HX5.out.c 1 (by simp); have d2 := HX5.out.c 2 (by simp); have d3 := HX5.out.c 3 (by simp); have d4 := HX5.out.c 4 (by simp); have d5 := HX5.out.c 5 (by simp); have d6 := HX5.out.c 6 (by simp); have d7 := HX5.out.c 7 (by simp); have d8 := HX5.out.c 8 (by simp); have d9 := HX5.out.c 9 (by simp); have d10 := HX5.out.c 10 (by simp); have d11 := HX5.out.c 11 (by simp); have d12 := HX5.out.c 12 (by simp); simp only [List.getElem_cons_zero, List.getElem_cons_succ] at d0 d1 d2 d3 d4 d5 d6 d7 d8 d9 d10 d11 d12; have hlt5 := HX5.out.lt; clear hb7) | (go_at_call 25; refine (HHV.out _).mono ?_; rintro e w8 ⟨rfl, hw8⟩; replace hw8 := hw8.symm; subst hw8))
    go_ret2
    exact ⟨_, _, by rw [HL.out, bl_len, sz_app]; rfl, by rw [HL.out]; exact bsW_rd _ _ HZ.out, g_on HB5.out (bsW_below _ _)⟩
  · have hv := HVL.out rfl
    have hcv := conv_str (J ++ ⟨#[13, 10]⟩ ++ (value ++ ⟨#[13, 10]⟩))
    have HL : Hid (L = bl (J ++ ⟨#[13, 10]⟩ ++ (value ++ ⟨#[13, 10]⟩))) := by show L = _; rw [hL, bl_app, bl_app, bl_app]; rfl
    have q1 : (J ++ ⟨#[13, 10]⟩ : ByteArray).size = J.size + 2 := by rw [← bl_len, bl_app, List.length_append, bl_len]; rfl
    have q2 : (value ++ ⟨#[13, 10]⟩ : ByteArray).size = value.size + 2 := by rw [← bl_len, bl_app, List.length_append, bl_len]; rfl
    have hz3 : ¬ 9223372036854775807 < value.size + 2 := by omega
    have hz4 : ¬ 9223372036854775807 < value.size + (⟨#[13, 10]⟩ : ByteArray).size := by show ¬ 9223372036854775807 < value.size + 2; omega
    have hz5 : ¬ 9223372036854775807 < (J ++ ⟨#[13, 10]⟩ : ByteArray).size + (value ++ ⟨#[13, 10]⟩ : ByteArray).size := by omega
    have HZ : Hid ((J ++ ⟨#[13, 10]⟩ ++ (value ++ ⟨#[13, 10]⟩) : ByteArray).size ≤ maxLen) := by show _ ≤ _; rw [← bl_len, bl_app, List.length_append, bl_len, bl_len, q1, q2]; have : maxLen = 9223372036854775807 := rfl; omega
    clear hL HVL hv q1 q2
    go_wp2_with (first | (go_at_call 22; refine (HC.out _ HB.out).mono ?_; rintro e w5 ⟨rfl, hb5⟩; have HX5 := Hid.mk2 (HX.out.below hb5); have HB5 := Hid.mk2 (g_on HB.out hb5); have d0 := HX5.out.c 0 (by simp); have d1 := HX5.out.c 1 (by simp); have d2 := HX5.out.c 2 (by simp); have d3 := HX5.out.c 3 (by simp); have d4 := HX5.out.c 4 (by simp); have d5 := HX5.out.c 5 (by simp); have d6 := HX5.out.c 6 (by simp); have d7 := HX5.out.c 7 (by simp); have d8 := HX5.out.c 8 (by simp); have d9 := HX5.out.c 9 (by simp); have d10 := HX5.out.c 10 (by simp); have d11 := HX5.out.c 11 (by simp); have d12 := HX5.out.c 12 (by simp); simp only [List.getElem_cons_zero, List.getElem_cons_succ] at d0 d1 d2 d3 d4 d5 d6 d7 d8 d9 d10 d11 d12; have hlt5 := HX5.out.lt; clear hb5) | (go_at_call 24; refine (HWO.out _ HB5.out).mono ?_; rintro e w6 ⟨v6, rfl, hO6, hb6⟩; have HO6 := Hid.mk2 hO6; clear hO6; have HXn := Hid.mk2 (HX5.out.below hb6); have HBn := Hid.mk2 (g_on HB5.out hb6); clear HX5 HB5; have HX5 := HXn; have HB5 := HBn; clear HXn HBn; clear d0 d1 d2 d3 d4 d5 d6 d7 d8 d9 d10 d11 d12 hlt5; have d0 := HX5.out.c 0 (by simp); have d1 := HX5.out.c 1 (by simp); have d2 := HX5.out.c 2 (by simp); have d3 := HX5.out.c 3 (by simp); have d4 := HX5.out.c 4 (by simp); have d5 := HX5.out.c 5 (by simp); have d6 := HX5.out.c 6 (by simp); have d7 := HX5.out.c 7 (by simp); have d8 := HX5.out.c 8 (by simp); have d9 := HX5.out.c 9 (by simp); have d10 := HX5.out.c 10 (by simp); have d11 := HX5.out.c 11 (by simp); have d12 := HX5.out.c 12 (by simp); simp only [List.getElem_cons_zero, List.getElem_cons_succ] at d0 d1 d2 d3 d4 d5 d6 d7 d8 d9 d10 d11 d12; have hlt5 := HX5.out.lt; clear hb6) | (go_at_call 23; refine (HJ.out _ _ _ HO6.out).mono ?_; rintro e w7 ⟨rfl, hb7⟩; have HXn := Hid.mk2 (HX5.out.below hb7); have HBn := Hid.mk2 (g_on HB5.out hb7); clear HX5 HB5; have HX5 := HXn; have HB5 := HBn; clear HXn HBn; clear d0 d1 d2 d3 d4 d5 d6 d7 d8 d9 d10 d11 d12 hlt5; have d0 := HX5.out.c 0 (by simp); have d1 := HX5.out.c 1 (by simp); have d2 := HX5.out.c 2 (by simp); have d3 := HX5.out.c 3 (by simp); have d4 := HX5.out.c 4 (by simp); have d5 := HX5.out.c 5 (by simp); have d6 := HX5.out.c 6 (by simp); have d7 := HX5.out.c 7 (by simp); have d8 := HX5.out.c 8 (by simp); have d9 := HX5.out.c 9 (by simp); have d10 := HX5.out.c 10 (by simp); have d11 := HX5.out.c 11 (by simp); have d12 := HX5.out.c 12 (by simp); simp only [List.getElem_cons_zero, List.getElem_cons_succ] at d0 d1 d2 d3 d4 d5 d6 d7 d8 d9 d10 d11 d12; have hlt5 := HX5.out.lt; clear hb7) | (go_at_call 25; refine (HHV.out _).mono ?_; rintro e w8 ⟨rfl, hw8⟩; replace hw8 := hw8.symm; subst hw8))
    go_ret2
    exact ⟨_, _, by rw [HL.out, bl_len, sz_app, sz_app, sz_app]; rfl, by rw [HL.out]; exact bsW_rd _ _ HZ.out, g_on HB5.out (bsW_below _ _)⟩
end Go.Proofs.YtldnkminhppngaaDoor
