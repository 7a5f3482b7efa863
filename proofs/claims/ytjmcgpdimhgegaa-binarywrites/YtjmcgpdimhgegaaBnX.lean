/-
  Package binary: hasRow.
-/
import Derived.Test.YtjmcgpdimhgegaaBnW
import Derived.Test.YtjmcgpdimhgegaaBnB
namespace Go.Proofs.Ytjmcgpdimhgegaa
open Go.Proofs.Ytjmcgpdimhgegaa.It
open Go.RowKit
set_option linter.unusedSimpArgs false
set_option linter.unusedVariables false
set_option maxRecDepth 100000

set_option maxHeartbeats 4000000 in
theorem hasRow_any (r : Rq) (ko : Option Addr) (kc : Nat) (w : World) (hlen : r.cmd.keys.length ≤ 9223372036854775807) (hkd : 0 ≤ r.kind ∧ r.kind ≤ 255) :
    Calls Try.prog 12 #[.agg (r.arr (.slice ko r.cmd.keys.length kc))] w fun e w' => e = .returned (.bool r.hasRow) ∧ Below w.heap.size w w' := by
  have HQ := Hid.mk2 (fun W => isReqI_any r.kind hkd W)
  have HN := Hid.mk2 (fun W => isNothing_any r.cmd ko kc W hlen)
  have HL := Hid.mk2 (fun W => loginMay_any r.tenant r.secret.size W)
  have HR : Hid (r.hasRow = (decide (1 ≤ r.kind ∧ r.kind ≤ 5) && !r.close && (decide (r.kind = 1) || r.cmd.isNone) && (decide (r.kind = 3) || !r.on) && (decide (r.kind = 2) || (decide (r.tenant = 0) && r.secret.toList.isEmpty)) && (!decide (r.kind = 2) || logOk r.tenant r.secret.size))) := rfl
  obtain ⟨R, hR⟩ : ∃ R, R = r.hasRow := ⟨_, rfl⟩
  rw [← hR] at HR ⊢
  obtain ⟨NN, hNN⟩ : ∃ NN, NN = r.cmd.isNone := ⟨_, rfl⟩
  rw [← hNN] at HR HN
  obtain ⟨LO, hLO⟩ : ∃ LO, LO = logOk r.tenant r.secret.size := ⟨_, rfl⟩
  rw [← hLO] at HR HL
  clear hR hNN hLO hlen
  obtain ⟨W, hW⟩ : ∃ W, W = w.alloc (.cells (r.arr (.slice ko r.cmd.keys.length kc)) 28) := ⟨_, rfl⟩
  have HB : Hid (Below w.heap.size w W) := by rw [hW]; exact g_alloc _ _
  have HX : Hid (GBx W w.heap.size (r.cl (.slice ko r.cmd.keys.length kc))) := by rw [hW]; exact GBx.made w (r.cl _) _
  obtain ⟨kind, ⟨ck, ct, keys, cv, cf, cl, cu, cb⟩, tenant, secret, on, close⟩ := r
  unfold Rq.arr Rq.cl at *
  unfold Cm.arr at HN
  dsimp only at *
  have c0 := HX.out.c 0 (by simp)
  have c1 := HX.out.c 1 (by simp)
  have c2 := HX.out.c 2 (by simp)
  have c3 := HX.out.c 3 (by simp)
  have c4 := HX.out.c 4 (by simp)
  have c5 := HX.out.c 5 (by simp)
  have c6 := HX.out.c 6 (by simp)
  have c7 := HX.out.c 7 (by simp)
  have c8 := HX.out.c 8 (by simp)
  have c9 := HX.out.c 9 (by simp)
  have c10 := HX.out.c 10 (by simp)
  have c11 := HX.out.c 11 (by simp)
  have c12 := HX.out.c 12 (by simp)
  have hlt := HX.out.lt
  simp only [List.getElem_cons_zero, List.getElem_cons_succ] at c0 c1 c2 c3 c4 c5 c6 c7 c8 c9 c10 c11 c12
  by_cases hk : 1 ≤ kind ∧ kind ≤ 5
  case neg =>
    have hq : decide (1 ≤ kind ∧ kind ≤ 5) = false := decide_eq_false hk
    rw [hq] at HQ HR
    have hR2 : R = false := by rw [HR.out]; simp
    subst hR2
    clear hk hq hkd
    go_enter Try.func12, Try.ntmps12
    go_upto_region 1 with (fail)
    rw [← hW]
    clear hW
    go_wp2_with (go_at_call 20; refine (HQ.out _).mono ?_; rintro e w1 ⟨rfl, rfl⟩)
    go_ret
    exact ⟨rfl, HB.out⟩
  have hq : decide (1 ≤ kind ∧ kind ≤ 5) = true := decide_eq_true hk
  rw [hq] at HQ HR
  cases close with
  | true =>
    have hR2 : R = false := by rw [HR.out]; simp
    subst hR2
    clear hk hq hkd
    go_enter Try.func12, Try.ntmps12
    go_upto_region 1 with (fail)
    rw [← hW]
    clear hW
    go_wp2_with (go_at_call 20; refine (HQ.out _).mono ?_; rintro e w1 ⟨rfl, rfl⟩)
    go_ret
    exact ⟨rfl, HB.out⟩
  | false =>
  have hk5 : kind = 1 ∨ kind = 2 ∨ kind = 3 ∨ kind = 4 ∨ kind = 5 := by omega
  clear hk hq hkd
  rcases hk5 with rfl | rfl | rfl | rfl | rfl
  · cases on with
    | true =>
      have HR2 : Hid (R = (false)) := by show _ = _; rw [HR.out]; simp
      go_enter Try.func12, Try.ntmps12
      go_upto_region 1 with (fail)
      rw [← hW]
      clear hW
      go_wp2_with (first
        | (go_at_call 20; refine (HQ.out _).mono ?_; rintro e w1 ⟨rfl, rfl⟩)
        | (go_at_call 21; refine (HN.out _).mono ?_; rintro e w2 ⟨rfl, hb2⟩; have HX2 := Hid.mk2 (HX.out.below hb2); have HB2 := Hid.mk2 (g_on HB.out hb2); have d0 := HX2.out.c 0 (by simp); have d9 := HX2.out.c 9 (by simp); have d10 := HX2.out.c 10 (by simp); have d11 := HX2.out.c 11 (by simp); have d12 := HX2.out.c 12 (by simp); simp only [List.getElem_cons_zero, List.getElem_cons_succ] at d0 d9 d10 d11 d12; have hlt2 := HX2.out.lt; clear hb2)
        | (go_at_call 22; refine (HL.out _).mono ?_; rintro e w3 ⟨rfl, rfl⟩))
      all_goals (go_ret; exact ⟨by rw [HR2.out]; first | rfl | simp_all, HB.out⟩)
    | false =>
      have HR2 : Hid (R = (decide (tenant = 0) && secret.toList.isEmpty)) := by show _ = _; rw [HR.out]; simp
      go_enter Try.func12, Try.ntmps12
      go_upto_region 1 with (fail)
      rw [← hW]
      clear hW
      go_wp2_with (first
        | (go_at_call 20; refine (HQ.out _).mono ?_; rintro e w1 ⟨rfl, rfl⟩)
        | (go_at_call 21; refine (HN.out _).mono ?_; rintro e w2 ⟨rfl, hb2⟩; have HX2 := Hid.mk2 (HX.out.below hb2); have HB2 := Hid.mk2 (g_on HB.out hb2); have d0 := HX2.out.c 0 (by simp); have d9 := HX2.out.c 9 (by simp); have d10 := HX2.out.c 10 (by simp); have d11 := HX2.out.c 11 (by simp); have d12 := HX2.out.c 12 (by simp); simp only [List.getElem_cons_zero, List.getElem_cons_succ] at d0 d9 d10 d11 d12; have hlt2 := HX2.out.lt; clear hb2)
        | (go_at_call 22; refine (HL.out _).mono ?_; rintro e w3 ⟨rfl, rfl⟩))
      all_goals (go_ret; exact ⟨by rw [HR2.out]; first | rfl | simp_all, HB.out⟩)
  · cases NN with
    | false =>
      have HR2 : Hid (R = false) := by show _ = _; rw [HR.out]; simp
      go_enter Try.func12, Try.ntmps12
      go_upto_region 1 with (fail)
      rw [← hW]
      clear hW
      go_wp2_with (first
        | (go_at_call 20; refine (HQ.out _).mono ?_; rintro e w1 ⟨rfl, rfl⟩)
        | (go_at_call 21; refine (HN.out _).mono ?_; rintro e w2 ⟨rfl, hb2⟩; have HX2 := Hid.mk2 (HX.out.below hb2); have HB2 := Hid.mk2 (g_on HB.out hb2); have d0 := HX2.out.c 0 (by simp); have d9 := HX2.out.c 9 (by simp); have d10 := HX2.out.c 10 (by simp); have d11 := HX2.out.c 11 (by simp); have d12 := HX2.out.c 12 (by simp); simp only [List.getElem_cons_zero, List.getElem_cons_succ] at d0 d9 d10 d11 d12; have hlt2 := HX2.out.lt; clear hb2)
        | (go_at_call 22; refine (HL.out _).mono ?_; rintro e w3 ⟨rfl, rfl⟩))
      all_goals (go_ret; exact ⟨by rw [HR2.out]; first | rfl | simp_all, HB2.out⟩)
    | true =>
      cases on with
      | true =>
        have HR2 : Hid (R = false) := by show _ = _; rw [HR.out]; simp
        go_enter Try.func12, Try.ntmps12
        go_upto_region 1 with (fail)
        rw [← hW]
        clear hW
        go_wp2_with (first
          | (go_at_call 20; refine (HQ.out _).mono ?_; rintro e w1 ⟨rfl, rfl⟩)
          | (go_at_call 21; refine (HN.out _).mono ?_; rintro e w2 ⟨rfl, hb2⟩; have HX2 := Hid.mk2 (HX.out.below hb2); have HB2 := Hid.mk2 (g_on HB.out hb2); have d0 := HX2.out.c 0 (by simp); have d9 := HX2.out.c 9 (by simp); have d10 := HX2.out.c 10 (by simp); have d11 := HX2.out.c 11 (by simp); have d12 := HX2.out.c 12 (by simp); simp only [List.getElem_cons_zero, List.getElem_cons_succ] at d0 d9 d10 d11 d12; have hlt2 := HX2.out.lt; clear hb2)
          | (go_at_call 22; refine (HL.out _).mono ?_; rintro e w3 ⟨rfl, rfl⟩))
        all_goals (go_ret; exact ⟨by rw [HR2.out]; first | rfl | simp_all, HB2.out⟩)
      | false =>
        have HR2 : Hid (R = (LO)) := by show _ = _; rw [HR.out]; simp
        go_enter Try.func12, Try.ntmps12
        go_upto_region 1 with (fail)
        rw [← hW]
        clear hW
        go_wp2_with (first
          | (go_at_call 20; refine (HQ.out _).mono ?_; rintro e w1 ⟨rfl, rfl⟩)
          | (go_at_call 21; refine (HN.out _).mono ?_; rintro e w2 ⟨rfl, hb2⟩; have HX2 := Hid.mk2 (HX.out.below hb2); have HB2 := Hid.mk2 (g_on HB.out hb2); have d0 := HX2.out.c 0 (by simp); have d9 := HX2.out.c 9 (by simp); have d10 := HX2.out.c 10 (by simp); have d11 := HX2.out.c 11 (by simp); have d12 := HX2.out.c 12 (by simp); simp only [List.getElem_cons_zero, List.getElem_cons_succ] at d0 d9 d10 d11 d12; have hlt2 := HX2.out.lt; clear hb2)
          | (go_at_call 22; refine (HL.out _).mono ?_; rintro e w3 ⟨rfl, rfl⟩))
        all_goals (go_ret; exact ⟨by rw [HR2.out]; first | rfl | simp_all, HB2.out⟩)
  · cases NN with
    | false =>
      have HR2 : Hid (R = false) := by show _ = _; rw [HR.out]; simp
      go_enter Try.func12, Try.ntmps12
      go_upto_region 1 with (fail)
      rw [← hW]
      clear hW
      go_wp2_with (first
        | (go_at_call 20; refine (HQ.out _).mono ?_; rintro e w1 ⟨rfl, rfl⟩)
        | (go_at_call 21; refine (HN.out _).mono ?_; rintro e w2 ⟨rfl, hb2⟩; have HX2 := Hid.mk2 (HX.out.below hb2); have HB2 := Hid.mk2 (g_on HB.out hb2); have d0 := HX2.out.c 0 (by simp); have d9 := HX2.out.c 9 (by simp); have d10 := HX2.out.c 10 (by simp); have d11 := HX2.out.c 11 (by simp); have d12 := HX2.out.c 12 (by simp); simp only [List.getElem_cons_zero, List.getElem_cons_succ] at d0 d9 d10 d11 d12; have hlt2 := HX2.out.lt; clear hb2)
        | (go_at_call 22; refine (HL.out _).mono ?_; rintro e w3 ⟨rfl, rfl⟩))
      all_goals (go_ret; exact ⟨by rw [HR2.out]; first | rfl | simp_all, HB2.out⟩)
    | true =>
      have HR2 : Hid (R = (decide (tenant = 0) && secret.toList.isEmpty)) := by show _ = _; rw [HR.out]; simp
      go_enter Try.func12, Try.ntmps12
      go_upto_region 1 with (fail)
      rw [← hW]
      clear hW
      go_wp2_with (first
        | (go_at_call 20; refine (HQ.out _).mono ?_; rintro e w1 ⟨rfl, rfl⟩)
        | (go_at_call 21; refine (HN.out _).mono ?_; rintro e w2 ⟨rfl, hb2⟩; have HX2 := Hid.mk2 (HX.out.below hb2); have HB2 := Hid.mk2 (g_on HB.out hb2); have d0 := HX2.out.c 0 (by simp); have d9 := HX2.out.c 9 (by simp); have d10 := HX2.out.c 10 (by simp); have d11 := HX2.out.c 11 (by simp); have d12 := HX2.out.c 12 (by simp); simp only [List.getElem_cons_zero, List.getElem_cons_succ] at d0 d9 d10 d11 d12; have hlt2 := HX2.out.lt; clear hb2)
        | (go_at_call 22; refine (HL.out _).mono ?_; rintro e w3 ⟨rfl, rfl⟩))
      all_goals (go_ret; exact ⟨by rw [HR2.out]; first | rfl | simp_all, HB2.out⟩)
  · cases NN with
    | false =>
      have HR2 : Hid (R = false) := by show _ = _; rw [HR.out]; simp
      go_enter Try.func12, Try.ntmps12
      go_upto_region 1 with (fail)
      rw [← hW]
      clear hW
      go_wp2_with (first
        | (go_at_call 20; refine (HQ.out _).mono ?_; rintro e w1 ⟨rfl, rfl⟩)
        | (go_at_call 21; refine (HN.out _).mono ?_; rintro e w2 ⟨rfl, hb2⟩; have HX2 := Hid.mk2 (HX.out.below hb2); have HB2 := Hid.mk2 (g_on HB.out hb2); have d0 := HX2.out.c 0 (by simp); have d9 := HX2.out.c 9 (by simp); have d10 := HX2.out.c 10 (by simp); have d11 := HX2.out.c 11 (by simp); have d12 := HX2.out.c 12 (by simp); simp only [List.getElem_cons_zero, List.getElem_cons_succ] at d0 d9 d10 d11 d12; have hlt2 := HX2.out.lt; clear hb2)
        | (go_at_call 22; refine (HL.out _).mono ?_; rintro e w3 ⟨rfl, rfl⟩))
      all_goals (go_ret; exact ⟨by rw [HR2.out]; first | rfl | simp_all, HB2.out⟩)
    | true =>
      cases on with
      | true =>
        have HR2 : Hid (R = false) := by show _ = _; rw [HR.out]; simp
        go_enter Try.func12, Try.ntmps12
        go_upto_region 1 with (fail)
        rw [← hW]
        clear hW
        go_wp2_with (first
          | (go_at_call 20; refine (HQ.out _).mono ?_; rintro e w1 ⟨rfl, rfl⟩)
          | (go_at_call 21; refine (HN.out _).mono ?_; rintro e w2 ⟨rfl, hb2⟩; have HX2 := Hid.mk2 (HX.out.below hb2); have HB2 := Hid.mk2 (g_on HB.out hb2); have d0 := HX2.out.c 0 (by simp); have d9 := HX2.out.c 9 (by simp); have d10 := HX2.out.c 10 (by simp); have d11 := HX2.out.c 11 (by simp); have d12 := HX2.out.c 12 (by simp); simp only [List.getElem_cons_zero, List.getElem_cons_succ] at d0 d9 d10 d11 d12; have hlt2 := HX2.out.lt; clear hb2)
          | (go_at_call 22; refine (HL.out _).mono ?_; rintro e w3 ⟨rfl, rfl⟩))
        all_goals (go_ret; exact ⟨by rw [HR2.out]; first | rfl | simp_all, HB2.out⟩)
      | false =>
        have HR2 : Hid (R = (decide (tenant = 0) && secret.toList.isEmpty)) := by show _ = _; rw [HR.out]; simp
        go_enter Try.func12, Try.ntmps12
        go_upto_region 1 with (fail)
        rw [← hW]
        clear hW
        go_wp2_with (first
          | (go_at_call 20; refine (HQ.out _).mono ?_; rintro e w1 ⟨rfl, rfl⟩)
          | (go_at_call 21; refine (HN.out _).mono ?_; rintro e w2 ⟨rfl, hb2⟩; have HX2 := Hid.mk2 (HX.out.below hb2); have HB2 := Hid.mk2 (g_on HB.out hb2); have d0 := HX2.out.c 0 (by simp); have d9 := HX2.out.c 9 (by simp); have d10 := HX2.out.c 10 (by simp); have d11 := HX2.out.c 11 (by simp); have d12 := HX2.out.c 12 (by simp); simp only [List.getElem_cons_zero, List.getElem_cons_succ] at d0 d9 d10 d11 d12; have hlt2 := HX2.out.lt; clear hb2)
          | (go_at_call 22; refine (HL.out _).mono ?_; rintro e w3 ⟨rfl, rfl⟩))
        all_goals (go_ret; exact ⟨by rw [HR2.out]; first | rfl | simp_all, HB2.out⟩)
  · cases NN with
    | false =>
      have HR2 : Hid (R = false) := by show _ = _; rw [HR.out]; simp
      go_enter Try.func12, Try.ntmps12
      go_upto_region 1 with (fail)
      rw [← hW]
      clear hW
      go_wp2_with (first
        | (go_at_call 20; refine (HQ.out _).mono ?_; rintro e w1 ⟨rfl, rfl⟩)
        | (go_at_call 21; refine (HN.out _).mono ?_; rintro e w2 ⟨rfl, hb2⟩; have HX2 := Hid.mk2 (HX.out.below hb2); have HB2 := Hid.mk2 (g_on HB.out hb2); have d0 := HX2.out.c 0 (by simp); have d9 := HX2.out.c 9 (by simp); have d10 := HX2.out.c 10 (by simp); have d11 := HX2.out.c 11 (by simp); have d12 := HX2.out.c 12 (by simp); simp only [List.getElem_cons_zero, List.getElem_cons_succ] at d0 d9 d10 d11 d12; have hlt2 := HX2.out.lt; clear hb2)
        | (go_at_call 22; refine (HL.out _).mono ?_; rintro e w3 ⟨rfl, rfl⟩))
      all_goals (go_ret; exact ⟨by rw [HR2.out]; first | rfl | simp_all, HB2.out⟩)
    | true =>
      cases on with
      | true =>
        have HR2 : Hid (R = false) := by show _ = _; rw [HR.out]; simp
        go_enter Try.func12, Try.ntmps12
        go_upto_region 1 with (fail)
        rw [← hW]
        clear hW
        go_wp2_with (first
          | (go_at_call 20; refine (HQ.out _).mono ?_; rintro e w1 ⟨rfl, rfl⟩)
          | (go_at_call 21; refine (HN.out _).mono ?_; rintro e w2 ⟨rfl, hb2⟩; have HX2 := Hid.mk2 (HX.out.below hb2); have HB2 := Hid.mk2 (g_on HB.out hb2); have d0 := HX2.out.c 0 (by simp); have d9 := HX2.out.c 9 (by simp); have d10 := HX2.out.c 10 (by simp); have d11 := HX2.out.c 11 (by simp); have d12 := HX2.out.c 12 (by simp); simp only [List.getElem_cons_zero, List.getElem_cons_succ] at d0 d9 d10 d11 d12; have hlt2 := HX2.out.lt; clear hb2)
          | (go_at_call 22; refine (HL.out _).mono ?_; rintro e w3 ⟨rfl, rfl⟩))
        all_goals (go_ret; exact ⟨by rw [HR2.out]; first | rfl | simp_all, HB2.out⟩)
      | false =>
        have HR2 : Hid (R = (decide (tenant = 0) && secret.toList.isEmpty)) := by show _ = _; rw [HR.out]; simp
        go_enter Try.func12, Try.ntmps12
        go_upto_region 1 with (fail)
        rw [← hW]
        clear hW
        go_wp2_with (first
          | (go_at_call 20; refine (HQ.out _).mono ?_; rintro e w1 ⟨rfl, rfl⟩)
          | (go_at_call 21; refine (HN.out _).mono ?_; rintro e w2 ⟨rfl, hb2⟩; have HX2 := Hid.mk2 (HX.out.below hb2); have HB2 := Hid.mk2 (g_on HB.out hb2); have d0 := HX2.out.c 0 (by simp); have d9 := HX2.out.c 9 (by simp); have d10 := HX2.out.c 10 (by simp); have d11 := HX2.out.c 11 (by simp); have d12 := HX2.out.c 12 (by simp); simp only [List.getElem_cons_zero, List.getElem_cons_succ] at d0 d9 d10 d11 d12; have hlt2 := HX2.out.lt; clear hb2)
          | (go_at_call 22; refine (HL.out _).mono ?_; rintro e w3 ⟨rfl, rfl⟩))
        all_goals (go_ret; exact ⟨by rw [HR2.out]; first | rfl | simp_all, HB2.out⟩)
end Go.Proofs.Ytjmcgpdimhgegaa
