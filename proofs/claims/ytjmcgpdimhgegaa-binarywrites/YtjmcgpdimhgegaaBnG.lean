/-
  The document's Write of requests as packets, where it has a row: a command.
-/
import Derived.Test.YtjmcgpdimhgegaaBnF
namespace Go.Proofs.Ytjmcgpdimhgegaa
open Go.Proofs.Ytjmcgpdimhgegaa.It
open Go.RowKit
set_option linter.unusedSimpArgs false
set_option linter.unusedVariables false
set_option maxRecDepth 100000

set_option maxHeartbeats 2000000 in
theorem rwriteG1_any (r : Rq) (ko : Option Addr) (kc : Nat) (w : World) (h : GRd ES w ko r.cmd.keys kc) (hf : CmFit r.cmd) (hrow : r.hasRow = true) (hkind : r.kind = 1) :
    Calls Try.prog 7 #[.agg (r.arr (.slice ko r.cmd.keys.length kc))] w fun e w' => ∃ v, e = .returned (.tuple #[v, .int .i64 r.bE]) ∧ GOwn EY w' w.heap.size v (if r.bE = 0 then pkt 177 (UInt8.ofNat r.kind.toNat) r.body else []) ∧ Below w.heap.size w w' := by
  obtain ⟨⟨k1, k2⟩, hc, hn, hon, ht, hl⟩ := row_parts hrow
  obtain ⟨W, hW⟩ : ∃ W, W = w.alloc (.cells (r.arr (.slice ko r.cmd.keys.length kc)) 28) := ⟨_, rfl⟩
  have hwb := Wb.made r ko kc w h
  rw [← hW] at hwb
  have HB := Hid.mk2 hwb.B
  have HX := Hid.mk2 hwb.X
  have HK := Hid.mk2 hwb.K
  have HC := Hid.mk2 (fun W (h : GRd ES W ko r.cmd.keys kc) => rcheck10_any r.cmd ko kc W h)
  have HM : Hid (r.cmd.may = true → ∀ W, GRd ES W ko r.cmd.keys kc → Calls Try.prog 16 #[.agg (r.cmd.arr (.slice ko r.cmd.keys.length kc))] W fun e w' => ∃ v', e = .returned (.tuple #[v', .int .i64 0]) ∧ GOwn EY w' W.heap.size v' (cmdB r.cmd.cmd) ∧ Below W.heap.size W w') := by
    intro hm W hr
    have hok := may_ok hm hf
    have h1 := refCommand_good r.cmd.cmd W ko kc (tl_of_rd hr) hok hf.good
    rw [arr_cells, Cm.cmd_cm hf] at h1
    exact h1.mono (by rintro e w' ⟨v', a, b, c⟩; exact ⟨v', a, own_of b, c⟩)
  have hbl : r.bE = 0 → r.body.length ≤ 1000 := fun e => body_len (by rw [wbE_row hrow]; exact e) hf
  unfold Rq.bE Rq.body at hbl
  rw [if_pos hkind, if_pos hkind] at hbl
  clear h hrow hf k1 k2 hwb
  obtain ⟨rk, ⟨kind, tenant, keys, value, flags, life, unique, by_⟩, rt, secret, on, close⟩ := r
  unfold Rq.bE Rq.body
  unfold Rq.arr at hW ⊢
  unfold Rq.cl at HX
  unfold Cm.arr at HC HM
  dsimp only at *
  subst hc hkind
  have c0 := HX.out.c 0 (by simp)
  have c1 := HX.out.c 1 (by simp)
  have c2 := HX.out.c 2 (by simp)
  have c3 := HX.out.c 3 (by simp)
  have c4 := HX.out.c 4 (by simp)
  have c5 := HX.out.c 5 (by simp)
  have c6 := HX.out.c 6 (by simp)
  have c7 := HX.out.c 7 (by simp)
  have c8 := HX.out.c 8 (by simp)
  have c9 := HX.out.c 9 (by simp)
  have c10 := HX.out.c 10 (by simp)
  have c11 := HX.out.c 11 (by simp)
  have c12 := HX.out.c 12 (by simp)
  have hlt := HX.out.lt
  simp only [List.getElem_cons_zero, List.getElem_cons_succ] at c0 c1 c2 c3 c4 c5 c6 c7 c8 c9 c10 c11 c12
  rw [if_pos rfl, if_pos rfl]
  have hon2 := hon (by decide)
  subst hon2
  obtain ⟨rfl, rfl⟩ := ht (by decide)
  obtain ⟨CC, hCC⟩ : ∃ CC, CC = Cm.mk kind tenant keys value flags life unique by_ := ⟨_, rfl⟩
  rw [← hCC] at HC HM hbl ⊢
  have htn : CC.tenant = tenant := by rw [hCC]
  have hE : CC.ckE = if CC.may = true then (if tenant = 0 then 0 else 8) else 100 := by unfold Cm.ckE; rw [htn]
  have hF : CC.chkE = if CC.may = true then 0 else 100 := rfl
  obtain ⟨E, hEE⟩ : ∃ E, E = CC.ckE := ⟨_, rfl⟩
  obtain ⟨F, hFF⟩ : ∃ F, F = CC.chkE := ⟨_, rfl⟩
  obtain ⟨BB, hBB⟩ : ∃ BB, BB = cmdB CC.cmd := ⟨_, rfl⟩
  rw [← hEE] at hE hbl ⊢
  rw [← hFF] at hF HC
  rw [← hBB] at HM hbl ⊢
  obtain ⟨M, hM⟩ : ∃ M, M = CC.may := ⟨_, rfl⟩
  rw [← hM] at hE hF HM
  clear hCC htn hEE hFF hBB hM hon ht hl hn
  cases M with
  | false =>
    rw [if_neg (by decide)] at hE hF
    subst hE hF
    rw [if_neg (by decide)]
    clear hbl HM
    go_enter Try.func7, Try.ntmps7
    go_upto_region 1 with (fail)
    rw [← hW]
    clear hW
    go_wp2_with (go_at_call 15; refine (HC.out W HK.out).mono ?_; rintro e w1 ⟨rfl, hb1⟩; have HX1 := Hid.mk2 (HX.out.below hb1); have HK1 := Hid.mk2 (HK.out.below hb1); have HB1 := Hid.mk2 (g_on HB.out hb1); have d0 := HX1.out.c 0 (by simp); have d1 := HX1.out.c 1 (by simp); have d2 := HX1.out.c 2 (by simp); have d3 := HX1.out.c 3 (by simp); have d4 := HX1.out.c 4 (by simp); have d5 := HX1.out.c 5 (by simp); have d6 := HX1.out.c 6 (by simp); have d7 := HX1.out.c 7 (by simp); have d8 := HX1.out.c 8 (by simp); have d9 := HX1.out.c 9 (by simp); have d10 := HX1.out.c 10 (by simp); have d11 := HX1.out.c 11 (by simp); have d12 := HX1.out.c 12 (by simp); simp only [List.getElem_cons_zero, List.getElem_cons_succ] at d0 d1 d2 d3 d4 d5 d6 d7 d8 d9 d10 d11 d12; have hltd := HX1.out.lt; clear hb1)
    go_ret2
    exact ⟨_, rfl, GOwn.nil _ _, HB1.out⟩
  | true =>
    rw [if_pos rfl] at hE hF
    subst hF
    by_cases ht0 : tenant = 0
    case neg =>
      rw [if_neg ht0] at hE
      subst hE
      rw [if_neg (by decide)]
      have htb : (tenant == 0) = false := by simpa using ht0
      clear hbl HM
      go_enter Try.func7, Try.ntmps7
      go_upto_region 1 with (fail)
      rw [← hW]
      clear hW
      go_wp2_with (go_at_call 15; refine (HC.out W HK.out).mono ?_; rintro e w1 ⟨rfl, hb1⟩; have HX1 := Hid.mk2 (HX.out.below hb1); have HK1 := Hid.mk2 (HK.out.below hb1); have HB1 := Hid.mk2 (g_on HB.out hb1); have d0 := HX1.out.c 0 (by simp); have d1 := HX1.out.c 1 (by simp); have d2 := HX1.out.c 2 (by simp); have d3 := HX1.out.c 3 (by simp); have d4 := HX1.out.c 4 (by simp); have d5 := HX1.out.c 5 (by simp); have d6 := HX1.out.c 6 (by simp); have d7 := HX1.out.c 7 (by simp); have d8 := HX1.out.c 8 (by simp); have d9 := HX1.out.c 9 (by simp); have d10 := HX1.out.c 10 (by simp); have d11 := HX1.out.c 11 (by simp); have d12 := HX1.out.c 12 (by simp); simp only [List.getElem_cons_zero, List.getElem_cons_succ] at d0 d1 d2 d3 d4 d5 d6 d7 d8 d9 d10 d11 d12; have hltd := HX1.out.lt; clear hb1)
      go_ret2
      exact ⟨_, rfl, GOwn.nil _ _, HB1.out⟩
    rw [if_pos ht0] at hE
    subst hE ht0
    rw [if_pos rfl]
    have HMM := Hid.mk2 (HM.out rfl)
    have HBL := Hid.mk2 (hbl rfl)
    clear HM hbl
    go_enter Try.func7, Try.ntmps7
    go_upto_region 1 with (fail)
    rw [← hW]
    clear hW
    go_wp2_with (first
      | (go_at_call 15; refine (HC.out W HK.out).mono ?_; rintro e w1 ⟨rfl, hb1⟩; have HX1 := Hid.mk2 (HX.out.below hb1); have HK1 := Hid.mk2 (HK.out.below hb1); have HB1 := Hid.mk2 (g_on HB.out hb1); have d0 := HX1.out.c 0 (by simp); have d1 := HX1.out.c 1 (by simp); have d2 := HX1.out.c 2 (by simp); have d3 := HX1.out.c 3 (by simp); have d4 := HX1.out.c 4 (by simp); have d5 := HX1.out.c 5 (by simp); have d6 := HX1.out.c 6 (by simp); have d7 := HX1.out.c 7 (by simp); have d8 := HX1.out.c 8 (by simp); have d9 := HX1.out.c 9 (by simp); have d10 := HX1.out.c 10 (by simp); have d11 := HX1.out.c 11 (by simp); have d12 := HX1.out.c 12 (by simp); simp only [List.getElem_cons_zero, List.getElem_cons_succ] at d0 d1 d2 d3 d4 d5 d6 d7 d8 d9 d10 d11 d12; have hltd := HX1.out.lt; clear hb1)
      | (go_at_call 16; refine (HMM.out w1 HK1.out).mono ?_; rintro e w3 ⟨v3, rfl, ho3, hb3⟩; obtain ⟨a3, p3, hv3, hr3⟩ := ho3.rd okY; obtain ⟨n3, hn3⟩ : ∃ n3, n3 = BB.length := ⟨_, rfl⟩; rw [← hn3] at hv3; subst hv3; have HR3 := Hid.mk2 hr3; have HN3 := Hid.mk2 hn3; have HX3 := Hid.mk2 (HX1.out.below hb3); have HB3 := Hid.mk2 (g_on HB1.out hb3); have g0 := HX3.out.c 0 (by simp); simp only [List.getElem_cons_zero] at g0; have hlt3 := HX3.out.lt; clear ho3 hb3 hr3 hn3)
      | (go_at_call 17; refine (rmadeI_any 1 (by decide) w3 a3 BB p3 HR3.out n3 HN3.out (by have := HBL.out; omega)).mono ?_; rintro e w9 ⟨v9, rfl, ho9, hb9⟩; have HO9 := Hid.mk2 (ho9.down HB3.out.size); have HB9 := Hid.mk2 (g_on HB3.out hb9); clear ho9 hb9))
    go_ret2
    exact ⟨_, rfl, HO9.out, HB9.out⟩
end Go.Proofs.Ytjmcgpdimhgegaa
