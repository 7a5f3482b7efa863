/-
  The document's Write of requests as packets.
-/
import Derived.Test.YtjmcgpdimhgegaaBnY
import Derived.Test.YtjmcgpdimhgegaaBnN
import Derived.Test.YtjmcgpdimhgegaaBnS
import Derived.Test.YtjmcgpdimhgegaaOrRefS
import Derived.Test.YtjmcgpdimhgegaaRCmd2
namespace Go.Proofs.Ytjmcgpdimhgegaa
open Go.Proofs.Ytjmcgpdimhgegaa.It
open Go.RowKit
set_option linter.unusedSimpArgs false
set_option linter.unusedVariables false
set_option maxRecDepth 100000

set_option maxHeartbeats 4000000 in
theorem rwriteBad_any (r : Rq) (ko : Option Addr) (kc : Nat) (w : World) (h : GRd ES w ko r.cmd.keys kc) (hrow : r.hasRow = false) :
    Calls Try.prog 7 #[.agg (r.arr (.slice ko r.cmd.keys.length kc))] w fun e w' => ∃ v, e = .returned (.tuple #[v, .int .i64 8]) ∧ GOwn EY w' w.heap.size v [] ∧ Below w.heap.size w w' := by
  obtain ⟨W, hW⟩ : ∃ W, W = w.alloc (.cells (r.arr (.slice ko r.cmd.keys.length kc)) 28) := ⟨_, rfl⟩
  have hB0 : Below w.heap.size w W := by rw [hW]; exact g_alloc _ _
  have HB : Hid (Below w.heap.size w W) := hB0
  have HX : Hid (GBx W w.heap.size (r.cl (.slice ko r.cmd.keys.length kc))) := by rw [hW]; exact GBx.made w (r.cl _) _
  have HK := Hid.mk2 (h.below hB0)
  have HN := Hid.mk2 (fun W => samez_any r.cmd ko kc W h.len)
  have hcases : ¬ (1 ≤ r.kind ∧ r.kind ≤ 5) ∨ ((1 ≤ r.kind ∧ r.kind ≤ 5) ∧ (r.close = true ∨ (r.close = false ∧ ((r.on = true ∧ r.kind ≠ 3) ∨ ((r.on = false ∨ r.kind = 3) ∧ ((r.kind ≠ 1 ∧ r.cmd.isNone = false) ∨ ((r.kind = 1 ∨ r.cmd.isNone = true) ∧ ((r.kind ≠ 2 ∧ (r.tenant ≠ 0 ∨ (r.tenant = 0 ∧ r.secret.toList.isEmpty = false))) ∨ (r.kind = 2 ∧ logOk r.tenant r.secret.size = false))))))))) := by
    unfold Rq.hasRow at hrow
    by_cases a1 : 1 ≤ r.kind ∧ r.kind ≤ 5
    case neg => exact .inl a1
    refine .inr ⟨a1, ?_⟩
    rw [decide_eq_true a1] at hrow
    cases hcl : r.close with
    | true => exact .inl rfl
    | false =>
      refine .inr ⟨rfl, ?_⟩
      rw [hcl] at hrow
      by_cases a3 : r.kind = 3
      · rw [a3] at hrow ⊢
        refine .inr ⟨.inr rfl, ?_⟩
        cases hn : r.cmd.isNone with
        | false => exact .inl ⟨by decide, rfl⟩
        | true =>
          refine .inr ⟨.inr rfl, .inl ⟨by decide, ?_⟩⟩
          rw [hn] at hrow
          by_cases ht : r.tenant = 0
          · exact .inr ⟨ht, by simpa [ht] using hrow⟩
          · exact .inl ht
      · cases hon : r.on with
        | true => exact .inl ⟨rfl, a3⟩
        | false =>
          refine .inr ⟨.inl rfl, ?_⟩
          rw [hon] at hrow
          by_cases a1' : r.kind = 1
          · rw [a1'] at hrow ⊢
            refine .inr ⟨.inl rfl, .inl ⟨by decide, ?_⟩⟩
            by_cases ht : r.tenant = 0
            · exact .inr ⟨ht, by simpa [ht] using hrow⟩
            · exact .inl ht
          · cases hn : r.cmd.isNone with
            | false => exact .inl ⟨a1', rfl⟩
            | true =>
              refine .inr ⟨.inr rfl, ?_⟩
              rw [hn] at hrow
              by_cases a2 : r.kind = 2
              · rw [a2] at hrow
                exact .inr ⟨a2, by simpa using hrow⟩
              · refine .inl ⟨a2, ?_⟩
                by_cases ht : r.tenant = 0
                · exact .inr ⟨ht, by simpa [ht, a2] using hrow⟩
                · exact .inl ht
  obtain ⟨NN, hNN⟩ : ∃ NN, NN = r.cmd.isNone := ⟨_, rfl⟩
  rw [← hNN] at HN hcases
  have hlog : logOk r.tenant r.secret.size = false → r.tenant < 0 ∨ (0 ≤ r.tenant ∧ 4 ≤ r.tenant) ∨ ((0 ≤ r.tenant ∧ r.tenant < 4) ∧ (r.secret.size : Int) < 1) ∨ ((0 ≤ r.tenant ∧ r.tenant < 4) ∧ 1 ≤ (r.secret.size : Int) ∧ 16 < (r.secret.size : Int)) := by
    intro e
    have h2 : ¬ (0 ≤ r.tenant ∧ r.tenant < 4 ∧ 1 ≤ r.secret.size ∧ r.secret.size ≤ 16) := by rw [← logOk_iff, e]; decide
    omega
  clear h hB0 hrow hNN
  obtain ⟨rk, ⟨kind, tenant, keys, value, flags, life, unique, by_⟩, rt, secret, on, close⟩ := r
  unfold Rq.arr at *
  unfold Rq.cl at HX
  unfold Cm.arr at HN
  unfold cz at HN
  dsimp only at *
  have c0 := HX.out.c 0 (by simp)
  have c1 := HX.out.c 1 (by simp)
  have c2 := HX.out.c 2 (by simp)
  have c3 := HX.out.c 3 (by simp)
  have c4 := HX.out.c 4 (by simp)
  have c5 := HX.out.c 5 (by simp)
  have c6 := HX.out.c 6 (by simp)
  have c7 := HX.out.c 7 (by simp)
  have c8 := HX.out.c 8 (by simp)
  have c9 := HX.out.c 9 (by simp)
  have c10 := HX.out.c 10 (by simp)
  have c11 := HX.out.c 11 (by simp)
  have c12 := HX.out.c 12 (by simp)
  have hlt := HX.out.lt
  simp only [List.getElem_cons_zero, List.getElem_cons_succ] at c0 c1 c2 c3 c4 c5 c6 c7 c8 c9 c10 c11 c12
  rcases hcases with hk | ⟨⟨k1, k2⟩, hcases⟩
  · have hk2 : rk < 1 ∨ (¬ rk < 1 ∧ 5 < rk) := by omega
    clear hk hlog
    rcases hk2 with hk2 | ⟨hk2, hk3⟩
    · go_enter Try.func7, Try.ntmps7
      go_upto_region 1 with (fail)
      rw [← hW]
      clear hW
      go_wp2
      all_goals (go_ret2; exact ⟨_, rfl, GOwn.nil _ _, HB.out⟩)
    · go_enter Try.func7, Try.ntmps7
      go_upto_region 1 with (fail)
      rw [← hW]
      clear hW
      go_wp2
      all_goals (go_ret2; exact ⟨_, rfl, GOwn.nil _ _, HB.out⟩)
  have k1n : ¬ rk < 1 := by omega
  have k2n : ¬ 5 < rk := by omega
  rcases hcases with rfl | ⟨rfl, hcases⟩
  · clear hlog k1 k2
    go_enter Try.func7, Try.ntmps7
    go_upto_region 1 with (fail)
    rw [← hW]
    clear hW
    go_wp2
    all_goals (go_ret2; exact ⟨_, rfl, GOwn.nil _ _, HB.out⟩)
  rcases hcases with ⟨rfl, hk3⟩ | ⟨hon, hcases⟩
  · have k3b : (rk == 3) = false := by simpa using hk3
    clear hlog k1 k2
    go_enter Try.func7, Try.ntmps7
    go_upto_region 1 with (fail)
    rw [← hW]
    clear hW
    go_wp2
    all_goals (go_ret2; exact ⟨_, rfl, GOwn.nil _ _, HB.out⟩)
  rcases hcases with ⟨hk1, rfl⟩ | ⟨hn, hcases⟩
  · have k1b : (rk == 1) = false := by simpa using hk1
    clear hlog k1 k2
    rcases hon with rfl | rfl
    · go_enter Try.func7, Try.ntmps7
      go_upto_region 1 with (fail)
      rw [← hW]
      clear hW
      go_wp2_with ((go_at_call 14; refine (HN.out _).mono ?_; rintro e w2 ⟨rfl, hb2⟩; have HX2 := Hid.mk2 (HX.out.below hb2); have HK2 := Hid.mk2 (HK.out.below hb2); have HB2 := Hid.mk2 (g_on HB.out hb2); have d0 := HX2.out.c 0 (by simp); have d1 := HX2.out.c 1 (by simp); have d2 := HX2.out.c 2 (by simp); have d3 := HX2.out.c 3 (by simp); have d4 := HX2.out.c 4 (by simp); have d5 := HX2.out.c 5 (by simp); have d6 := HX2.out.c 6 (by simp); have d7 := HX2.out.c 7 (by simp); have d8 := HX2.out.c 8 (by simp); have d9 := HX2.out.c 9 (by simp); have d10 := HX2.out.c 10 (by simp); have d11 := HX2.out.c 11 (by simp); have d12 := HX2.out.c 12 (by simp); simp only [List.getElem_cons_zero, List.getElem_cons_succ] at d0 d1 d2 d3 d4 d5 d6 d7 d8 d9 d10 d11 d12; have hltd := HX2.out.lt; clear hb2))
      all_goals (go_ret2; exact ⟨_, rfl, GOwn.nil _ _, HB2.out⟩)
    · cases on
      · go_enter Try.func7, Try.ntmps7
        go_upto_region 1 with (fail)
        rw [← hW]
        clear hW
        go_wp2_with ((go_at_call 14; refine (HN.out _).mono ?_; rintro e w2 ⟨rfl, hb2⟩; have HX2 := Hid.mk2 (HX.out.below hb2); have HK2 := Hid.mk2 (HK.out.below hb2); have HB2 := Hid.mk2 (g_on HB.out hb2); have d0 := HX2.out.c 0 (by simp); have d1 := HX2.out.c 1 (by simp); have d2 := HX2.out.c 2 (by simp); have d3 := HX2.out.c 3 (by simp); have d4 := HX2.out.c 4 (by simp); have d5 := HX2.out.c 5 (by simp); have d6 := HX2.out.c 6 (by simp); have d7 := HX2.out.c 7 (by simp); have d8 := HX2.out.c 8 (by simp); have d9 := HX2.out.c 9 (by simp); have d10 := HX2.out.c 10 (by simp); have d11 := HX2.out.c 11 (by simp); have d12 := HX2.out.c 12 (by simp); simp only [List.getElem_cons_zero, List.getElem_cons_succ] at d0 d1 d2 d3 d4 d5 d6 d7 d8 d9 d10 d11 d12; have hltd := HX2.out.lt; clear hb2))
        all_goals (go_ret2; exact ⟨_, rfl, GOwn.nil _ _, HB2.out⟩)
      · go_enter Try.func7, Try.ntmps7
        go_upto_region 1 with (fail)
        rw [← hW]
        clear hW
        go_wp2_with ((go_at_call 14; refine (HN.out _).mono ?_; rintro e w2 ⟨rfl, hb2⟩; have HX2 := Hid.mk2 (HX.out.below hb2); have HK2 := Hid.mk2 (HK.out.below hb2); have HB2 := Hid.mk2 (g_on HB.out hb2); have d0 := HX2.out.c 0 (by simp); have d1 := HX2.out.c 1 (by simp); have d2 := HX2.out.c 2 (by simp); have d3 := HX2.out.c 3 (by simp); have d4 := HX2.out.c 4 (by simp); have d5 := HX2.out.c 5 (by simp); have d6 := HX2.out.c 6 (by simp); have d7 := HX2.out.c 7 (by simp); have d8 := HX2.out.c 8 (by simp); have d9 := HX2.out.c 9 (by simp); have d10 := HX2.out.c 10 (by simp); have d11 := HX2.out.c 11 (by simp); have d12 := HX2.out.c 12 (by simp); simp only [List.getElem_cons_zero, List.getElem_cons_succ] at d0 d1 d2 d3 d4 d5 d6 d7 d8 d9 d10 d11 d12; have hltd := HX2.out.lt; clear hb2))
        all_goals (go_ret2; exact ⟨_, rfl, GOwn.nil _ _, HB2.out⟩)
  rcases hcases with ⟨hk2, hts⟩ | ⟨rfl, hlo⟩
  · clear hlog
    have hk4 : rk = 1 ∨ rk = 3 ∨ rk = 4 ∨ rk = 5 := by omega
    clear k1 k2 k1n k2n hk2
    rcases hk4 with rfl | rfl | rfl | rfl
    · have hon2 : on = false := by rcases hon with h | h; exact h; cases h
      subst hon2
      clear hon hn
      rcases hts with ht | ⟨rfl, hse⟩
      · have htb : (rt == 0) = false := by simpa using ht
        go_enter Try.func7, Try.ntmps7
        go_upto_region 1 with (fail)
        rw [← hW]
        clear hW
        go_wp2
        all_goals (go_ret2; exact ⟨_, rfl, GOwn.nil _ _, HB.out⟩)
      · go_enter Try.func7, Try.ntmps7
        go_upto_region 1 with (fail)
        rw [← hW]
        clear hW
        go_wp2
        all_goals (go_ret2; exact ⟨_, rfl, GOwn.nil _ _, HB.out⟩)
    · have hn2 : NN = true := by rcases hn with h | h; cases h; exact h
      subst hn2
      clear hon hn
      cases on
      · rcases hts with ht | ⟨rfl, hse⟩
        · have htb : (rt == 0) = false := by simpa using ht
          go_enter Try.func7, Try.ntmps7
          go_upto_region 1 with (fail)
          rw [← hW]
          clear hW
          go_wp2_with ((go_at_call 14; refine (HN.out _).mono ?_; rintro e w2 ⟨rfl, hb2⟩; have HX2 := Hid.mk2 (HX.out.below hb2); have HK2 := Hid.mk2 (HK.out.below hb2); have HB2 := Hid.mk2 (g_on HB.out hb2); have d0 := HX2.out.c 0 (by simp); have d1 := HX2.out.c 1 (by simp); have d2 := HX2.out.c 2 (by simp); have d3 := HX2.out.c 3 (by simp); have d4 := HX2.out.c 4 (by simp); have d5 := HX2.out.c 5 (by simp); have d6 := HX2.out.c 6 (by simp); have d7 := HX2.out.c 7 (by simp); have d8 := HX2.out.c 8 (by simp); have d9 := HX2.out.c 9 (by simp); have d10 := HX2.out.c 10 (by simp); have d11 := HX2.out.c 11 (by simp); have d12 := HX2.out.c 12 (by simp); simp only [List.getElem_cons_zero, List.getElem_cons_succ] at d0 d1 d2 d3 d4 d5 d6 d7 d8 d9 d10 d11 d12; have hltd := HX2.out.lt; clear hb2))
          all_goals (go_ret2; exact ⟨_, rfl, GOwn.nil _ _, HB2.out⟩)
        · go_enter Try.func7, Try.ntmps7
          go_upto_region 1 with (fail)
          rw [← hW]
          clear hW
          go_wp2_with ((go_at_call 14; refine (HN.out _).mono ?_; rintro e w2 ⟨rfl, hb2⟩; have HX2 := Hid.mk2 (HX.out.below hb2); have HK2 := Hid.mk2 (HK.out.below hb2); have HB2 := Hid.mk2 (g_on HB.out hb2); have d0 := HX2.out.c 0 (by simp); have d1 := HX2.out.c 1 (by simp); have d2 := HX2.out.c 2 (by simp); have d3 := HX2.out.c 3 (by simp); have d4 := HX2.out.c 4 (by simp); have d5 := HX2.out.c 5 (by simp); have d6 := HX2.out.c 6 (by simp); have d7 := HX2.out.c 7 (by simp); have d8 := HX2.out.c 8 (by simp); have d9 := HX2.out.c 9 (by simp); have d10 := HX2.out.c 10 (by simp); have d11 := HX2.out.c 11 (by simp); have d12 := HX2.out.c 12 (by simp); simp only [List.getElem_cons_zero, List.getElem_cons_succ] at d0 d1 d2 d3 d4 d5 d6 d7 d8 d9 d10 d11 d12; have hltd := HX2.out.lt; clear hb2))
          all_goals (go_ret2; exact ⟨_, rfl, GOwn.nil _ _, HB2.out⟩)
      · rcases hts with ht | ⟨rfl, hse⟩
        · have htb : (rt == 0) = false := by simpa using ht
          go_enter Try.func7, Try.ntmps7
          go_upto_region 1 with (fail)
          rw [← hW]
          clear hW
          go_wp2_with ((go_at_call 14; refine (HN.out _).mono ?_; rintro e w2 ⟨rfl, hb2⟩; have HX2 := Hid.mk2 (HX.out.below hb2); have HK2 := Hid.mk2 (HK.out.below hb2); have HB2 := Hid.mk2 (g_on HB.out hb2); have d0 := HX2.out.c 0 (by simp); have d1 := HX2.out.c 1 (by simp); have d2 := HX2.out.c 2 (by simp); have d3 := HX2.out.c 3 (by simp); have d4 := HX2.out.c 4 (by simp); have d5 := HX2.out.c 5 (by simp); have d6 := HX2.out.c 6 (by simp); have d7 := HX2.out.c 7 (by simp); have d8 := HX2.out.c 8 (by simp); have d9 := HX2.out.c 9 (by simp); have d10 := HX2.out.c 10 (by simp); have d11 := HX2.out.c 11 (by simp); have d12 := HX2.out.c 12 (by simp); simp only [List.getElem_cons_zero, List.getElem_cons_succ] at d0 d1 d2 d3 d4 d5 d6 d7 d8 d9 d10 d11 d12; have hltd := HX2.out.lt; clear hb2))
          all_goals (go_ret2; exact ⟨_, rfl, GOwn.nil _ _, HB2.out⟩)
        · go_enter Try.func7, Try.ntmps7
          go_upto_region 1 with (fail)
          rw [← hW]
          clear hW
          go_wp2_with ((go_at_call 14; refine (HN.out _).mono ?_; rintro e w2 ⟨rfl, hb2⟩; have HX2 := Hid.mk2 (HX.out.below hb2); have HK2 := Hid.mk2 (HK.out.below hb2); have HB2 := Hid.mk2 (g_on HB.out hb2); have d0 := HX2.out.c 0 (by simp); have d1 := HX2.out.c 1 (by simp); have d2 := HX2.out.c 2 (by simp); have d3 := HX2.out.c 3 (by simp); have d4 := HX2.out.c 4 (by simp); have d5 := HX2.out.c 5 (by simp); have d6 := HX2.out.c 6 (by simp); have d7 := HX2.out.c 7 (by simp); have d8 := HX2.out.c 8 (by simp); have d9 := HX2.out.c 9 (by simp); have d10 := HX2.out.c 10 (by simp); have d11 := HX2.out.c 11 (by simp); have d12 := HX2.out.c 12 (by simp); simp only [List.getElem_cons_zero, List.getElem_cons_succ] at d0 d1 d2 d3 d4 d5 d6 d7 d8 d9 d10 d11 d12; have hltd := HX2.out.lt; clear hb2))
          all_goals (go_ret2; exact ⟨_, rfl, GOwn.nil _ _, HB2.out⟩)
    · have hn2 : NN = true := by rcases hn with h | h; cases h; exact h
      subst hn2
      have hon2 : on = false := by rcases hon with h | h; exact h; cases h
      subst hon2
      clear hon hn
      rcases hts with ht | ⟨rfl, hse⟩
      · have htb : (rt == 0) = false := by simpa using ht
        go_enter Try.func7, Try.ntmps7
        go_upto_region 1 with (fail)
        rw [← hW]
        clear hW
        go_wp2_with ((go_at_call 14; refine (HN.out _).mono ?_; rintro e w2 ⟨rfl, hb2⟩; have HX2 := Hid.mk2 (HX.out.below hb2); have HK2 := Hid.mk2 (HK.out.below hb2); have HB2 := Hid.mk2 (g_on HB.out hb2); have d0 := HX2.out.c 0 (by simp); have d1 := HX2.out.c 1 (by simp); have d2 := HX2.out.c 2 (by simp); have d3 := HX2.out.c 3 (by simp); have d4 := HX2.out.c 4 (by simp); have d5 := HX2.out.c 5 (by simp); have d6 := HX2.out.c 6 (by simp); have d7 := HX2.out.c 7 (by simp); have d8 := HX2.out.c 8 (by simp); have d9 := HX2.out.c 9 (by simp); have d10 := HX2.out.c 10 (by simp); have d11 := HX2.out.c 11 (by simp); have d12 := HX2.out.c 12 (by simp); simp only [List.getElem_cons_zero, List.getElem_cons_succ] at d0 d1 d2 d3 d4 d5 d6 d7 d8 d9 d10 d11 d12; have hltd := HX2.out.lt; clear hb2))
        all_goals (go_ret2; exact ⟨_, rfl, GOwn.nil _ _, HB2.out⟩)
      · go_enter Try.func7, Try.ntmps7
        go_upto_region 1 with (fail)
        rw [← hW]
        clear hW
        go_wp2_with ((go_at_call 14; refine (HN.out _).mono ?_; rintro e w2 ⟨rfl, hb2⟩; have HX2 := Hid.mk2 (HX.out.below hb2); have HK2 := Hid.mk2 (HK.out.below hb2); have HB2 := Hid.mk2 (g_on HB.out hb2); have d0 := HX2.out.c 0 (by simp); have d1 := HX2.out.c 1 (by simp); have d2 := HX2.out.c 2 (by simp); have d3 := HX2.out.c 3 (by simp); have d4 := HX2.out.c 4 (by simp); have d5 := HX2.out.c 5 (by simp); have d6 := HX2.out.c 6 (by simp); have d7 := HX2.out.c 7 (by simp); have d8 := HX2.out.c 8 (by simp); have d9 := HX2.out.c 9 (by simp); have d10 := HX2.out.c 10 (by simp); have d11 := HX2.out.c 11 (by simp); have d12 := HX2.out.c 12 (by simp); simp only [List.getElem_cons_zero, List.getElem_cons_succ] at d0 d1 d2 d3 d4 d5 d6 d7 d8 d9 d10 d11 d12; have hltd := HX2.out.lt; clear hb2))
        all_goals (go_ret2; exact ⟨_, rfl, GOwn.nil _ _, HB2.out⟩)
    · have hn2 : NN = true := by rcases hn with h | h; cases h; exact h
      subst hn2
      have hon2 : on = false := by rcases hon with h | h; exact h; cases h
      subst hon2
      clear hon hn
      rcases hts with ht | ⟨rfl, hse⟩
      · have htb : (rt == 0) = false := by simpa using ht
        go_enter Try.func7, Try.ntmps7
        go_upto_region 1 with (fail)
        rw [← hW]
        clear hW
        go_wp2_with ((go_at_call 14; refine (HN.out _).mono ?_; rintro e w2 ⟨rfl, hb2⟩; have HX2 := Hid.mk2 (HX.out.below hb2); have HK2 := Hid.mk2 (HK.out.below hb2); have HB2 := Hid.mk2 (g_on HB.out hb2); have d0 := HX2.out.c 0 (by simp); have d1 := HX2.out.c 1 (by simp); have d2 := HX2.out.c 2 (by simp); have d3 := HX2.out.c 3 (by simp); have d4 := HX2.out.c 4 (by simp); have d5 := HX2.out.c 5 (by simp); have d6 := HX2.out.c 6 (by simp); have d7 := HX2.out.c 7 (by simp); have d8 := HX2.out.c 8 (by simp); have d9 := HX2.out.c 9 (by simp); have d10 := HX2.out.c 10 (by simp); have d11 := HX2.out.c 11 (by simp); have d12 := HX2.out.c 12 (by simp); simp only [List.getElem_cons_zero, List.getElem_cons_succ] at d0 d1 d2 d3 d4 d5 d6 d7 d8 d9 d10 d11 d12; have hltd := HX2.out.lt; clear hb2))
        all_goals (go_ret2; exact ⟨_, rfl, GOwn.nil _ _, HB2.out⟩)
      · go_enter Try.func7, Try.ntmps7
        go_upto_region 1 with (fail)
        rw [← hW]
        clear hW
        go_wp2_with ((go_at_call 14; refine (HN.out _).mono ?_; rintro e w2 ⟨rfl, hb2⟩; have HX2 := Hid.mk2 (HX.out.below hb2); have HK2 := Hid.mk2 (HK.out.below hb2); have HB2 := Hid.mk2 (g_on HB.out hb2); have d0 := HX2.out.c 0 (by simp); have d1 := HX2.out.c 1 (by simp); have d2 := HX2.out.c 2 (by simp); have d3 := HX2.out.c 3 (by simp); have d4 := HX2.out.c 4 (by simp); have d5 := HX2.out.c 5 (by simp); have d6 := HX2.out.c 6 (by simp); have d7 := HX2.out.c 7 (by simp); have d8 := HX2.out.c 8 (by simp); have d9 := HX2.out.c 9 (by simp); have d10 := HX2.out.c 10 (by simp); have d11 := HX2.out.c 11 (by simp); have d12 := HX2.out.c 12 (by simp); simp only [List.getElem_cons_zero, List.getElem_cons_succ] at d0 d1 d2 d3 d4 d5 d6 d7 d8 d9 d10 d11 d12; have hltd := HX2.out.lt; clear hb2))
        all_goals (go_ret2; exact ⟨_, rfl, GOwn.nil _ _, HB2.out⟩)
  have hn2 : NN = true := by rcases hn with h | h; cases h; exact h
  subst hn2
  have hon2 : on = false := by rcases hon with h | h; exact h; cases h
  subst hon2
  clear hon hn k1 k2 k1n k2n
  rcases hlog hlo with g | ⟨g1, g2⟩ | ⟨⟨g1, g2⟩, g3⟩ | ⟨⟨g1, g2⟩, g3, g4⟩
  · clear hlog hlo
    go_enter Try.func7, Try.ntmps7
    go_upto_region 1 with (fail)
    rw [← hW]
    clear hW
    go_wp2_with ((go_at_call 14; refine (HN.out _).mono ?_; rintro e w2 ⟨rfl, hb2⟩; have HX2 := Hid.mk2 (HX.out.below hb2); have HK2 := Hid.mk2 (HK.out.below hb2); have HB2 := Hid.mk2 (g_on HB.out hb2); have d0 := HX2.out.c 0 (by simp); have d1 := HX2.out.c 1 (by simp); have d2 := HX2.out.c 2 (by simp); have d3 := HX2.out.c 3 (by simp); have d4 := HX2.out.c 4 (by simp); have d5 := HX2.out.c 5 (by simp); have d6 := HX2.out.c 6 (by simp); have d7 := HX2.out.c 7 (by simp); have d8 := HX2.out.c 8 (by simp); have d9 := HX2.out.c 9 (by simp); have d10 := HX2.out.c 10 (by simp); have d11 := HX2.out.c 11 (by simp); have d12 := HX2.out.c 12 (by simp); simp only [List.getElem_cons_zero, List.getElem_cons_succ] at d0 d1 d2 d3 d4 d5 d6 d7 d8 d9 d10 d11 d12; have hltd := HX2.out.lt; clear hb2))
    all_goals (go_ret2; exact ⟨_, rfl, GOwn.nil _ _, HB2.out⟩)
  · have gn : ¬ rt < 0 := by omega
    clear hlog hlo
    go_enter Try.func7, Try.ntmps7
    go_upto_region 1 with (fail)
    rw [← hW]
    clear hW
    go_wp2_with ((go_at_call 14; refine (HN.out _).mono ?_; rintro e w2 ⟨rfl, hb2⟩; have HX2 := Hid.mk2 (HX.out.below hb2); have HK2 := Hid.mk2 (HK.out.below hb2); have HB2 := Hid.mk2 (g_on HB.out hb2); have d0 := HX2.out.c 0 (by simp); have d1 := HX2.out.c 1 (by simp); have d2 := HX2.out.c 2 (by simp); have d3 := HX2.out.c 3 (by simp); have d4 := HX2.out.c 4 (by simp); have d5 := HX2.out.c 5 (by simp); have d6 := HX2.out.c 6 (by simp); have d7 := HX2.out.c 7 (by simp); have d8 := HX2.out.c 8 (by simp); have d9 := HX2.out.c 9 (by simp); have d10 := HX2.out.c 10 (by simp); have d11 := HX2.out.c 11 (by simp); have d12 := HX2.out.c 12 (by simp); simp only [List.getElem_cons_zero, List.getElem_cons_succ] at d0 d1 d2 d3 d4 d5 d6 d7 d8 d9 d10 d11 d12; have hltd := HX2.out.lt; clear hb2))
    all_goals (go_ret2; exact ⟨_, rfl, GOwn.nil _ _, HB2.out⟩)
  · have gn : ¬ rt < 0 := by omega
    have gm : ¬ 4 ≤ rt := by omega
    clear hlog hlo
    go_enter Try.func7, Try.ntmps7
    go_upto_region 1 with (fail)
    rw [← hW]
    clear hW
    go_wp2_with ((go_at_call 14; refine (HN.out _).mono ?_; rintro e w2 ⟨rfl, hb2⟩; have HX2 := Hid.mk2 (HX.out.below hb2); have HK2 := Hid.mk2 (HK.out.below hb2); have HB2 := Hid.mk2 (g_on HB.out hb2); have d0 := HX2.out.c 0 (by simp); have d1 := HX2.out.c 1 (by simp); have d2 := HX2.out.c 2 (by simp); have d3 := HX2.out.c 3 (by simp); have d4 := HX2.out.c 4 (by simp); have d5 := HX2.out.c 5 (by simp); have d6 := HX2.out.c 6 (by simp); have d7 := HX2.out.c 7 (by simp); have d8 := HX2.out.c 8 (by simp); have d9 := HX2.out.c 9 (by simp); have d10 := HX2.out.c 10 (by simp); have d11 := HX2.out.c 11 (by simp); have d12 := HX2.out.c 12 (by simp); simp only [List.getElem_cons_zero, List.getElem_cons_succ] at d0 d1 d2 d3 d4 d5 d6 d7 d8 d9 d10 d11 d12; have hltd := HX2.out.lt; clear hb2))
    all_goals (go_ret2; exact ⟨_, rfl, GOwn.nil _ _, HB2.out⟩)
  · have gn : ¬ rt < 0 := by omega
    have gm : ¬ 4 ≤ rt := by omega
    have gk : ¬ (secret.size : Int) < 1 := by omega
    clear hlog hlo
    go_enter Try.func7, Try.ntmps7
    go_upto_region 1 with (fail)
    rw [← hW]
    clear hW
    go_wp2_with ((go_at_call 14; refine (HN.out _).mono ?_; rintro e w2 ⟨rfl, hb2⟩; have HX2 := Hid.mk2 (HX.out.below hb2); have HK2 := Hid.mk2 (HK.out.below hb2); have HB2 := Hid.mk2 (g_on HB.out hb2); have d0 := HX2.out.c 0 (by simp); have d1 := HX2.out.c 1 (by simp); have d2 := HX2.out.c 2 (by simp); have d3 := HX2.out.c 3 (by simp); have d4 := HX2.out.c 4 (by simp); have d5 := HX2.out.c 5 (by simp); have d6 := HX2.out.c 6 (by simp); have d7 := HX2.out.c 7 (by simp); have d8 := HX2.out.c 8 (by simp); have d9 := HX2.out.c 9 (by simp); have d10 := HX2.out.c 10 (by simp); have d11 := HX2.out.c 11 (by simp); have d12 := HX2.out.c 12 (by simp); simp only [List.getElem_cons_zero, List.getElem_cons_succ] at d0 d1 d2 d3 d4 d5 d6 d7 d8 d9 d10 d11 d12; have hltd := HX2.out.lt; clear hb2))
    all_goals (go_ret2; exact ⟨_, rfl, GOwn.nil _ _, HB2.out⟩)
end Go.Proofs.Ytjmcgpdimhgegaa
