/-
  (shaken)
-/
import Derived.Test.YtldnkminhppngaaDoorTxC
import Derived.Test.YtldnkminhppngaaDoorOrPc
import Derived.Test.YtldnkminhppngaaDoorOrLc
namespace Go.Proofs.YtldnkminhppngaaDoor
open Go.Proofs.YtldnkminhppngaaDoor.It
open Go.RowKit
set_option linter.unusedSimpArgs false
set_option linter.unusedVariables false
set_option maxRecDepth 100000

set_option maxHeartbeats 2000000 in
theorem checkCommand_any (c : Cm) (ko : Option Addr) (kc : Nat) (w : World) (h : GRd ES w ko c.keys kc) (hk : ∀ k ∈ c.keys, k.size ≤ maxLen) :
    Calls Tryd.prog 48 #[.agg (c.arr (.slice ko c.keys.length kc))] w fun e w' => e = .returned (.int .i64 c.wrE) ∧ Below w.heap.size w w' := by
  have HC := Hid.mk2 (fun W (hW : Below w.heap.size w W) => pcheck_any c ko kc W (h.below hW))
  have eg : ∀ args w, (callFunc 78 args).run Tryd.prog w = .ok (.enter 78 args) w := enters_of Tryd.func78 (by kernel_rfl) rfl
  have HF := Hid.mk2 (fun W (hW : Below w.heap.size w W) => containsF_any 78 #[] (fun s => !seen s) c.keys ko kc W none eg (h.below hW) (fun V hV x hx => by
    have := isNotSeen_any x (hk x hx) V
    simpa using this))
  have hE : c.wrE = if c.chkE = 0 then (if c.tenant = 0 then (if (c.keys.any fun s => !seen s) = true then 8 else 0) else 8) else 100 := by
    unfold Cm.wrE Cm.chkE
    have ha : (c.keys.any fun s => !seen s) = !c.keys.all seen := by rw [List.not_all_eq_any_not]
    rw [ha]
    generalize c.may = M
    generalize c.keys.all seen = K
    by_cases h0 : c.tenant = 0
    · cases M <;> cases K <;> simp [h0]
    · cases M <;> cases K <;> simp [h0]
  have hc2 : c.chkE = 0 ∨ c.chkE = 100 := by unfold Cm.chkE; split <;> simp
  obtain ⟨E, hEe⟩ : ∃ E, E = c.wrE := ⟨_, rfl⟩
  obtain ⟨F, hF⟩ : ∃ F, F = c.chkE := ⟨_, rfl⟩
  obtain ⟨G, hG⟩ : ∃ G, G = (c.keys.any fun s => !seen s) := ⟨_, rfl⟩
  rw [← hEe, ← hF, ← hG] at hE
  rw [← hEe]
  rw [← hF] at HC hc2
  rw [← hG] at HF
  clear hEe hF hG h eg hk
  obtain ⟨W, hW⟩ : ∃ W, W = w.alloc (.cells (c.arr (.slice ko c.keys.length kc)) 26) := ⟨_, rfl⟩
  have HB : Hid (Below w.heap.size w W) := by rw [hW]; exact g_alloc _ _
  have HX : Hid (c.At (.slice ko c.keys.length kc) W w.heap.size) := by rw [hW]; exact Cm.At.made c _ w
  obtain ⟨kind, tenant, keys, value, flags, life, unique, by_⟩ := c
  have c0 := HX.out.c0
  have c1 := HX.out.c1
  have c2 := HX.out.c2
  have c3 := HX.out.c3
  have c4 := HX.out.c4
  have c5 := HX.out.c5
  have c6 := HX.out.c6
  have c7 := HX.out.c7
  have hlt := HX.out.lt
  unfold Cm.arr at *
  dsimp only at *
  go_enter Tryd.func48, Tryd.ntmps48
  go_upto_region 1 with (fail)
  rw [← hW]
  clear hW
  rcases hc2 with hc2 | hc2
  case inr =>
    subst hc2
    rw [if_neg (by decide)] at hE
    subst hE
    go_wp2_with (go_at_call 76; refine (HC.out _ HB.out).mono ?_; rintro e w1 ⟨rfl, hb1⟩)
    go_ret
    exact ⟨rfl, g_on HB.out hb1⟩
  subst hc2
  rw [if_pos rfl] at hE
  by_cases h0 : tenant = 0
  case neg =>
    rw [if_neg h0] at hE
    subst hE
    go_wp2_with (go_at_call 76; refine (HC.out _ HB.out).mono ?_; rintro e w1 ⟨rfl, hb1⟩; have HX1 := Hid.mk2 (HX.out.below hb1); have d1 := HX1.out.c1; have hlt1 := HX1.out.lt; have HB1 := Hid.mk2 (g_on HB.out hb1); clear hb1)
    go_ret
    exact ⟨rfl, HB1.out⟩
  rw [if_pos h0] at hE
  subst h0
  cases G
  · rw [if_neg (by decide)] at hE
    subst hE
    go_wp2_with (first
      | (go_at_call 76; refine (HC.out _ HB.out).mono ?_; rintro e w1 ⟨rfl, hb1⟩; have HX1 := Hid.mk2 (HX.out.below hb1); have d1 := HX1.out.c1; have d2 := HX1.out.c2; have hlt1 := HX1.out.lt; have HB1 := Hid.mk2 (g_on HB.out hb1); dsimp only at d1 d2; clear hb1)
      | (go_at_call 77; refine (HF.out _ HB1.out).mono ?_; rintro e w2 ⟨rfl, hb2⟩))
    go_ret
    exact ⟨rfl, g_on HB1.out hb2⟩
  · rw [if_pos rfl] at hE
    subst hE
    go_wp2_with (first
      | (go_at_call 76; refine (HC.out _ HB.out).mono ?_; rintro e w1 ⟨rfl, hb1⟩; have HX1 := Hid.mk2 (HX.out.below hb1); have d1 := HX1.out.c1; have d2 := HX1.out.c2; have hlt1 := HX1.out.lt; have HB1 := Hid.mk2 (g_on HB.out hb1); dsimp only at d1 d2; clear hb1)
      | (go_at_call 77; refine (HF.out _ HB1.out).mono ?_; rintro e w2 ⟨rfl, hb2⟩))
    go_ret
    exact ⟨rfl, g_on HB1.out hb2⟩

set_option maxHeartbeats 2000000 in
theorem tcheck14_any (r : Rq) (ko : Option Addr) (kc : Nat) (w : World) (h : GRd ES w ko r.cmd.keys kc) (hk : ∀ k ∈ r.cmd.keys, k.size ≤ maxLen) (hsec : r.secret.size ≤ maxLen) :
    Calls Tryd.prog 22 #[.agg (r.arr (.slice ko r.cmd.keys.length kc))] w fun e w' => e = .returned (.int .i64 r.wrE) ∧ Below w.heap.size w w' := by
  have HL := Hid.mk2 (fun W (hW : Below w.heap.size w W) => hasLine_any r ko kc W h.len hsec)
  have HC := Hid.mk2 (fun W (hW : Below w.heap.size w W) => checkCommand_any r.cmd ko kc W (h.below hW) hk)
  have hE : r.wrE = if r.hasLine = true then (if r.kind = 1 then r.cmd.wrE else 0) else 8 := rfl
  obtain ⟨E, hEe⟩ : ∃ E, E = r.wrE := ⟨_, rfl⟩
  obtain ⟨F, hF⟩ : ∃ F, F = r.hasLine := ⟨_, rfl⟩
  obtain ⟨G, hG⟩ : ∃ G, G = r.cmd.wrE := ⟨_, rfl⟩
  rw [← hEe, ← hF, ← hG] at hE
  rw [← hEe]
  rw [← hF] at HL
  rw [← hG] at HC
  clear hEe hF hG h hk hsec
  obtain ⟨W, hW⟩ : ∃ W, W = w.alloc (.cells (r.arr (.slice ko r.cmd.keys.length kc)) 28) := ⟨_, rfl⟩
  have HB : Hid (Below w.heap.size w W) := by rw [hW]; exact g_alloc _ _
  have HX : Hid (GBx W w.heap.size (r.cl (.slice ko r.cmd.keys.length kc))) := by rw [hW]; exact GBx.made w (r.cl _) _
  obtain ⟨rk, ⟨kind, tenant, keys, value, flags, life, unique, by_⟩, rt, secret, on, close⟩ := r
  unfold Rq.arr Cm.arr Rq.cl at *
  dsimp only at *
  have c0 := HX.out.c 0 (by simp)
  have c1 := HX.out.c 1 (by simp)
  have c2 := HX.out.c 2 (by simp)
  have c3 := HX.out.c 3 (by simp)
  have c4 := HX.out.c 4 (by simp)
  have c5 := HX.out.c 5 (by simp)
  have c6 := HX.out.c 6 (by simp)
  have c7 := HX.out.c 7 (by simp)
  have c8 := HX.out.c 8 (by simp)
  have c9 := HX.out.c 9 (by simp)
  have c10 := HX.out.c 10 (by simp)
  have c11 := HX.out.c 11 (by simp)
  have c12 := HX.out.c 12 (by simp)
  simp only [List.getElem_cons_zero, List.getElem_cons_succ] at c0 c1 c2 c3 c4 c5 c6 c7 c8 c9 c10 c11 c12
  have hlt := HX.out.lt
  go_enter Tryd.func22, Tryd.ntmps22
  go_upto_region 1 with (fail)
  rw [← hW]
  clear hW
  cases F
  case false =>
    rw [if_neg (by decide)] at hE
    subst hE
    go_wp2_with (go_at_call 47; refine (HL.out _ HB.out).mono ?_; rintro e w1 ⟨rfl, hb1⟩)
    go_ret
    exact ⟨rfl, g_on HB.out hb1⟩
  rw [if_pos rfl] at hE
  by_cases h1 : rk = 1
  case neg =>
    rw [if_neg h1] at hE
    subst hE
    go_wp2_with (go_at_call 47; refine (HL.out _ HB.out).mono ?_; rintro e w1 ⟨rfl, hb1⟩; have HX1 := Hid.mk2 (HX.out.below hb1); have d0 := HX1.out.c 0 (by simp); have hlt1 := HX1.out.lt; have HB1 := Hid.mk2 (g_on HB.out hb1); simp only [List.getElem_cons_zero, List.getElem_cons_succ] at d0; clear hb1)
    go_ret
    exact ⟨rfl, HB1.out⟩
  rw [if_pos h1] at hE
  subst h1 hE
  go_wp2_with (first
    | (go_at_call 47; refine (HL.out _ HB.out).mono ?_; rintro e w1 ⟨rfl, hb1⟩; have HX1 := Hid.mk2 (HX.out.below hb1); have d0 := HX1.out.c 0 (by simp); have d1 := HX1.out.c 1 (by simp); have d2 := HX1.out.c 2 (by simp); have d3 := HX1.out.c 3 (by simp); have d4 := HX1.out.c 4 (by simp); have d5 := HX1.out.c 5 (by simp); have d6 := HX1.out.c 6 (by simp); have d7 := HX1.out.c 7 (by simp); have d8 := HX1.out.c 8 (by simp); have d9 := HX1.out.c 9 (by simp); have d10 := HX1.out.c 10 (by simp); have d11 := HX1.out.c 11 (by simp); have d12 := HX1.out.c 12 (by simp); simp only [List.getElem_cons_zero, List.getElem_cons_succ] at d0 d1 d2 d3 d4 d5 d6 d7 d8 d9 d10 d11 d12; have hlt1 := HX1.out.lt; have HB1 := Hid.mk2 (g_on HB.out hb1); clear hb1)
    | (go_at_call 48; refine (HC.out _ HB1.out).mono ?_; rintro e w2 ⟨rfl, hb2⟩))
  go_ret
  exact ⟨rfl, g_on HB1.out hb2⟩
end Go.Proofs.YtldnkminhppngaaDoor
