/-
  (shaken)
-/
import Derived.Test.YtldnkminhppngaaDoorTxB
namespace Go.Proofs.YtldnkminhppngaaDoor
open Go.Proofs.YtldnkminhppngaaDoor.It
open Go.RowKit
set_option linter.unusedSimpArgs false
set_option linter.unusedVariables false
set_option maxRecDepth 100000

theorem GBx.set8 {w : World} {b : Nat} {k a1 a2 a3 a4 a5 a6 a7 a8 t s o q : Value} (h : GBx w b [k, a1, a2, a3, a4, a5, a6, a7, a8, t, s, o, q]) (v1 v2 v3 v4 v5 v6 v7 v8 : Value) :
    GBx ((((((((w.setCell ⟨b, 1, none⟩ v1).setCell ⟨b, 2, none⟩ v2).setCell ⟨b, 3, none⟩ v3).setCell ⟨b, 4, none⟩ v4).setCell ⟨b, 5, none⟩ v5).setCell ⟨b, 6, none⟩ v6).setCell ⟨b, 7, none⟩ v7).setCell ⟨b, 8, none⟩ v8) b [k, v1, v2, v3, v4, v5, v6, v7, v8, t, s, o, q] :=
  (((((((h.set 1 v1 (by simp)).set 2 v2 (by simp)).set 3 v3 (by simp)).set 4 v4 (by simp)).set 5 v5 (by simp)).set 6 v6 (by simp)).set 7 v7 (by simp)).set 8 v8 (by simp)
theorem below8 {n b : Nat} {w W : World} (h : Below n w W) (hb : n ≤ b) (v1 v2 v3 v4 v5 v6 v7 v8 : Value) :
    Below n w ((((((((W.setCell ⟨b, 1, none⟩ v1).setCell ⟨b, 2, none⟩ v2).setCell ⟨b, 3, none⟩ v3).setCell ⟨b, 4, none⟩ v4).setCell ⟨b, 5, none⟩ v5).setCell ⟨b, 6, none⟩ v6).setCell ⟨b, 7, none⟩ v7).setCell ⟨b, 8, none⟩ v8) :=
  (((((((h.setCell (p := ⟨b, 1, none⟩) hb v1).setCell (p := ⟨b, 2, none⟩) hb v2).setCell (p := ⟨b, 3, none⟩) hb v3).setCell (p := ⟨b, 4, none⟩) hb v4).setCell (p := ⟨b, 5, none⟩) hb v5).setCell (p := ⟨b, 6, none⟩) hb v6).setCell (p := ⟨b, 7, none⟩) hb v7).setCell (p := ⟨b, 8, none⟩) hb v8

set_option maxHeartbeats 2000000 in
theorem hasLine_any (r : Rq) (ko : Option Addr) (kc : Nat) (w : World) (hlen : r.cmd.keys.length ≤ 9223372036854775807) (hsec : r.secret.size ≤ maxLen) :
    Calls Tryd.prog 47 #[.agg (r.arr (.slice ko r.cmd.keys.length kc))] w fun e w' => e = .returned (.bool r.hasLine) ∧ Below w.heap.size w w' := by
  have HN := Hid.mk2 (fun (c : Cm) ko kc W hl => isNothing_any c ko kc W hl)
  have HW := Hid.mk2 (fun W => isWord_any r.secret 16 hsec (by decide) W)
  obtain ⟨R, hR⟩ : ∃ R, R = r.hasLine := ⟨_, rfl⟩
  rw [← hR]
  have HR := Hid.mk2 hR
  have HLN := Hid.mk2 hlen
  obtain ⟨V, hV⟩ : ∃ V, V = wordOk r.secret 16 := ⟨_, rfl⟩
  rw [← hV] at HW
  have HV := Hid.mk2 hV
  clear hR hlen hsec hV
  obtain ⟨W, hW⟩ : ∃ W, W = w.alloc (.cells (r.arr (.slice ko r.cmd.keys.length kc)) 28) := ⟨_, rfl⟩
  have HB : Hid (Below w.heap.size w W) := by rw [hW]; exact g_alloc _ _
  have HX : Hid (GBx W w.heap.size (r.cl (.slice ko r.cmd.keys.length kc))) := by rw [hW]; exact GBx.made w (r.cl _) _
  obtain ⟨kind, ⟨ck, ct, keys, cv, cf, cl, cu, cb⟩, tenant, secret, on, close⟩ := r
  unfold Rq.arr Rq.cl at *
  dsimp only at *
  have c0 := HX.out.c 0 (by simp)
  have c1 := HX.out.c 1 (by simp)
  have c2 := HX.out.c 2 (by simp)
  have c3 := HX.out.c 3 (by simp)
  have c4 := HX.out.c 4 (by simp)
  have c5 := HX.out.c 5 (by simp)
  have c6 := HX.out.c 6 (by simp)
  have c7 := HX.out.c 7 (by simp)
  have c8 := HX.out.c 8 (by simp)
  have c9 := HX.out.c 9 (by simp)
  have c10 := HX.out.c 10 (by simp)
  have c11 := HX.out.c 11 (by simp)
  have c12 := HX.out.c 12 (by simp)
  have f1 := HX.out.f 1
  have f2 := HX.out.f 2
  have f3 := HX.out.f 3
  have f4 := HX.out.f 4
  have f5 := HX.out.f 5
  have f6 := HX.out.f 6
  have f7 := HX.out.f 7
  have f8 := HX.out.f 8
  have f9 := HX.out.f 9
  have f10 := HX.out.f 10
  have f11 := HX.out.f 11
  simp only [List.getElem_cons_zero, List.getElem_cons_succ] at c0 c1 c2 c3 c4 c5 c6 c7 c8 c9 c10 c11 c12
  have hlt := HX.out.lt
  go_enter Tryd.func47, Tryd.ntmps47
  go_upto_region 1 with (fail)
  rw [← hW]
  clear hW
  go_cut [3, 4] from 5 (fun s3 s4 wx => s3 = .pointer (some ⟨w.heap.size, 0, none⟩) ∧ s4 = .int .u8 kind ∧ wx = W)
  case first =>
    go_wp2
    go_meet
    case rel => exact ⟨rfl, rfl, rfl⟩
  case rest =>
  obtain ⟨rfl, rfl, hwc⟩ := hcut
  replace hwc := hwc.symm
  subst hwc
  rename_i hK
  refine hK _ _ ?_
  go_cut [] from 5 (fun wx => ∃ (c : Cm) (ao : Option Addr) (ac : Nat) (t : Int) (s : ByteArray) (o q : Bool), Hid (Below w.heap.size w wx) ∧ Hid (GBx wx w.heap.size [.int .u8 kind, .int .u8 c.kind, .int .i64 c.tenant, .slice ao c.keys.length ac, .string c.value, .int .u32 c.flags, .int .i64 c.life, .int .u64 c.unique, .int .u64 c.by_, .int .i64 t, .string s, .bool o, .bool q]) ∧ Hid (c.keys.length ≤ 9223372036854775807) ∧ Hid (R = (c.isNone && (t == 0) && s.toList.isEmpty && !o && !q)))
  case first =>
    by_cases k1 : kind = 1
    · subst k1
      have HE : Hid (R = (cz.isNone && (tenant == 0) && secret.toList.isEmpty && !on && !close)) := by
        show R = _
        rw [HR.out, show cz.isNone = true by simp [Cm.isNone, cz, em0]]
        unfold Rq.hasLine
        rw [if_pos rfl]
        simp
      go_wp2
      go_meet
      case rel => exact ⟨cz, none, 0, tenant, secret, on, close, below8 HB.out (Nat.le_refl _) _ _ _ _ _ _ _ _, HX.out.set8 _ _ _ _ _ _ _ _, (by show cz.keys.length ≤ _; decide), HE⟩
    by_cases k2 : kind = 2
    · subst k2
      have HE : Hid (R = (decide (0 ≤ tenant ∧ tenant < 4) && V && (Cm.mk ck ct keys cv cf cl cu cb).isNone && !on && !close)) := by
        show R = _
        rw [HR.out, HV.out]
        unfold Rq.hasLine
        rw [if_neg (by show ¬ (2 : Int) = 1; decide), if_pos rfl]
      by_cases h0 : tenant < 0
      · have e : R = false := by rw [HE.out, decide_eq_false (by omega)]; simp
        subst e
        go_wp2
        go_ret
        exact ⟨rfl, HB.out⟩
      by_cases h4 : 4 ≤ tenant
      · have e : R = false := by rw [HE.out, decide_eq_false (by omega)]; simp
        subst e
        go_wp2
        go_ret
        exact ⟨rfl, HB.out⟩
      cases V
      · have e : R = false := by rw [HE.out]; simp
        subst e
        go_wp2_with (go_at_call 57; refine (HW.out _).mono ?_; rintro e w1 ⟨rfl, hb1⟩)
        go_ret
        exact ⟨rfl, g_on HB.out hb1⟩
      have HE2 : Hid (R = ((Cm.mk ck ct keys cv cf cl cu cb).isNone && ((0 : Int) == 0) && (⟨#[]⟩ : ByteArray).toList.isEmpty && !on && !close)) := by
        show R = _
        rw [HE.out, decide_eq_true (by omega), em0]
        simp
      go_wp2_with (go_at_call 57; refine (HW.out _).mono ?_; rintro e w1 ⟨rfl, hb1⟩; have HX1 := Hid.mk2 (HX.out.below hb1); have HB1 := Hid.mk2 (g_on HB.out hb1); have d9 := HX1.out.c 9 (by simp); have d10 := HX1.out.c 10 (by simp); have q9 := HX1.out.f 9; have q10 := HX1.out.f 10; have hlt1 := HX1.out.lt; simp only [List.getElem_cons_zero, List.getElem_cons_succ] at d9 d10; clear hb1)
      go_meet
      case rel => exact ⟨⟨ck, ct, keys, cv, cf, cl, cu, cb⟩, ko, kc, 0, ⟨#[]⟩, on, close, (HB1.out.setCell (p := ⟨w.heap.size, 9, none⟩) (Nat.le_refl _) _).setCell (p := ⟨w.heap.size, 10, none⟩) (Nat.le_refl _) _, (HX1.out.set 9 (.int .i64 0) (by simp)).set 10 (.string ⟨#[]⟩) (by simp), HLN, HE2⟩
    by_cases k3 : kind = 3
    · subst k3
      have HE : Hid (R = ((Cm.mk ck ct keys cv cf cl cu cb).isNone && (tenant == 0) && secret.toList.isEmpty && !false && !close)) := by
        show R = _
        rw [HR.out]
        unfold Rq.hasLine
        rw [if_neg (by show ¬ (3 : Int) = 1; decide), if_neg (by show ¬ (3 : Int) = 2; decide), if_pos rfl]
        simp
      go_wp2
      go_meet
      case rel => exact ⟨⟨ck, ct, keys, cv, cf, cl, cu, cb⟩, ko, kc, tenant, secret, false, close, HB.out.setCell (p := ⟨w.heap.size, 11, none⟩) (Nat.le_refl _) _, HX.out.set 11 (.bool false) (by simp), HLN, HE⟩
    by_cases k45 : kind = 4 ∨ kind = 5
    · have HE : Hid (R = ((Cm.mk ck ct keys cv cf cl cu cb).isNone && (tenant == 0) && secret.toList.isEmpty && !on && !close)) := by
        show R = _
        rw [HR.out]
        unfold Rq.hasLine
        rw [if_neg k1, if_neg k2, if_neg k3, if_pos k45]
      rcases k45 with rfl | rfl
      · go_wp2
        go_meet
        case rel => exact ⟨⟨ck, ct, keys, cv, cf, cl, cu, cb⟩, ko, kc, tenant, secret, on, close, HB, HX, HLN, HE⟩
      · go_wp2
        go_meet
        case rel => exact ⟨⟨ck, ct, keys, cv, cf, cl, cu, cb⟩, ko, kc, tenant, secret, on, close, HB, HX, HLN, HE⟩
    have e : R = false := by
      rw [HR.out]
      unfold Rq.hasLine
      rw [if_neg k1, if_neg k2, if_neg k3, if_neg k45]
    subst e
    have k4 : ¬ kind = 4 := fun h => k45 (.inl h)
    have k5 : ¬ kind = 5 := fun h => k45 (.inr h)
    clear k45
    go_wp2
    go_ret
    exact ⟨rfl, HB.out⟩
  case rest =>
  obtain ⟨c, ao, ac, t, s, o, q, HBn, HXn, HLn, HE⟩ := hcut
  clear HB HX HLN HR HV HW c0 c1 c2 c3 c4 c5 c6 c7 c8 c9 c10 c11 c12 f1 f2 f3 f4 f5 f6 f7 f8 f9 f10 f11 hlt
  obtain ⟨w2, hw2⟩ : ∃ w2, w2 = wc := ⟨_, rfl⟩
  rw [← hw2] at HBn HXn ⊢
  clear hw2
  have HC := Hid.mk2 (fun W => HN.out c ao ac W HLn.out)
  clear HN HLn
  obtain ⟨NO, hNO⟩ : ∃ NO, NO = c.isNone := ⟨_, rfl⟩
  rw [← hNO] at HE HC
  clear hNO
  obtain ⟨ck, ct, keys, cv, cf, cl, cu, cb⟩ := c
  unfold Cm.arr at HC
  dsimp only at *
  have c1 := HXn.out.c 1 (by simp)
  have c2 := HXn.out.c 2 (by simp)
  have c3 := HXn.out.c 3 (by simp)
  have c4 := HXn.out.c 4 (by simp)
  have c5 := HXn.out.c 5 (by simp)
  have c6 := HXn.out.c 6 (by simp)
  have c7 := HXn.out.c 7 (by simp)
  have c8 := HXn.out.c 8 (by simp)
  have hlt := HXn.out.lt
  simp only [List.getElem_cons_zero, List.getElem_cons_succ] at c1 c2 c3 c4 c5 c6 c7 c8
  cases NO
  · have e : R = false := by rw [HE.out]; simp
    subst e
    clear HE
    go_wp2_with (go_at_call 75; refine (HC.out _).mono ?_; rintro e w3 ⟨rfl, hb3⟩; have HX3 := Hid.mk2 (HXn.out.below hb3); have HB3 := Hid.mk2 (g_on HBn.out hb3); have d9 := HX3.out.c 9 (by simp); have d10 := HX3.out.c 10 (by simp); have d11 := HX3.out.c 11 (by simp); have d12 := HX3.out.c 12 (by simp); have hlt3 := HX3.out.lt; simp only [List.getElem_cons_zero, List.getElem_cons_succ] at d9 d10 d11 d12; clear hb3)
    go_ret
    exact ⟨rfl, HB3.out⟩
  by_cases t0 : t = 0
  case neg =>
    have e : R = false := by rw [HE.out]; simp [t0]
    subst e
    clear HE
    go_wp2_with (go_at_call 75; refine (HC.out _).mono ?_; rintro e w3 ⟨rfl, hb3⟩; have HX3 := Hid.mk2 (HXn.out.below hb3); have HB3 := Hid.mk2 (g_on HBn.out hb3); have d9 := HX3.out.c 9 (by simp); have d10 := HX3.out.c 10 (by simp); have d11 := HX3.out.c 11 (by simp); have d12 := HX3.out.c 12 (by simp); have hlt3 := HX3.out.lt; simp only [List.getElem_cons_zero, List.getElem_cons_succ] at d9 d10 d11 d12; clear hb3)
    go_ret
    exact ⟨rfl, HB3.out⟩
  subst t0
  cases s0 : s.toList.isEmpty
  · have e : R = false := by rw [HE.out, s0]; simp
    subst e
    clear HE
    go_wp2_with (go_at_call 75; refine (HC.out _).mono ?_; rintro e w3 ⟨rfl, hb3⟩; have HX3 := Hid.mk2 (HXn.out.below hb3); have HB3 := Hid.mk2 (g_on HBn.out hb3); have d9 := HX3.out.c 9 (by simp); have d10 := HX3.out.c 10 (by simp); have d11 := HX3.out.c 11 (by simp); have d12 := HX3.out.c 12 (by simp); have hlt3 := HX3.out.lt; simp only [List.getElem_cons_zero, List.getElem_cons_succ] at d9 d10 d11 d12; clear hb3)
    go_ret
    exact ⟨rfl, HB3.out⟩
  cases o
  case true =>
    have e : R = false := by rw [HE.out]; simp
    subst e
    clear HE
    go_wp2_with (go_at_call 75; refine (HC.out _).mono ?_; rintro e w3 ⟨rfl, hb3⟩; have HX3 := Hid.mk2 (HXn.out.below hb3); have HB3 := Hid.mk2 (g_on HBn.out hb3); have d9 := HX3.out.c 9 (by simp); have d10 := HX3.out.c 10 (by simp); have d11 := HX3.out.c 11 (by simp); have d12 := HX3.out.c 12 (by simp); have hlt3 := HX3.out.lt; simp only [List.getElem_cons_zero, List.getElem_cons_succ] at d9 d10 d11 d12; clear hb3)
    go_ret
    exact ⟨rfl, HB3.out⟩
  cases q
  · have e : R = true := by rw [HE.out, s0]; simp
    subst e
    clear HE
    go_wp2_with (go_at_call 75; refine (HC.out _).mono ?_; rintro e w3 ⟨rfl, hb3⟩; have HX3 := Hid.mk2 (HXn.out.below hb3); have HB3 := Hid.mk2 (g_on HBn.out hb3); have d9 := HX3.out.c 9 (by simp); have d10 := HX3.out.c 10 (by simp); have d11 := HX3.out.c 11 (by simp); have d12 := HX3.out.c 12 (by simp); have hlt3 := HX3.out.lt; simp only [List.getElem_cons_zero, List.getElem_cons_succ] at d9 d10 d11 d12; clear hb3)
    go_ret
    exact ⟨rfl, HB3.out⟩
  · have e : R = false := by rw [HE.out]; simp
    subst e
    clear HE
    go_wp2_with (go_at_call 75; refine (HC.out _).mono ?_; rintro e w3 ⟨rfl, hb3⟩; have HX3 := Hid.mk2 (HXn.out.below hb3); have HB3 := Hid.mk2 (g_on HBn.out hb3); have d9 := HX3.out.c 9 (by simp); have d10 := HX3.out.c 10 (by simp); have d11 := HX3.out.c 11 (by simp); have d12 := HX3.out.c 12 (by simp); have hlt3 := HX3.out.lt; simp only [List.getElem_cons_zero, List.getElem_cons_succ] at d9 d10 d11 d12; clear hb3)
    go_ret
    exact ⟨rfl, HB3.out⟩
end Go.Proofs.YtldnkminhppngaaDoor
