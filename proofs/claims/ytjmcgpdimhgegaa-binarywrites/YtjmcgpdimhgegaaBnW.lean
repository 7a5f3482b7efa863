/-
  Package binary: isNothing, loginMayBe, isRequest, checkCommand.
-/
import Derived.Test.YtjmcgpdimhgegaaBnA
import Derived.Test.YtjmcgpdimhgegaaOrPc
namespace Go.Proofs.Ytjmcgpdimhgegaa
open Go.Proofs.Ytjmcgpdimhgegaa.It
open Go.RowKit
set_option linter.unusedSimpArgs false
set_option linter.unusedVariables false
set_option maxRecDepth 100000

theorem isReq_any (k : UInt8) (w : World) : Calls Try.prog 20 #[.int .u8 (k.toNat : Int)] w fun e w' => e = .returned (.bool (isRq k)) ∧ w' = w := by
  have h256 := k.toNat_lt
  unfold isRq
  by_cases h1 : 1 ≤ k.toNat
  · have i1 : (1 : Int) ≤ (k.toNat : Int) := by omega
    by_cases h2 : k.toNat ≤ 5
    · have i2 : (k.toNat : Int) ≤ 5 := by omega
      go_enter Try.func20, Try.ntmps20
      go_wp2
      go_ret
      exact ⟨by simp [h1, h2], rfl⟩
    · have i2 : ¬ (k.toNat : Int) ≤ 5 := by omega
      go_enter Try.func20, Try.ntmps20
      go_wp2
      go_ret
      exact ⟨by simp [h1, h2], rfl⟩
  · have i1 : ¬ (1 : Int) ≤ (k.toNat : Int) := by omega
    go_enter Try.func20, Try.ntmps20
    go_wp2
    go_ret
    exact ⟨by simp [h1], rfl⟩
theorem isReqI_any (k : Int) (hk : 0 ≤ k ∧ k ≤ 255) (w : World) : Calls Try.prog 20 #[.int .u8 k] w fun e w' => e = .returned (.bool (decide (1 ≤ k ∧ k ≤ 5))) ∧ w' = w := by
  have h := isReq_any (UInt8.ofNat k.toNat) w
  have e : ((UInt8.ofNat k.toNat).toNat : Int) = k := by rw [UInt8.toNat_ofNat']; omega
  have e2 : isRq (UInt8.ofNat k.toNat) = decide (1 ≤ k ∧ k ≤ 5) := by
    unfold isRq
    rw [show (UInt8.ofNat k.toNat).toNat = k.toNat by omega, ← Bool.decide_and]
    exact decide_eq_decide.2 (by omega)
  rw [e, e2] at h
  exact h
theorem loginMay_any (t : Int) (n : Nat) (w : World) : Calls Try.prog 22 #[.int .i64 t, .int .i64 (n : Int)] w fun e w' => e = .returned (.bool (logOk t n)) ∧ w' = w := by
  by_cases h1 : 0 ≤ t
  case neg =>
    have e : logOk t n = false := by unfold logOk; rw [decide_eq_false h1]; rfl
    rw [e]
    go_enter Try.func22, Try.ntmps22
    go_wp2
    go_ret
    exact ⟨rfl, rfl⟩
  by_cases h2 : t < 4
  case neg =>
    have e : logOk t n = false := by unfold logOk; rw [decide_eq_false h2]; cases decide (0 ≤ t) <;> rfl
    rw [e]
    go_enter Try.func22, Try.ntmps22
    go_wp2
    go_ret
    exact ⟨rfl, rfl⟩
  by_cases h3 : 1 ≤ n
  case neg =>
    have e : logOk t n = false := by unfold logOk; rw [decide_eq_false h3]; cases decide (0 ≤ t) <;> cases decide (t < 4) <;> rfl
    rw [e]
    have i3 : ¬ (1 : Int) ≤ (n : Int) := by omega
    clear h3
    go_enter Try.func22, Try.ntmps22
    go_wp2
    go_ret
    exact ⟨rfl, rfl⟩
  have i3 : (1 : Int) ≤ (n : Int) := by omega
  by_cases h4 : n ≤ 16
  · have e : logOk t n = true := by unfold logOk; rw [decide_eq_true h1, decide_eq_true h2, decide_eq_true h3, decide_eq_true h4]; rfl
    rw [e]
    have i4 : (n : Int) ≤ 16 := by omega
    go_enter Try.func22, Try.ntmps22
    go_wp2
    go_ret
    exact ⟨rfl, rfl⟩
  · have e : logOk t n = false := by unfold logOk; rw [decide_eq_false h4]; cases decide (0 ≤ t) <;> cases decide (t < 4) <;> cases decide (1 ≤ n) <;> rfl
    rw [e]
    have i4 : ¬ (n : Int) ≤ 16 := by omega
    clear h4
    go_enter Try.func22, Try.ntmps22
    go_wp2
    go_ret
    exact ⟨rfl, rfl⟩
set_option maxHeartbeats 2000000 in
theorem isNothing_any (c : Cm) (ko : Option Addr) (kc : Nat) (w : World) (hlen : c.keys.length ≤ 9223372036854775807) :
    Calls Try.prog 21 #[.agg (c.arr (.slice ko c.keys.length kc))] w fun e w' => e = .returned (.bool c.isNone) ∧ Below w.heap.size w w' := by
  have HB := Hid.mk2 (g_alloc w (.cells (c.arr (.slice ko c.keys.length kc)) 26))
  obtain ⟨kind, tenant, keys, value, flags, life, unique, by_⟩ := c
  unfold Cm.isNone
  unfold Cm.arr at *
  dsimp only at *
  obtain ⟨n, hn⟩ : ∃ n, n = keys.length := ⟨_, rfl⟩
  rw [← hn] at HB hlen ⊢
  clear hn
  by_cases h0 : kind = 0
  case neg =>
    go_enter Try.func21, Try.ntmps21
    go_wp2
    go_ret
    exact ⟨by simp [h0], HB.out⟩
  subst h0
  by_cases h1 : tenant = 0
  case neg =>
    go_enter Try.func21, Try.ntmps21
    go_wp2
    go_ret
    exact ⟨by simp [h1], HB.out⟩
  subst h1
  by_cases h2 : flags = 0
  case neg =>
    go_enter Try.func21, Try.ntmps21
    go_wp2
    go_ret
    exact ⟨by simp [h2], HB.out⟩
  subst h2
  by_cases h3 : life = 0
  case neg =>
    go_enter Try.func21, Try.ntmps21
    go_wp2
    go_ret
    exact ⟨by simp [h3], HB.out⟩
  subst h3
  by_cases h4 : unique = 0
  case neg =>
    go_enter Try.func21, Try.ntmps21
    go_wp2
    go_ret
    exact ⟨by simp [h4], HB.out⟩
  subst h4
  by_cases h5 : by_ = 0
  case neg =>
    go_enter Try.func21, Try.ntmps21
    go_wp2
    go_ret
    exact ⟨by simp [h5], HB.out⟩
  subst h5
  by_cases h6 : n = 0
  case neg =>
    have i6 : ¬ (n : Int) = 0 := by omega
    have j6 : ((n : Int) == 0) = false := by simpa using i6
    go_enter Try.func21, Try.ntmps21
    go_wp2
    go_ret
    exact ⟨by first | rfl | simp [j6] | simp [h6], HB.out⟩
  subst h6
  go_enter Try.func21, Try.ntmps21
  go_wp2
  go_ret
  exact ⟨by first | rfl | simp, HB.out⟩
set_option maxHeartbeats 1000000 in
theorem checkCommand_any (c : Cm) (ko : Option Addr) (kc : Nat) (w : World) (h : GRd ES w ko c.keys kc) :
    Calls Try.prog 23 #[.agg (c.arr (.slice ko c.keys.length kc))] w fun e w' => e = .returned (.int .i64 c.ckE) ∧ Below w.heap.size w w' := by
  have HC := Hid.mk2 (fun W (hW : Below w.heap.size w W) => pcheck_any c ko kc W (h.below hW))
  have hE : c.ckE = if c.chkE = 0 then (if c.tenant = 0 then 0 else 8) else 100 := by
    unfold Cm.ckE Cm.chkE
    cases c.may <;> simp
  have hc2 : c.chkE = 0 ∨ c.chkE = 100 := by unfold Cm.chkE; split <;> simp
  obtain ⟨E, hEe⟩ : ∃ E, E = c.ckE := ⟨_, rfl⟩
  obtain ⟨F, hF⟩ : ∃ F, F = c.chkE := ⟨_, rfl⟩
  rw [← hEe, ← hF] at hE
  rw [← hEe]
  rw [← hF] at HC hc2
  clear hEe hF h
  obtain ⟨W, hW⟩ : ∃ W, W = w.alloc (.cells (c.arr (.slice ko c.keys.length kc)) 26) := ⟨_, rfl⟩
  have HB : Hid (Below w.heap.size w W) := by rw [hW]; exact g_alloc _ _
  have HX : Hid (c.At (.slice ko c.keys.length kc) W w.heap.size) := by rw [hW]; exact Cm.At.made c _ w
  obtain ⟨kind, tenant, keys, value, flags, life, unique, by_⟩ := c
  have c0 := HX.out.c0
  have c1 := HX.out.c1
  have c2 := HX.out.c2
  have c3 := HX.out.c3
  have c4 := HX.out.c4
  have c5 := HX.out.c5
  have c6 := HX.out.c6
  have c7 := HX.out.c7
  have hlt := HX.out.lt
  unfold Cm.arr at *
  dsimp only at *
  go_enter Try.func23, Try.ntmps23
  go_upto_region 1 with (fail)
  rw [← hW]
  clear hW
  rcases hc2 with hc2 | hc2
  case inr =>
    subst hc2
    rw [if_neg (by decide)] at hE
    subst hE
    go_wp2_with (go_at_call 30; refine (HC.out _ HB.out).mono ?_; rintro e w1 ⟨rfl, hb1⟩)
    go_ret
    exact ⟨rfl, g_on HB.out hb1⟩
  subst hc2
  rw [if_pos rfl] at hE
  by_cases h0 : tenant = 0
  case neg =>
    rw [if_neg h0] at hE
    subst hE
    go_wp2_with (go_at_call 30; refine (HC.out _ HB.out).mono ?_; rintro e w1 ⟨rfl, hb1⟩; have HX1 := Hid.mk2 (HX.out.below hb1); have d1 := HX1.out.c1; have hlt1 := HX1.out.lt; have HB1 := Hid.mk2 (g_on HB.out hb1); clear hb1)
    go_ret
    exact ⟨rfl, HB1.out⟩
  rw [if_pos h0] at hE
  subst h0 hE
  go_wp2_with (go_at_call 30; refine (HC.out _ HB.out).mono ?_; rintro e w1 ⟨rfl, hb1⟩; have HX1 := Hid.mk2 (HX.out.below hb1); have d1 := HX1.out.c1; have hlt1 := HX1.out.lt; have HB1 := Hid.mk2 (g_on HB.out hb1); dsimp only at d1; clear hb1)
  go_ret
  exact ⟨rfl, HB1.out⟩
end Go.Proofs.Ytjmcgpdimhgegaa
