/-
  (shaken)
-/
import Derived.Test.YtfjcaofmcjhdpaaBnR
namespace Go.Proofs.Ytfjcaofmcjhdpaa
open Go.Proofs.Ytfjcaofmcjhdpaa.It
open Go.RowKit
set_option linter.unusedSimpArgs false
set_option linter.unusedVariables false
set_option maxRecDepth 100000

set_option maxHeartbeats 1000000 in
theorem rmade_any (f k : UInt8) (V : World) (ao : Option Addr) (L : List UInt8) (cap : Nat) (hr : GRd EY V ao L cap) (m : Nat) (hm : m = L.length) (hL : L.length ≤ 4096) :
    Calls Try.prog 22 #[.int .u8 (f.toNat : Int), .int .u8 (k.toNat : Int), .slice ao m cap] V fun e V' => ∃ v, e = .returned v ∧ GOwn EY V' V.heap.size v (pkt f k L) ∧ Below V.heap.size V V' := by
  have hm4 : m ≤ 4096 := by omega
  have hm4i : (m : Int) ≤ 4096 := by omega
  have e2 : pkt f k L = (f :: k :: be4 m) ++ L := by unfold pkt; rw [← hm]; rfl
  rw [e2]
  have HH := Hid.mk2 (head_own V f k m (by omega) ((m : Int) / 16777216) ((m : Int) / 65536) ((m : Int) / 256) ((m : Int) % 256) (by rw [UInt8.toNat_ofNat']; omega) (by rw [UInt8.toNat_ofNat']; omega) (by rw [UInt8.toNat_ofNat']; omega) (by rw [UInt8.toNat_ofNat']; omega))
  have HR := Hid.mk2 hr
  have HM := Hid.mk2 hm
  have t1 : Int.tdiv (m : Int) 16777216 = (m : Int) / 16777216 := Int.tdiv_eq_ediv_of_nonneg (by omega)
  have t2 : Int.tdiv (m : Int) 65536 = (m : Int) / 65536 := Int.tdiv_eq_ediv_of_nonneg (by omega)
  have t3 : Int.tdiv (m : Int) 256 = (m : Int) / 256 := Int.tdiv_eq_ediv_of_nonneg (by omega)
  clear hr hm hL e2
  go_enter Try.func22, Try.ntmps22
  go_wp2_with (at_builtin; refine g_app okY rfl _ _ _ rfl rfl V.heap.size _ (f :: k :: be4 m) HH.out rfl ao cap L m HM.out rfl (HR.out.alloc _) (by have := HM.out; simp [be4]; omega) (by simp) ?_; intro v2 w2 hO2 hG2; have HO2 := Hid.mk2 hO2; have HG2 := Hid.mk2 (hG2.below HH.out (by simp)); clear hO2 hG2)
  go_ret
  exact ⟨_, rfl, HO2.out, (g_alloc V _).trans HG2.out⟩
set_option maxHeartbeats 1000000 in
theorem rlength_any (V : World) (b off cap : Nat) (L : List UInt8) (hr : GRd EY V (some ⟨b, off, none⟩) L cap) (m : Nat) (hm : m = L.length) (h6 : 6 ≤ m) :
    Calls Try.prog 37 #[.slice (some ⟨b, off, none⟩) m cap] V fun e V' => e = .returned (.int .i64 (len4 L : Int)) ∧ Below V.heap.size V V' := by
  obtain ⟨x, k, a1, a2, a3, a4, l6, rfl⟩ : ∃ x k a1 a2 a3 a4 l6, L = x :: k :: a1 :: a2 :: a3 :: a4 :: l6 := by
    have h : 6 ≤ L.length := by omega
    match L, h with
    | x :: k :: a1 :: a2 :: a3 :: a4 :: l6, _ => exact ⟨x, k, a1, a2, a3, a4, l6, rfl⟩
  obtain ⟨b', off', e, hb, hc⟩ := hr.uy (by simp)
  cases e
  have c2 : V.cell? ⟨b, off + 2, none⟩ = some (.int .u8 (a1.toNat : Int)) := hc 2 (by simp)
  have c3 : V.cell? ⟨b, off + 3, none⟩ = some (.int .u8 (a2.toNat : Int)) := hc 3 (by simp)
  have c4 : V.cell? ⟨b, off + 4, none⟩ = some (.int .u8 (a3.toNat : Int)) := hc 4 (by simp)
  have c5 : V.cell? ⟨b, off + 5, none⟩ = some (.int .u8 (a4.toNat : Int)) := hc 5 (by simp)
  have b1 : (a1.toNat : Int) ≤ 255 := by have := a1.toNat_lt; omega
  have b2 : (a2.toNat : Int) ≤ 255 := by have := a2.toNat_lt; omega
  have b3 : (a3.toNat : Int) ≤ 255 := by have := a3.toNat_lt; omega
  have b4 : (a4.toNat : Int) ≤ 255 := by have := a4.toNat_lt; omega
  have hN : ((len4 (x :: k :: a1 :: a2 :: a3 :: a4 :: l6) : Nat) : Int) = (a1.toNat : Int) * 16777216 + (a2.toNat : Int) * 65536 + (a3.toNat : Int) * 256 + (a4.toNat : Int) := by
    show ((a1.toNat * 16777216 + a2.toNat * 65536 + a3.toNat * 256 + a4.toNat : Nat) : Int) = _
    omega
  rw [hN]
  clear hr hm hc hN
  go_enter Try.func37, Try.ntmps37
  go_wp2
  go_quiet (fail)
  go_wp2
  go_ret
  exact ⟨by first | rfl | simp, ⟨rfl, rfl, rfl, Nat.le_refl _, fun _ _ => rfl⟩⟩
set_option maxHeartbeats 4000000 in
theorem rcut_any (f : UInt8) (V : World) (ao : Option Addr) (L : List UInt8) (cap : Nat) (hr : GRd EY V ao L cap) (m : Nat) (hm : m = L.length) (hL : L.length ≤ 20000) :
    Calls Try.prog 23 #[.int .u8 (f.toNat : Int), .slice ao m cap] V fun e V' => CopyR V V' (cutQ f L) e := by
  have hmi : (m : Int) ≤ 20000 := by omega
  have nilR : ∀ (k : Int) (W : World), Below V.heap.size V W → CopyR V W ⟨0, [], 0, k⟩ (.returned (.tuple #[.int .u8 0, .slice none 0 0, .int .i64 0, .int .i64 k])) := fun k W h => ⟨⟨_, rfl, GOwn.nil _ _⟩, h⟩
  have H := Hid.mk2 nilR
  by_cases h0 : 16384 < L.length
  · have e1 : cutQ f L = ⟨0, [], 0, 3⟩ := if_pos h0
    rw [e1]
    have hmi2 : (16384 : Int) < (m : Int) := by omega
    clear hr hm hL h0 e1 nilR
    go_enter Try.func23, Try.ntmps23
    go_wp2
    (try simp only [Exit.inBlock, Exit.then])
    refine bodyPost_ret (results_tmp4 rfl _ _ _) rfl ?_
    exact H.out 3 _ (Below.refl _ _)
  have e1 : cutQ f L = cutP f L := if_neg h0
  rw [e1]
  have hmi2 : ¬ (16384 : Int) < (m : Int) := by omega
  cases L with
  | nil =>
    have hm0 : m = 0 := by simpa using hm
    subst hm0
    have e : cutP f [] = ⟨0, [], 0, 0⟩ := rfl
    rw [e]
    clear nilR hr hm e hL e1 h0
    go_enter Try.func23, Try.ntmps23
    go_wp2
    (try simp only [Exit.inBlock, Exit.then])
    refine bodyPost_ret (results_tmp4 rfl _ _ _) rfl ?_
    exact H.out 0 _ (Below.refl _ _)
  | cons x l =>
    obtain ⟨b, off, rfl, hb, hc⟩ := hr.uy (by simp)
    have hm1 : (m : Int) ≠ 0 := by simp at hm; omega
    have hm2 : 0 < m := by simp at hm; omega
    have hmc : m ≤ cap := by rw [hm]; exact hr.hl
    have hcp := hr.hc
    have c0 : V.cell? ⟨b, off, none⟩ = some (.int .u8 (x.toNat : Int)) := hc 0 (by simp)
    have HR := Hid.mk2 hr
    have hx256 := x.toNat_lt
    have hf256 := f.toNat_lt
    by_cases hxf : x = f
    case neg =>
      have e : cutP f (x :: l) = ⟨0, [], 0, 8⟩ := by unfold cutP; exact if_pos hxf
      rw [e]
      have hne : ((x.toNat : Int) == (f.toNat : Int)) = false := by
        simp only [beq_eq_false_iff_ne, ne_eq]
        intro e2; exact hxf (UInt8.toNat_inj.1 (by omega))
      have hne2 : ¬ (x.toNat : Int) = (f.toNat : Int) := by simpa using hne
      clear nilR hr hm e hL hc hb e1 h0
      go_enter Try.func23, Try.ntmps23
      go_wp2
      (try simp only [Exit.inBlock, Exit.then])
      refine bodyPost_ret (results_tmp4 rfl _ _ _) rfl ?_
      exact H.out 8 _ (Below.refl _ _)
    subst hxf
    by_cases h1 : (x :: l).length < 6
    · have e : cutP x (x :: l) = ⟨0, [], 0, 0⟩ := by unfold cutP; dsimp only; rw [if_neg (by simp), if_pos h1]
      rw [e]
      have hm6 : (m : Int) < 6 := by omega
      clear nilR hr hm e hL hc hb h1 e1 h0
      go_enter Try.func23, Try.ntmps23
      go_wp2
      (try simp only [Exit.inBlock, Exit.then])
      refine bodyPost_ret (results_tmp4 rfl _ _ _) rfl ?_
      exact H.out 0 _ (Below.refl _ _)
    have hm6 : ¬ (m : Int) < 6 := by omega
    have HLN := Hid.mk2 (rlength_any V b off cap (x :: l) hr m hm (by omega))
    have hcut : cutP x (x :: l) = if 4096 < len4 (x :: l) then ⟨0, [], 0, 8⟩ else if m < 6 + len4 (x :: l) then ⟨0, [], 0, 0⟩ else ⟨kind2 (x :: l), ((x :: l).drop 6).take (len4 (x :: l)), 6 + len4 (x :: l), 0⟩ := by
      unfold cutP; dsimp only; rw [if_neg (by simp), if_neg h1, ← hm]
    rw [hcut]
    have hNlt := len4_lt (x :: l)
    have hk1 : V.cell? ⟨b, off + 1, none⟩ = some (.int .u8 ((kind2 (x :: l)).toNat : Int)) := by
      have h := hc 1 (by omega)
      cases l with
      | nil => exact absurd h1 (by simp)
      | cons y l2 => exact h
    obtain ⟨N, hNN⟩ : ∃ N, N = len4 (x :: l) := ⟨_, rfl⟩
    obtain ⟨K, hKK⟩ : ∃ K, K = kind2 (x :: l) := ⟨_, rfl⟩
    rw [← hNN] at hNlt HLN ⊢
    rw [← hKK] at hk1 ⊢
    have HK : Hid (∀ W, Below V.heap.size V W → W.cell? ⟨b, off + 1, none⟩ = some (.int .u8 (K.toNat : Int))) := fun W h => (h.cell (p := ⟨b, off + 1, none⟩) hb).trans hk1
    have HM := Hid.mk2 hm
    have hNi : (N : Int) ≤ 4294967295 := by omega
    clear hcut hNN hKK nilR hr hm hL hc e1 h0 h1 hk1
    by_cases h2 : 4096 < N
    · rw [if_pos h2]
      have h2i : (4096 : Int) < (N : Int) := by omega
      go_enter Try.func23, Try.ntmps23
      go_wp2_with (go_at_call 37; refine HLN.out.mono ?_; rintro e w1 ⟨rfl, hb1⟩; have HB1 := Hid.mk2 hb1; clear hb1)
      (try simp only [Exit.inBlock, Exit.then])
      refine bodyPost_ret (results_tmp4 rfl _ _ _) rfl ?_
      exact H.out 8 _ HB1.out
    rw [if_neg h2]
    have h2i : ¬ (4096 : Int) < (N : Int) := by omega
    by_cases h3 : m < 6 + N
    · rw [if_pos h3]
      have h3i : (m : Int) < 6 + (N : Int) := by omega
      go_enter Try.func23, Try.ntmps23
      go_wp2_with (go_at_call 37; refine HLN.out.mono ?_; rintro e w1 ⟨rfl, hb1⟩; have HB1 := Hid.mk2 hb1; clear hb1)
      (try simp only [Exit.inBlock, Exit.then])
      refine bodyPost_ret (results_tmp4 rfl _ _ _) rfl ?_
      exact H.out 0 _ HB1.out
    rw [if_neg h3]
    have h3i : ¬ (m : Int) < 6 + (N : Int) := by omega
    have h4i : 6 + (N : Int) ≤ (cap : Int) := by omega
    have h5i : (6 : Int) ≤ 6 + (N : Int) := by omega
    have hlen : (((x :: l).drop 6).take N).length = N := by
      have h := HM.out
      rw [List.length_take, List.length_drop, ← h]; omega
    have HLE := Hid.mk2 hlen
    obtain ⟨B, hB⟩ : ∃ B, B = ((x :: l).drop 6).take N := ⟨_, rfl⟩
    have HBB := Hid.mk2 hB
    rw [← hB] at HLE ⊢
    have HN6 : Hid (6 + N - 6 = B.length) := by rw [HLE.out]; show _ = _; omega
    clear hlen hB
    by_cases h6 : cap = 6
    · subst h6
      have hN0 : N = 0 := by omega
      have hrd : Hid (GRd EY V (some ⟨b, off, none⟩) B 0) := by
        rw [HBB.out, hN0, List.take_zero]
        exact ⟨by simp, by omega, (fun e => by cases e), .inl rfl⟩
      clear hN0
      go_enter Try.func23, Try.ntmps23
      go_wp2_with (first
        | (go_at_call 37; refine HLN.out.mono ?_; rintro e w1 ⟨rfl, hb1⟩; have HB1 := Hid.mk2 hb1; clear hb1)
        | (at_builtin; refine g_app okY rfl _ _ _ rfl rfl V.heap.size _ [] (GOwn.nil _ _) rfl (some ⟨b, off, none⟩) 0 B _ HN6.out rfl (hrd.out.below HB1.out) (by have := HLE.out; simp; omega) HB1.out.size ?_; intro v2 w2 hO2 hG2; have HO2 := Hid.mk2 hO2; have HG2 := Hid.mk2 (HB1.out.trans (hG2.below (GOwn.nil (E := EY) _ _) HB1.out.size)); have hk2 := HK.out _ HG2.out; clear hO2 hG2))
      (try simp only [Exit.inBlock, Exit.then])
      refine bodyPost_ret (results_tmp4 rfl _ _ _) rfl ?_
      exact ⟨⟨_, rfl, HO2.out⟩, HG2.out⟩
    · have hrd : Hid (GRd EY V (some ⟨b, off + 6, none⟩) B (cap - 6)) := by
        rw [HBB.out]
        exact mid_rd HR.out 6 N (by rw [← HM.out]; omega) (cap - 6) (by omega) (by omega)
      go_enter Try.func23, Try.ntmps23
      go_wp2_with (first
        | (go_at_call 37; refine HLN.out.mono ?_; rintro e w1 ⟨rfl, hb1⟩; have HB1 := Hid.mk2 hb1; clear hb1)
        | (at_builtin; refine g_app okY rfl _ _ _ rfl rfl V.heap.size _ [] (GOwn.nil _ _) rfl (some ⟨b, off + 6, none⟩) (cap - 6) B _ HN6.out rfl (hrd.out.below HB1.out) (by have := HLE.out; simp; omega) HB1.out.size ?_; intro v2 w2 hO2 hG2; have HO2 := Hid.mk2 hO2; have HG2 := Hid.mk2 (HB1.out.trans (hG2.below (GOwn.nil (E := EY) _ _) HB1.out.size)); have hk2 := HK.out _ HG2.out; clear hO2 hG2))
      (try simp only [Exit.inBlock, Exit.then])
      refine bodyPost_ret (results_tmp4 rfl _ _ _) rfl ?_
      exact ⟨⟨_, rfl, HO2.out⟩, HG2.out⟩
end Go.Proofs.Ytfjcaofmcjhdpaa
