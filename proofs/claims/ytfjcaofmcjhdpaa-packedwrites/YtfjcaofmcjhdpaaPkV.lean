/-
  The document's Write of packets, walked.
-/
import Derived.Test.YtfjcaofmcjhdpaaPkU
import Derived.Test.YtfjcaofmcjhdpaaWpN
import Derived.Test.YtfjcaofmcjhdpaaBnS
namespace Go.Proofs.Ytfjcaofmcjhdpaa
open Go.Proofs.Ytfjcaofmcjhdpaa.It
open Go.RowKit
set_option linter.unusedSimpArgs false
set_option linter.unusedVariables false
set_option maxRecDepth 100000

set_option maxHeartbeats 8000000 in
theorem rWrite17_any (a : An) (io : Option Addr) (ic : Nat) (w : World) (hi : GRd EM w io a.items ic) (hk : a.key.size ≤ maxLen) (hf : a.Pf) :
    Calls Try.prog 12 #[.agg (a.arr (.slice io a.items.length ic))] w fun e w' => PwR w w' a e := by
  obtain ⟨W, hW⟩ : ∃ W, W = w.alloc (.cells (a.arr (.slice io a.items.length ic)) 31) := ⟨_, rfl⟩
  have HB : Hid (Below w.heap.size w W) := by rw [hW]; exact g_alloc _ _
  have HX : Hid (GBx W w.heap.size (a.cl (.slice io a.items.length ic))) := by rw [hW]; exact GBx.made w (a.cl _) _
  have HMY := Hid.mk2 (rmay15_any a io ic W (hi.below HB.out) hk hf.n.1 hf.n.2)
  have HBO := Hid.mk2 (fun V (hV : Below W.heap.size W V) (hm : a.may = true) => rBody_any a io ic V (hi.below (g_on HB.out hV)) hm hf)
  have HBL := Hid.mk2 (fun (hm : a.may = true) => body_len hm hf)
  have HWE : Hid (a.wpE = if a.may = true then (if 4096 < a.body.length then 3 else 0) else 8) := rfl
  have HWP : Hid (a.wp = if a.wpE = 0 then pkt 178 (n8 a.kind) a.body else []) := rfl
  have hnk := n8_of hf.k.1 hf.k.2
  obtain ⟨KB, hKB⟩ : ∃ b, b = n8 a.kind := ⟨_, rfl⟩
  rw [← hKB] at HWP hnk
  obtain ⟨BD, hBD⟩ : ∃ b, b = a.body := ⟨_, rfl⟩
  rw [← hBD] at HBO HBL HWE HWP
  obtain ⟨MB, hMB⟩ : ∃ b, b = a.may := ⟨_, rfl⟩
  rw [← hMB] at HMY HBO HBL HWE
  obtain ⟨WPE, hWPE⟩ : ∃ x, x = a.wpE := ⟨_, rfl⟩
  obtain ⟨WP, hWP⟩ : ∃ x, x = a.wp := ⟨_, rfl⟩
  rw [← hWPE] at HWE HWP
  rw [← hWP] at HWP
  have HFIN : Hid (∀ e w', (∃ ao cap, e = .returned (.tuple #[.slice ao WP.length cap, .int .i64 WPE]) ∧ GRd EY w' ao WP cap) → Below w.heap.size w w' → PwR w w' a e) := by
    intro e w' h1 h2
    rw [hWPE, hWP] at h1
    exact ⟨h1, h2⟩
  obtain ⟨kind, of_, rk, L, num, yes, key⟩ := a
  unfold An.arr at hW HMY HBO ⊢
  unfold An.cl at HX
  dsimp only at hW HMY HBO HX hnk ⊢
  subst hnk
  have HMD := Hid.mk2 (fun V o c (h : GRd EY V o BD c) hl => rmade_any 178 KB V o BD c h BD.length rfl hl)
  obtain ⟨N, hN⟩ : ∃ N, N = L.length := ⟨_, rfl⟩
  rw [← hN] at HMY HBO HX hW ⊢
  obtain ⟨BN, hBN⟩ : ∃ n, n = BD.length := ⟨_, rfl⟩
  rw [← hBN] at HMD
  have HBN := Hid.mk2 hBN
  clear hi hk hf hWPE hWP hN hKB hBD hMB hBN
  have x0 := HX.out.c 0 (by simp); have x1 := HX.out.c 1 (by simp); have x2 := HX.out.c 2 (by simp); have x3 := HX.out.c 3 (by simp); have x4 := HX.out.c 4 (by simp); have x5 := HX.out.c 5 (by simp); have x6 := HX.out.c 6 (by simp); simp only [List.getElem_cons_zero, List.getElem_cons_succ] at x0 x1 x2 x3 x4 x5 x6
  cases MB with
  | false =>
    have HE : Hid (WPE = 8) := HWE.out.trans (if_neg (by simp))
    have HP : Hid (WP = []) := HWP.out.trans (if_neg (by rw [HE.out]; decide))
    go_enter Try.func12, Try.ntmps12
    go_upto_region 1 with (fail)
    rw [← hW]
    clear hW
    go_wp2_with (go_at_call 20; refine HMY.out.mono ?_; rintro e w1 ⟨rfl, hb⟩; have HB1 := Hid.mk2 (g_on HB.out hb); clear hb)
    refine bodyPost_ret (results_tmp2 rfl _ _ _) rfl ?_
    exact HFIN.out _ _ ⟨none, 0, by rw [HE.out, HP.out]; rfl, by rw [HP.out]; exact GRd.nil _⟩ HB1.out
  | true =>
    have HE : Hid (WPE = if 4096 < BD.length then 3 else 0) := HWE.out.trans (if_pos rfl)
    have HBO2 := Hid.mk2 (fun V hV => HBO.out V hV rfl)
    clear HWE HBL HBO
    go_enter Try.func12, Try.ntmps12
    go_upto_region 1 with (fail)
    rw [← hW]
    clear hW
    go_upto_region 3 with (go_at_call 20; refine HMY.out.mono ?_; rintro e w1 ⟨rfl, hb⟩; have HB1 := Hid.mk2 hb; have HX1 := Hid.mk2 (HX.out.below hb); clear hb)
    clear x0 x1 x2 x3 x4 x5 x6
    have x0 := HX1.out.c 0 (by simp); have x1 := HX1.out.c 1 (by simp); have x2 := HX1.out.c 2 (by simp); have x3 := HX1.out.c 3 (by simp); have x4 := HX1.out.c 4 (by simp); have x5 := HX1.out.c 5 (by simp); have x6 := HX1.out.c 6 (by simp); simp only [List.getElem_cons_zero, List.getElem_cons_succ] at x0 x1 x2 x3 x4 x5 x6
    go_upto_region 4 with (go_at_call 21; refine (HBO2.out _ HB1.out).mono ?_; rintro e w2 ⟨⟨v2, rfl, ho2⟩, hb2⟩; obtain ⟨o2, q2, hv2, hr2, _⟩ := gown_rd2 ho2; rw [← HBN.out] at hv2; subst hv2; have HR2 := Hid.mk2 hr2; have HB2 := Hid.mk2 (g_on HB1.out hb2); have HX2 := Hid.mk2 (HX1.out.below hb2); clear ho2 hr2 hb2)
    clear x0 x1 x2 x3 x4 x5 x6
    have x0 := HX2.out.c 0 (by simp); have x1 := HX2.out.c 1 (by simp); have x2 := HX2.out.c 2 (by simp); have x3 := HX2.out.c 3 (by simp); have x4 := HX2.out.c 4 (by simp); have x5 := HX2.out.c 5 (by simp); have x6 := HX2.out.c 6 (by simp); simp only [List.getElem_cons_zero, List.getElem_cons_succ] at x0 x1 x2 x3 x4 x5 x6
    by_cases hl : 4096 < BN
    · have hli : (4096 : Int) < (BN : Int) := by omega
      have HE2 : Hid (WPE = 3) := HE.out.trans (if_pos (by rw [← HBN.out]; exact hl))
      have HP : Hid (WP = []) := HWP.out.trans (if_neg (by rw [HE2.out]; decide))
      clear hl HE HWP
      go_wp2
      refine bodyPost_ret (results_tmp2 rfl _ _ _) rfl ?_
      exact HFIN.out _ _ ⟨none, 0, by rw [HE2.out, HP.out]; rfl, by rw [HP.out]; exact GRd.nil _⟩ (g_on HB.out HB2.out)
    · have hli : ¬ (4096 : Int) < (BN : Int) := by omega
      have HE2 : Hid (WPE = 0) := HE.out.trans (if_neg (by rw [← HBN.out]; exact hl))
      have HP : Hid (WP = pkt 178 KB BD) := HWP.out.trans (if_pos HE2.out)
      have HLE : Hid (BN ≤ 4096) := by show _ ≤ _; omega
      have HM2 : Hid (Calls Try.prog 22 #[.int .u8 178, .int .u8 (KB.toNat : Int), .slice o2 BN q2] w2 fun e V' => ∃ v, e = .returned v ∧ GOwn EY V' w2.heap.size v (pkt 178 KB BD) ∧ Below w2.heap.size w2 V') := HMD.out w2 o2 q2 HR2.out HLE.out
      clear hl HE HWP HMD
      go_wp2_with (go_at_call 22; refine HM2.out.mono ?_; rintro e w3 ⟨v3, rfl, ho3, hb3⟩; rw [← HP.out] at ho3; obtain ⟨o3, q3, hv3, hr3, _⟩ := gown_rd2 ho3; subst hv3; have HR3 := Hid.mk2 hr3; have HB3 := Hid.mk2 (g_on HB2.out hb3); clear ho3 hr3 hb3)
      refine bodyPost_ret (results_tmp2 rfl _ _ _) rfl ?_
      exact HFIN.out _ _ ⟨o3, q3, by rw [HE2.out]; rfl, HR3.out⟩ (g_on HB.out HB3.out)
end Go.Proofs.Ytfjcaofmcjhdpaa
