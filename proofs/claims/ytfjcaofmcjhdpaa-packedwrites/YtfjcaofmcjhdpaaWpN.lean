/-
  The document's May of answers, walked.
-/
import Derived.Test.YtfjcaofmcjhdpaaWpM
namespace Go.Proofs.Ytfjcaofmcjhdpaa
open Go.Proofs.Ytfjcaofmcjhdpaa.It
open Go.RowKit
set_option linter.unusedSimpArgs false
set_option linter.unusedVariables false
set_option maxRecDepth 100000

set_option maxHeartbeats 8000000 in
theorem rmay15_any (a : An) (io : Option Addr) (ic : Nat) (w : World) (hi : GRd EM w io a.items ic) (hk : a.key.size ≤ maxLen) (hn0 : 0 ≤ a.num) (hn1 : a.num < 18446744073709551616) :
    Calls Try.prog 20 #[.agg (a.arr (.slice io a.items.length ic))] w fun e w' => e = .returned (.bool a.may) ∧ Below w.heap.size w w' := by
  obtain ⟨W, hW⟩ : ∃ W, W = w.alloc (.cells (a.arr (.slice io a.items.length ic)) 31) := ⟨_, rfl⟩
  have HB : Hid (Below w.heap.size w W) := by rw [hW]; exact g_alloc _ _
  have HX : Hid (GBx W w.heap.size (a.cl (.slice io a.items.length ic))) := by rw [hW]; exact GBx.made w (a.cl _) _
  have HI := Hid.mk2 (hi.below HB.out)
  rw [may_chain a hn0 hn1]
  have HMC : Hid (mchain a = if mt1 a = true then false else if mt2 a = true then false else if ¬ a.kind = 1 then mt3 a else if mt4 a = true then false else if mt5 a = true then false else !a.items.any badI) := rfl
  have HT1 : Hid (mt1 a = (decide (a.kind < 1) || decide (7 < a.kind) || (a.yes && !decide (a.kind = 2) && !decide (a.kind = 3)))) := rfl
  have HT2 : Hid (mt2 a = ((decide (a.kind = 7) && (decide (a.key.size < 1) || decide (32 < a.key.size))) || (!decide (a.kind = 7) && !decide (a.key.size = 0)))) := rfl
  have HT3 : Hid (mt3 a = (decide (a.of_ = 0) && decide (a.rk = 0) && decide (a.num = 0) && decide (a.items.length = 0))) := rfl
  have HT4 : Hid (mt4 a = (decide (a.of_ < 1) || decide (11 < a.of_) || decide (a.rk < 1) || decide (7 < a.rk) || decide (8 < a.items.length))) := rfl
  have HT5 : Hid (mt5 a = ((decide (0 < a.items.length) && (!decide (a.of_ = 1) || !decide (a.rk = 1))) || (!decide (a.num = 0) && (!mcnt a.of_ || !decide (a.rk = 1))) || (decide (a.of_ = 10) && decide (8 < a.num)))) := rfl
  obtain ⟨T1, hT1⟩ : ∃ t, t = mt1 a := ⟨_, rfl⟩
  obtain ⟨T2, hT2⟩ : ∃ t, t = mt2 a := ⟨_, rfl⟩
  obtain ⟨T3, hT3⟩ : ∃ t, t = mt3 a := ⟨_, rfl⟩
  obtain ⟨T4, hT4⟩ : ∃ t, t = mt4 a := ⟨_, rfl⟩
  obtain ⟨T5, hT5⟩ : ∃ t, t = mt5 a := ⟨_, rfl⟩
  rw [← hT1, ← hT2, ← hT3, ← hT4, ← hT5] at HMC
  rw [← hT1] at HT1
  rw [← hT2] at HT2
  rw [← hT3] at HT3
  rw [← hT4] at HT4
  rw [← hT5] at HT5
  obtain ⟨MC, hMC⟩ : ∃ m, m = mchain a := ⟨_, rfl⟩
  rw [← hMC] at HMC ⊢
  obtain ⟨K, O, R, L, N, Y, key⟩ := a
  unfold An.arr at hW ⊢
  unfold An.cl at HX
  dsimp only at *
  clear hT1 hT2 hT3 hT4 hT5 hMC hi
  have hm : maxLen = 9223372036854775807 := rfl
  obtain ⟨Z, hZ0⟩ : ∃ Z, Z = key.size := ⟨_, rfl⟩
  have hZ : key.size = Z := hZ0.symm
  have hzi : (Z : Int) ≤ 9223372036854775807 := by omega
  have hni : (L.length : Int) ≤ 9223372036854775807 := by have := HI.out.len; omega
  obtain ⟨n, hn⟩ : ∃ n, n = L.length := ⟨_, rfl⟩
  have HN := Hid.mk2 hn
  rw [hZ] at HT2
  rw [← hn] at HT3 HT4 HT5 HX hW hni ⊢
  clear hZ0 hn hk hm
  have x0 := HX.out.c 0 (by simp)
  have x1 := HX.out.c 1 (by simp)
  have x2 := HX.out.c 2 (by simp)
  have x3 := HX.out.c 3 (by simp)
  have x4 := HX.out.c 4 (by simp)
  have x5 := HX.out.c 5 (by simp)
  have x6 := HX.out.c 6 (by simp)
  simp only [List.getElem_cons_zero, List.getElem_cons_succ] at x0 x1 x2 x3 x4 x5 x6
  go_enter Try.func20, Try.ntmps20
  go_upto_region 1 with (fail)
  rw [← hW]
  clear hW
  go_cut [26] from 5 to 25 (fun s wx => s = .bool T1 ∧ W = wx)
  case first =>
    clear HMC HT2 HT3 HT4 HT5
    by_cases h_k1 : K < 1
    · have hT : T1 = true := by rw [HT1.out]; simp [h_k1] <;> omega
      subst hT
      go_wp2_with (go_at_call 33; refine (HCN.out _).mono ?_; rintro e w9 ⟨rfl, rfl⟩)
      go_meet
      case rel => exact ⟨by first | rfl | (simp; done) | (simp; omega), rfl⟩
    · by_cases h_k7g : 7 < K
      · have hT : T1 = true := by rw [HT1.out]; simp [h_k1, h_k7g] <;> omega
        subst hT
        go_wp2_with (go_at_call 33; refine (HCN.out _).mono ?_; rintro e w9 ⟨rfl, rfl⟩)
        go_meet
        case rel => exact ⟨by first | rfl | (simp; done) | (simp; omega), rfl⟩
      · cases Y with
        | true =>
          by_cases h_k2 : K = 2
          · have b_k2 : (K == 2) = true := by simpa using h_k2
            have c_k2 : (K != 2) = false := by simpa using h_k2
            have hT : T1 = false := by rw [HT1.out]; simp [h_k1, h_k7g, h_k2] <;> omega
            subst hT
            clear h_k2
            go_wp2_with (go_at_call 33; refine (HCN.out _).mono ?_; rintro e w9 ⟨rfl, rfl⟩)
            go_meet
            case rel => exact ⟨by first | rfl | (simp; done) | (simp; omega), rfl⟩
          · have b_k2 : (K == 2) = false := by simpa using h_k2
            have c_k2 : (K != 2) = true := by simpa using h_k2
            by_cases h_k3 : K = 3
            · have b_k3 : (K == 3) = true := by simpa using h_k3
              have c_k3 : (K != 3) = false := by simpa using h_k3
              have hT : T1 = false := by rw [HT1.out]; simp [h_k1, h_k7g, h_k2, h_k3] <;> omega
              subst hT
              clear h_k2 h_k3
              go_wp2_with (go_at_call 33; refine (HCN.out _).mono ?_; rintro e w9 ⟨rfl, rfl⟩)
              go_meet
              case rel => exact ⟨by first | rfl | (simp; done) | (simp; omega), rfl⟩
            · have b_k3 : (K == 3) = false := by simpa using h_k3
              have c_k3 : (K != 3) = true := by simpa using h_k3
              have hT : T1 = true := by rw [HT1.out]; simp [h_k1, h_k7g, h_k2, h_k3] <;> omega
              subst hT
              clear h_k2 h_k3
              go_wp2_with (go_at_call 33; refine (HCN.out _).mono ?_; rintro e w9 ⟨rfl, rfl⟩)
              go_meet
              case rel => exact ⟨by first | rfl | (simp; done) | (simp; omega), rfl⟩
        | false =>
          have hT : T1 = false := by rw [HT1.out]; simp [h_k1, h_k7g] <;> omega
          subst hT
          go_wp2_with (go_at_call 33; refine (HCN.out _).mono ?_; rintro e w9 ⟨rfl, rfl⟩)
          go_meet
          case rel => exact ⟨by first | rfl | (simp; done) | (simp; omega), rfl⟩
  case rest =>
    apply_assumption
    obtain ⟨rfl, rfl⟩ := hcut
    have HB2 := Hid.mk2 HB.out
    cases T1 with
    | true =>
      have HE : Hid (MC = false) := HMC.out.trans (if_pos rfl)
      go_wp2
      go_ret
      exact ⟨by rw [HE.out]; rfl, HB.out⟩
    | false =>
    have HM2 := Hid.mk2 (HMC.out.trans (if_neg (by simp)))
    clear HMC HB2
    go_upto_region 3 with (fail)
    go_cut [51] from 27 to 50 (fun s wx => s = .bool T2 ∧ W = wx)
    case first =>
      clear HM2 HT1 HT3 HT4 HT5
      by_cases h_k7 : K = 7
      · have b_k7 : (K == 7) = true := by simpa using h_k7
        have c_k7 : (K != 7) = false := by simpa using h_k7
        by_cases h_z1 : Z < 1
        · have i_z1 : ((Z : Int) < 1) := by omega
          have hT : T2 = true := by rw [HT2.out]; simp [h_k7, h_z1] <;> omega
          subst hT
          clear h_k7
          go_wp2_with (go_at_call 33; refine (HCN.out _).mono ?_; rintro e w9 ⟨rfl, rfl⟩)
          go_meet
          case rel => exact ⟨by first | rfl | (simp; done) | (simp; omega), rfl⟩
        · have i_z1 : ¬ ((Z : Int) < 1) := by omega
          by_cases h_z32 : 32 < Z
          · have i_z32 : (32 < (Z : Int)) := by omega
            have hT : T2 = true := by rw [HT2.out]; simp [h_k7, h_z1, h_z32] <;> omega
            subst hT
            clear h_k7
            go_wp2_with (go_at_call 33; refine (HCN.out _).mono ?_; rintro e w9 ⟨rfl, rfl⟩)
            go_meet
            case rel => exact ⟨by first | rfl | (simp; done) | (simp; omega), rfl⟩
          · have i_z32 : ¬ (32 < (Z : Int)) := by omega
            have hT : T2 = false := by rw [HT2.out]; simp [h_k7, h_z1, h_z32] <;> omega
            subst hT
            clear h_k7
            go_wp2_with (go_at_call 33; refine (HCN.out _).mono ?_; rintro e w9 ⟨rfl, rfl⟩)
            go_meet
            case rel => exact ⟨by first | rfl | (simp; done) | (simp; omega), rfl⟩
      · have b_k7 : (K == 7) = false := by simpa using h_k7
        have c_k7 : (K != 7) = true := by simpa using h_k7
        by_cases h_z0 : Z = 0
        · have i_z0 : ((Z : Int) = 0) := by omega
          have b_z0 : ((Z : Int) == 0) = true := by simpa using h_z0
          have c_z0 : ((Z : Int) != 0) = false := by simpa using h_z0
          have b_z0 : (key.toList == []) = true := by have h9 := memp key; rw [hZ, decide_eq_true h_z0] at h9; simpa using h9
          have c_z0 : (key.toList != []) = false := by simpa using b_z0
          have d_z0 : key.toList = [] := by simpa using b_z0
          have hT : T2 = false := by rw [HT2.out]; simp [h_k7, h_z0] <;> omega
          subst hT
          clear h_k7 h_z0 d_z0
          go_wp2_with (go_at_call 33; refine (HCN.out _).mono ?_; rintro e w9 ⟨rfl, rfl⟩)
          go_meet
          case rel => exact ⟨by first | rfl | (simp; done) | (simp; omega), rfl⟩
        · have i_z0 : ¬ ((Z : Int) = 0) := by omega
          have b_z0 : ((Z : Int) == 0) = false := by simpa using h_z0
          have c_z0 : ((Z : Int) != 0) = true := by simpa using h_z0
          have b_z0 : (key.toList == []) = false := by have h9 := memp key; rw [hZ, decide_eq_false h_z0] at h9; simpa using h9
          have c_z0 : (key.toList != []) = true := by simpa using b_z0
          have d_z0 : ¬ key.toList = [] := by simpa using b_z0
          have hT : T2 = true := by rw [HT2.out]; simp [h_k7, h_z0] <;> omega
          subst hT
          clear h_k7 h_z0 d_z0
          go_wp2_with (go_at_call 33; refine (HCN.out _).mono ?_; rintro e w9 ⟨rfl, rfl⟩)
          go_meet
          case rel => exact ⟨by first | rfl | (simp; done) | (simp; omega), rfl⟩
    case rest =>
    apply_assumption
    obtain ⟨rfl, rfl⟩ := hcut
    cases T2 with
    | true =>
      have HE : Hid (MC = false) := HM2.out.trans (if_pos rfl)
      go_wp2
      go_ret
      exact ⟨by rw [HE.out]; rfl, HB.out⟩
    | false =>
    have HM3 := Hid.mk2 (HM2.out.trans (if_neg (by simp)))
    clear HM2 HT1 HT2
    go_upto_region 6 with (fail)
    obtain ⟨W2, hW2⟩ : ∃ W2, W2 = W.alloc (.cells #[.int .u8 R, .slice io n ic, .int .u64 N] 29) := ⟨_, rfl⟩
    have hb2 : Below W.heap.size W W2 := by rw [hW2]; exact g_alloc _ _
    have HB2 := Hid.mk2 (g_on HB.out hb2)
    have HX2 := Hid.mk2 (HX.out.below hb2)
    have HY2 : Hid (GBx W2 W.heap.size [.int .u8 R, .slice io n ic, .int .u64 N]) := by rw [hW2]; exact GBx.made W [.int .u8 R, .slice io n ic, .int .u64 N] _
    have HI2 := Hid.mk2 (HI.out.below hb2)
    rw [← hW2]
    clear hW2 hb2 x0 x1 x2 x3 x4 x5 x6
    have x0 := HX2.out.c 0 (by simp)
    have x1 := HX2.out.c 1 (by simp)
    have y0 := HY2.out.c 0 (by simp)
    have y1 := HY2.out.c 1 (by simp)
    have y2 := HY2.out.c 2 (by simp)
    simp only [List.getElem_cons_zero, List.getElem_cons_succ] at x0 x1 y0 y1 y2
    by_cases hK : K = 1
    case neg =>
      have bK : (K != 1) = true := by simpa using hK
      have HE : Hid (MC = T3) := HM3.out.trans (if_pos hK)
      have hE := HE.out
      subst hE
      have HMC := HT3
      clear HM3 HE HT4 HT5 hK
      by_cases h_o0 : O = 0
      · have b_o0 : (O == 0) = true := by simpa using h_o0
        have c_o0 : (O != 0) = false := by simpa using h_o0
        by_cases h_r0 : R = 0
        · have b_r0 : (R == 0) = true := by simpa using h_r0
          have c_r0 : (R != 0) = false := by simpa using h_r0
          by_cases h_n0 : N = 0
          · have b_n0 : (N == 0) = true := by simpa using h_n0
            have c_n0 : (N != 0) = false := by simpa using h_n0
            by_cases h_l0 : n = 0
            · have i_l0 : ((n : Int) = 0) := by omega
              have b_l0 : ((n : Int) == 0) = true := by simpa using h_l0
              have c_l0 : ((n : Int) != 0) = false := by simpa using h_l0
              have hT : MC = true := by rw [HMC.out]; simp [h_o0, h_r0, h_n0, h_l0] <;> omega
              subst hT
              clear h_o0 h_r0 h_n0 h_l0
              go_wp2
              go_ret
              exact ⟨by first | rfl | (simp; done) | (simp; omega), HB2.out⟩
            · have i_l0 : ¬ ((n : Int) = 0) := by omega
              have b_l0 : ((n : Int) == 0) = false := by simpa using h_l0
              have c_l0 : ((n : Int) != 0) = true := by simpa using h_l0
              have hT : MC = false := by rw [HMC.out]; simp [h_o0, h_r0, h_n0, h_l0] <;> omega
              subst hT
              clear h_o0 h_r0 h_n0 h_l0
              go_wp2
              go_ret
              exact ⟨by first | rfl | (simp; done) | (simp; omega), HB2.out⟩
          · have b_n0 : (N == 0) = false := by simpa using h_n0
            have c_n0 : (N != 0) = true := by simpa using h_n0
            have hT : MC = false := by rw [HMC.out]; simp [h_o0, h_r0, h_n0] <;> omega
            subst hT
            clear h_o0 h_r0 h_n0
            go_wp2
            go_ret
            exact ⟨by first | rfl | (simp; done) | (simp; omega), HB2.out⟩
        · have b_r0 : (R == 0) = false := by simpa using h_r0
          have c_r0 : (R != 0) = true := by simpa using h_r0
          have hT : MC = false := by rw [HMC.out]; simp [h_o0, h_r0] <;> omega
          subst hT
          clear h_o0 h_r0
          go_wp2
          go_ret
          exact ⟨by first | rfl | (simp; done) | (simp; omega), HB2.out⟩
      · have b_o0 : (O == 0) = false := by simpa using h_o0
        have c_o0 : (O != 0) = true := by simpa using h_o0
        have hT : MC = false := by rw [HMC.out]; simp [h_o0] <;> omega
        subst hT
        clear h_o0
        go_wp2
        go_ret
        exact ⟨by first | rfl | (simp; done) | (simp; omega), HB2.out⟩
    have bK : (K != 1) = false := by simpa using hK
    have HM4 := Hid.mk2 (HM3.out.trans (if_neg (fun h => h hK)))
    clear HM3 HT3 hK
    go_upto_region 8 with (fail)
    go_cut [99] from 57 to 98 (fun s wx => s = .bool T4 ∧ W2 = wx)
    case first =>
      clear HM4 HT5
      by_cases h_o1l : O < 1
      · have hT : T4 = true := by rw [HT4.out]; simp [h_o1l] <;> omega
        subst hT
        go_wp2_with (go_at_call 33; refine (HCN.out _).mono ?_; rintro e w9 ⟨rfl, rfl⟩)
        go_meet
        case rel => exact ⟨by first | rfl | (simp; done) | (simp; omega), rfl⟩
      · by_cases h_o11 : 11 < O
        · have hT : T4 = true := by rw [HT4.out]; simp [h_o1l, h_o11] <;> omega
          subst hT
          go_wp2_with (go_at_call 33; refine (HCN.out _).mono ?_; rintro e w9 ⟨rfl, rfl⟩)
          go_meet
          case rel => exact ⟨by first | rfl | (simp; done) | (simp; omega), rfl⟩
        · by_cases h_r1l : R < 1
          · have hT : T4 = true := by rw [HT4.out]; simp [h_o1l, h_o11, h_r1l] <;> omega
            subst hT
            go_wp2_with (go_at_call 33; refine (HCN.out _).mono ?_; rintro e w9 ⟨rfl, rfl⟩)
            go_meet
            case rel => exact ⟨by first | rfl | (simp; done) | (simp; omega), rfl⟩
          · by_cases h_r7 : 7 < R
            · have hT : T4 = true := by rw [HT4.out]; simp [h_o1l, h_o11, h_r1l, h_r7] <;> omega
              subst hT
              go_wp2_with (go_at_call 33; refine (HCN.out _).mono ?_; rintro e w9 ⟨rfl, rfl⟩)
              go_meet
              case rel => exact ⟨by first | rfl | (simp; done) | (simp; omega), rfl⟩
            · by_cases h_l8 : 8 < n
              · have i_l8 : (8 < (n : Int)) := by omega
                have hT : T4 = true := by rw [HT4.out]; simp [h_o1l, h_o11, h_r1l, h_r7, h_l8] <;> omega
                subst hT
                go_wp2_with (go_at_call 33; refine (HCN.out _).mono ?_; rintro e w9 ⟨rfl, rfl⟩)
                go_meet
                case rel => exact ⟨by first | rfl | (simp; done) | (simp; omega), rfl⟩
              · have i_l8 : ¬ (8 < (n : Int)) := by omega
                have hT : T4 = false := by rw [HT4.out]; simp [h_o1l, h_o11, h_r1l, h_r7, h_l8] <;> omega
                subst hT
                go_wp2_with (go_at_call 33; refine (HCN.out _).mono ?_; rintro e w9 ⟨rfl, rfl⟩)
                go_meet
                case rel => exact ⟨by first | rfl | (simp; done) | (simp; omega), rfl⟩
    case rest =>
    apply_assumption
    obtain ⟨rfl, rfl⟩ := hcut
    cases T4 with
    | true =>
      have HE : Hid (MC = false) := HM4.out.trans (if_pos rfl)
      go_wp2
      go_ret
      exact ⟨by rw [HE.out]; rfl, HB2.out⟩
    | false =>
    have HM5 := Hid.mk2 (HM4.out.trans (if_neg (by simp)))
    have HN8 : Hid (n ≤ 8) := by
      have h9 := HT4.out.symm
      simp only [Bool.or_eq_false_iff, decide_eq_false_iff_not] at h9
      show n ≤ 8
      omega
    clear HM4 HT4
    go_upto_region 10 with (fail)
    go_cut [139] from 100 to 138 (fun s wx => s = .bool T5 ∧ W2 = wx)
    case first =>
      clear HM5
      by_cases h_lp : 0 < n
      · have i_lp : (0 < (n : Int)) := by omega
        by_cases h_o1 : O = 1
        · have b_o1 : (O == 1) = true := by simpa using h_o1
          have c_o1 : (O != 1) = false := by simpa using h_o1
          by_cases h_r1 : R = 1
          · have b_r1 : (R == 1) = true := by simpa using h_r1
            have c_r1 : (R != 1) = false := by simpa using h_r1
            by_cases h_n0 : N = 0
            · have b_n0 : (N == 0) = true := by simpa using h_n0
              have c_n0 : (N != 0) = false := by simpa using h_n0
              by_cases h_o10 : O = 10
              · have b_o10 : (O == 10) = true := by simpa using h_o10
                have c_o10 : (O != 10) = false := by simpa using h_o10
                exact absurd (h_o1.symm.trans h_o10) (by decide)
              · have b_o10 : (O == 10) = false := by simpa using h_o10
                have c_o10 : (O != 10) = true := by simpa using h_o10
                have hT : T5 = false := by rw [HT5.out]; simp [h_lp, h_o1, h_r1, h_n0, h_o10] <;> omega
                subst hT
                clear h_o1 h_r1 h_n0 h_o10
                go_wp2_with (go_at_call 33; refine (HCN.out _).mono ?_; rintro e w9 ⟨rfl, rfl⟩)
                go_meet
                case rel => exact ⟨by first | rfl | (simp; done) | (simp; omega), rfl⟩
            · have b_n0 : (N == 0) = false := by simpa using h_n0
              have c_n0 : (N != 0) = true := by simpa using h_n0
              cases hC : mcnt O with
              | true =>
                have HCN := Hid.mk2 (fun V => rcounts15_any O V)
                rw [hC] at HCN
                exact absurd hC (by rw [h_o1]; decide)
              | false =>
                have HCN := Hid.mk2 (fun V => rcounts15_any O V)
                rw [hC] at HCN
                have hT : T5 = true := by rw [HT5.out, hC]; simp [h_lp, h_o1, h_r1, h_n0] <;> omega
                subst hT
                clear h_o1 h_r1 h_n0
                go_wp2_with (go_at_call 33; refine (HCN.out _).mono ?_; rintro e w9 ⟨rfl, rfl⟩)
                go_meet
                case rel => exact ⟨by first | rfl | (simp; done) | (simp; omega), rfl⟩
          · have b_r1 : (R == 1) = false := by simpa using h_r1
            have c_r1 : (R != 1) = true := by simpa using h_r1
            have hT : T5 = true := by rw [HT5.out]; simp [h_lp, h_o1, h_r1] <;> omega
            subst hT
            clear h_o1 h_r1
            go_wp2_with (go_at_call 33; refine (HCN.out _).mono ?_; rintro e w9 ⟨rfl, rfl⟩)
            go_meet
            case rel => exact ⟨by first | rfl | (simp; done) | (simp; omega), rfl⟩
        · have b_o1 : (O == 1) = false := by simpa using h_o1
          have c_o1 : (O != 1) = true := by simpa using h_o1
          have hT : T5 = true := by rw [HT5.out]; simp [h_lp, h_o1] <;> omega
          subst hT
          clear h_o1
          go_wp2_with (go_at_call 33; refine (HCN.out _).mono ?_; rintro e w9 ⟨rfl, rfl⟩)
          go_meet
          case rel => exact ⟨by first | rfl | (simp; done) | (simp; omega), rfl⟩
      · have i_lp : ¬ (0 < (n : Int)) := by omega
        by_cases h_n0 : N = 0
        · have b_n0 : (N == 0) = true := by simpa using h_n0
          have c_n0 : (N != 0) = false := by simpa using h_n0
          by_cases h_o10 : O = 10
          · have b_o10 : (O == 10) = true := by simpa using h_o10
            have c_o10 : (O != 10) = false := by simpa using h_o10
            by_cases h_n8 : 8 < N
            · exact absurd h_n8 (by rw [h_n0]; decide)
            · have hT : T5 = false := by rw [HT5.out]; simp [h_lp, h_n0, h_o10, Int.not_lt.1 h_n8] <;> omega
              subst hT
              clear h_n0 h_o10
              go_wp2_with (go_at_call 33; refine (HCN.out _).mono ?_; rintro e w9 ⟨rfl, rfl⟩)
              go_meet
              case rel => exact ⟨by first | rfl | (simp; done) | (simp; omega), rfl⟩
          · have b_o10 : (O == 10) = false := by simpa using h_o10
            have c_o10 : (O != 10) = true := by simpa using h_o10
            have hT : T5 = false := by rw [HT5.out]; simp [h_lp, h_n0, h_o10] <;> omega
            subst hT
            clear h_n0 h_o10
            go_wp2_with (go_at_call 33; refine (HCN.out _).mono ?_; rintro e w9 ⟨rfl, rfl⟩)
            go_meet
            case rel => exact ⟨by first | rfl | (simp; done) | (simp; omega), rfl⟩
        · have b_n0 : (N == 0) = false := by simpa using h_n0
          have c_n0 : (N != 0) = true := by simpa using h_n0
          cases hC : mcnt O with
          | true =>
            have HCN := Hid.mk2 (fun V => rcounts15_any O V)
            rw [hC] at HCN
            by_cases h_r1 : R = 1
            · have b_r1 : (R == 1) = true := by simpa using h_r1
              have c_r1 : (R != 1) = false := by simpa using h_r1
              by_cases h_o10 : O = 10
              · have b_o10 : (O == 10) = true := by simpa using h_o10
                have c_o10 : (O != 10) = false := by simpa using h_o10
                by_cases h_n8 : 8 < N
                · have hT : T5 = true := by rw [HT5.out, hC]; simp [h_lp, h_n0, h_r1, h_o10, h_n8] <;> omega
                  subst hT
                  clear h_n0 h_r1 h_o10
                  go_wp2_with (go_at_call 33; refine (HCN.out _).mono ?_; rintro e w9 ⟨rfl, rfl⟩)
                  go_meet
                  case rel => exact ⟨by first | rfl | (simp; done) | (simp; omega), rfl⟩
                · have hT : T5 = false := by rw [HT5.out, hC]; simp [h_lp, h_n0, h_r1, h_o10, Int.not_lt.1 h_n8] <;> omega
                  subst hT
                  clear h_n0 h_r1 h_o10
                  go_wp2_with (go_at_call 33; refine (HCN.out _).mono ?_; rintro e w9 ⟨rfl, rfl⟩)
                  go_meet
                  case rel => exact ⟨by first | rfl | (simp; done) | (simp; omega), rfl⟩
              · have b_o10 : (O == 10) = false := by simpa using h_o10
                have c_o10 : (O != 10) = true := by simpa using h_o10
                have hT : T5 = false := by rw [HT5.out, hC]; simp [h_lp, h_n0, h_r1, h_o10] <;> omega
                subst hT
                clear h_n0 h_r1 h_o10
                go_wp2_with (go_at_call 33; refine (HCN.out _).mono ?_; rintro e w9 ⟨rfl, rfl⟩)
                go_meet
                case rel => exact ⟨by first | rfl | (simp; done) | (simp; omega), rfl⟩
            · have b_r1 : (R == 1) = false := by simpa using h_r1
              have c_r1 : (R != 1) = true := by simpa using h_r1
              have hT : T5 = true := by rw [HT5.out, hC]; simp [h_lp, h_n0, h_r1] <;> omega
              subst hT
              clear h_n0 h_r1
              go_wp2_with (go_at_call 33; refine (HCN.out _).mono ?_; rintro e w9 ⟨rfl, rfl⟩)
              go_meet
              case rel => exact ⟨by first | rfl | (simp; done) | (simp; omega), rfl⟩
          | false =>
            have HCN := Hid.mk2 (fun V => rcounts15_any O V)
            rw [hC] at HCN
            have hT : T5 = true := by rw [HT5.out, hC]; simp [h_lp, h_n0] <;> omega
            subst hT
            clear h_n0
            go_wp2_with (go_at_call 33; refine (HCN.out _).mono ?_; rintro e w9 ⟨rfl, rfl⟩)
            go_meet
            case rel => exact ⟨by first | rfl | (simp; done) | (simp; omega), rfl⟩
    case rest =>
    apply_assumption
    obtain ⟨rfl, rfl⟩ := hcut
    cases T5 with
    | true =>
      have HE : Hid (MC = false) := HM5.out.trans (if_pos rfl)
      go_wp2
      go_ret
      exact ⟨by rw [HE.out]; rfl, HB2.out⟩
    | false =>
    have HM6 := Hid.mk2 (HM5.out.trans (if_neg (by simp)))
    have HA1 : Hid (∀ k, (h : k < L.length) → badI L[k] = true → MC = false) := fun k h e => by rw [HM6.out, List.any_eq_true.2 ⟨L[k], List.getElem_mem h, e⟩]; rfl
    have HA2 : Hid ((∀ j (hj : j < L.length), badI L[j] = false) → MC = true) := by
      intro h
      rw [HM6.out]
      have : L.any badI = false := by
        rw [List.any_eq_false]
        intro x hx
        obtain ⟨j, hj, rfl⟩ := List.getElem_of_mem hx
        rw [h j hj]
        decide
      rw [this]
      rfl
    have HCK := Hid.mk2 (fun (x : Im) V => rcheck9_any x.it V)
    have hn8 : (n : Int) ≤ 8 := by have := HN8.out; omega
    clear HM5 HM6 HT5
    go_upto_region 12 with (fail)
    go_wp2
    go_loopw [4] (fun i wr => ∃ k : Nat, k ≤ n ∧ i = .int .i64 k ∧ Hid (Below W2.heap.size W2 wr) ∧ Hid (∀ j (hj : j < L.length), j < k → badI L[j] = false)) (fun i _ => n - (intOf i).toNat)
    case atStart => exact ⟨0, Nat.zero_le _, rfl, Below.refl _ _, fun _ _ h => absurd h (by omega)⟩
    case round =>
      obtain ⟨k, hk, rfl, HBR, HA⟩ := hrel
      have HYR := Hid.mk2 (HY2.out.below HBR.out)
      have z1 := HYR.out.c 1 (by simp)
      simp only [List.getElem_cons_zero, List.getElem_cons_succ] at z1
      by_cases hkl : k < n
      · have hkl2 : (k : Int) < (n : Int) := by omega
        have hkL : k < L.length := by rw [← HN.out]; exact hkl
        have hne : L ≠ [] := by intro e; rw [e] at hkL; simp at hkL
        obtain ⟨b, off, rfl, hbl, hcs⟩ := (HI2.out.below HBR.out).im hne
        obtain ⟨r0, r1, r2, r3, r4⟩ := hcs k hkL
        have HCI := Hid.mk2 (fun V => HCK.out L[k] V)
        have HBD : Hid (badI L[k] = !(ckE L[k].it == 0)) := rfl
        have HAN : Hid (badI L[k] = false → ∀ j (hj : j < L.length), j < k + 1 → badI L[j] = false) := fun h j hj hjk => by
          by_cases e : j = k
          · subst e; exact h
          · exact HA.out j hj (by omega)
        have HAB := Hid.mk2 (fun h => HA1.out k hkL h)
        obtain ⟨y, hye⟩ : ∃ y, y = L[k] := ⟨_, rfl⟩
        rw [← hye] at r0 r1 r2 r3 r4 HCI HBD HAN HAB
        clear hye hcs hne HA hkL
        obtain ⟨CE, hCE⟩ : ∃ c, c = ckE y.it := ⟨_, rfl⟩
        rw [← hCE] at HBD
        have HC2 : Hid (∀ V, Calls Try.prog 34 #[.agg #[.string y.key, .string y.value, .int .u32 y.flags, .int .i64 y.till, .int .u64 y.unique]] V fun e w' => e = .returned (.int .i64 CE) ∧ Below V.heap.size V w') := by
          intro V
          refine (HCI.out V).mono ?_
          rintro e w' ⟨rfl, rfl⟩
          exact ⟨by rw [hCE], g_alloc _ _⟩
        clear HCI hCE
        obtain ⟨yk, yv, yf, yt, yu⟩ := y
        dsimp only at r0 r1 r2 r3 r4 HC2
        by_cases hc : CE = 0
        · have hcb : (CE != 0) = false := by simpa using hc
          have HG := Hid.mk2 (HAN.out (by rw [HBD.out, hc]; rfl))
          clear hc HAN HAB
          go_wp2_with (go_at_call 34; refine (HC2.out _).mono ?_; rintro e w3 ⟨rfl, hb3⟩; have HB3 := Hid.mk2 (g_on HBR.out hb3); clear hb3)
          exact ⟨⟨k + 1, by omega, by go_num, HB3.out, HG.out⟩, by simp [intOf]; omega⟩
        · have hcb : (CE != 0) = true := by simpa using hc
          have HG := Hid.mk2 (HAB.out (by rw [HBD.out]; simpa using hc))
          clear hc HAN HAB
          go_wp2_with (go_at_call 34; refine (HC2.out _).mono ?_; rintro e w3 ⟨rfl, hb3⟩; have HB3 := Hid.mk2 (g_on HBR.out hb3); clear hb3)
          go_ret
          exact ⟨by rw [HG.out]; rfl, g_on HB2.out HB3.out⟩
      · have hkl2 : ¬ (k : Int) < (n : Int) := by omega
        have HG := Hid.mk2 (HA2.out (fun j hj => HA.out j hj (by have := HN.out; omega)))
        go_wp2
        go_ret
        exact ⟨by rw [HG.out]; rfl, g_on HB2.out HBR.out⟩
end Go.Proofs.Ytfjcaofmcjhdpaa
