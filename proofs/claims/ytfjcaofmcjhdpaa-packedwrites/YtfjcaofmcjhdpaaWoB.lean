/-
  The library's IndexFunc and ContainsFunc over items; which answers may be: Check of package words.
-/
import Derived.Test.YtfjcaofmcjhdpaaWoA
import Derived.Lib.SliceRun
import Derived.Shelf.Abstract
namespace Go.Proofs.Ytfjcaofmcjhdpaa
open Go.Proofs.Ytfjcaofmcjhdpaa.It
open Go.RowKit
set_option linter.unusedSimpArgs false
set_option linter.unusedVariables false
set_option maxRecDepth 100000

def ixG {α : Type} (p : α → Bool) (L : List α) : Int := if L.any p = true then (L.findIdx p : Nat) else -1
theorem ixG_hit {α : Type} {p : α → Bool} {L : List α} {k : Nat} (hk : k < L.length) (h : p L[k] = true) (ha : ∀ j (hj : j < L.length), j < k → p L[j] = false) : ixG p L = (k : Int) := by
  have hm : L.any p = true := List.any_eq_true.2 ⟨L[k], List.getElem_mem hk, h⟩
  unfold ixG
  rw [if_pos hm]
  congr 1
  rw [List.findIdx_eq hk]
  exact ⟨h, fun j hj => ha j (by omega) hj⟩
theorem ixG_miss {α : Type} {p : α → Bool} {L : List α} (ha : ∀ j (hj : j < L.length), p L[j] = false) : ixG p L = -1 := by
  unfold ixG
  rw [if_neg]
  intro hm
  obtain ⟨x, hx, e⟩ := List.any_eq_true.1 hm
  obtain ⟨j, hj, rfl⟩ := List.getElem_of_mem hx
  rw [ha j hj] at e
  cases e
theorem ixG_any {α : Type} (p : α → Bool) (L : List α) : decide (0 ≤ ixG p L) = L.any p := by
  unfold ixG
  by_cases h : L.any p = true
  · rw [if_pos h, h]; simp
  · rw [if_neg h]; simp at h; simp; exact h

theorem indexM_any (g : Nat) (p : Im → Bool) (eg : ∀ args w, (callFunc g args).run Try.prog w = .ok (.enter g args) w) (hf : ∀ x w, Calls Try.prog g #[.agg #[.string x.key, .string x.value, .int .u32 x.flags, .int .i64 x.till, .int .u64 x.unique]] w fun e w' => e = .returned (.bool (p x)) ∧ Below w.heap.size w w') (l : List Im) (ao : Option Addr) (cap : Nat) (w : World) (h : GRd EM w ao l cap) :
    Calls Try.prog 59 #[.slice ao l.length cap, .func (.func g) #[] #[]] w fun e w' => e = .returned (.int .i64 (ixG p l)) ∧ Below w.heap.size w w' := by
  have hlen := h.len
  have HR := Hid.mk2 h
  have HH := Hid.mk2 (fun k hk => @ixG_hit Im p l k hk)
  have HM := Hid.mk2 (@ixG_miss Im p l)
  have HF := Hid.mk2 hf
  obtain ⟨R, hR⟩ : ∃ R, R = ixG p l := ⟨_, rfl⟩
  rw [← hR] at HH HM ⊢
  clear hR h hf
  go_enter Try.func59, Try.ntmps59
  go_wp2
  go_loopw [5, 8] (fun _ i wr => ∃ k : Nat, k ≤ l.length ∧ i = .int .i64 k ∧ Hid (Below w.heap.size w wr) ∧ Hid (∀ j (hj : j < l.length), j < k → p l[j] = false)) (fun _ i _ => l.length - (intOf i).toNat)
  case atStart => exact ⟨0, Nat.zero_le _, rfl, Below.refl _ _, fun _ _ h => absurd h (by omega)⟩
  case round =>
    obtain ⟨k, hk, rfl, HB, HA⟩ := hrel
    by_cases hkl : k < l.length
    · have hkl2 : (k : Int) < (l.length : Int) := by omega
      have hne : l ≠ [] := by intro e; rw [e] at hkl; simp at hkl
      obtain ⟨b, off, rfl, hbl, hcs⟩ := (HR.out.below HB.out).im hne
      obtain ⟨r0, r1, r2, r3, r4⟩ := hcs k hkl
      obtain ⟨y, hye⟩ : ∃ y, y = l[k] := ⟨_, rfl⟩
      rw [← hye] at r0 r1 r2 r3 r4
      have HC := Hid.mk2 (HF.out y)
      obtain ⟨Y, hY⟩ : ∃ Y, Y = p y := ⟨_, rfl⟩
      rw [← hY] at HC
      cases Y
      · have HA2 : Hid (∀ j (hj : j < l.length), j < k + 1 → p l[j] = false) := by
          intro j hj hjk
          by_cases e : j = k
          · subst e; rw [← hye, ← hY]
          · exact HA.out j hj (by omega)
        clear HA hcs hne hye hY HF
        obtain ⟨yk, yv, yf, yt, yu⟩ := y
        dsimp only at *
        go_wp2_with (go_at_fn g; refine (HC.out _).mono ?_; rintro e w1 ⟨rfl, hb1⟩)
        go_roundw
        case rel => exact ⟨k + 1, by omega, by go_num, g_on HB.out hb1, HA2⟩
        case measure => simp [intOf]; omega
      · have e := HH.out k hkl (by rw [← hye, ← hY]) HA.out
        subst e
        clear HH HM HA hcs hne hye hY HF
        obtain ⟨yk, yv, yf, yt, yu⟩ := y
        dsimp only at *
        go_wp2_with (go_at_fn g; refine (HC.out _).mono ?_; rintro e w1 ⟨rfl, hb1⟩)
        go_ret
        exact ⟨rfl, g_on HB.out hb1⟩
    · have e := HM.out (fun j hj => HA.out j hj (by omega))
      subst e
      have hkl2 : ¬ (k : Int) < (l.length : Int) := by omega
      clear HH HM HA HF
      go_wp2
      go_ret
      exact ⟨rfl, HB.out⟩
theorem containsM_any (g : Nat) (p : Im → Bool) (eg : ∀ args w, (callFunc g args).run Try.prog w = .ok (.enter g args) w) (hf : ∀ x w, Calls Try.prog g #[.agg #[.string x.key, .string x.value, .int .u32 x.flags, .int .i64 x.till, .int .u64 x.unique]] w fun e w' => e = .returned (.bool (p x)) ∧ Below w.heap.size w w') (l : List Im) (ao : Option Addr) (cap : Nat) (w : World) (h : GRd EM w ao l cap) :
    Calls Try.prog 52 #[.slice ao l.length cap, .func (.func g) #[] #[]] w fun e w' => e = .returned (.bool (l.any p)) ∧ Below w.heap.size w w' := by
  have HI := Hid.mk2 (indexM_any g p eg hf l ao cap w h)
  rw [← ixG_any]
  obtain ⟨R, hR⟩ : ∃ R, R = ixG p l := ⟨_, rfl⟩
  rw [← hR] at HI ⊢
  clear hR h
  go_enter Try.func52, Try.ntmps52
  go_wp2_with (go_at_call 59; refine HI.out.mono ?_; rintro e w1 ⟨rfl, hb1⟩)
  go_ret
  exact ⟨rfl, hb1⟩


theorem wisNothing_any (rk : Int) (io : Option Addr) (n ic : Nat) (num : Int) (hn : n ≤ 9223372036854775807) (w : World) : Calls Try.prog 40 #[.agg #[.int .u8 rk, .slice io n ic, .int .u64 num]] w fun e w' => e = .returned (.bool ((rk == 0) && ((n : Int) == 0) && (num == 0))) ∧ Below w.heap.size w w' := by
  have hni : (n : Int) ≤ 9223372036854775807 := by omega
  go_enter Try.func40, Try.ntmps40
  by_cases h1 : rk = 0
  · subst h1
    by_cases h2 : n = 0
    · subst h2
      go_wp2
      go_ret
      exact ⟨by simp, g_alloc _ _⟩
    · have hb : ((n : Int) == 0) = false := by simpa using h2
      have h2i : ¬ (n : Int) = 0 := by omega
      go_wp2
      go_ret
      exact ⟨by simp [h2], g_alloc _ _⟩
  · have hb : (rk == 0) = false := by simpa using h1
    go_wp2
    go_ret
    exact ⟨by simp [h1], g_alloc _ _⟩
theorem mayNot_en : ∀ args w, (callFunc 53 args).run Try.prog w = .ok (.enter 53 args) w := enters_of Try.func53 (by kernel_rfl) rfl

set_option maxHeartbeats 2000000 in
theorem wisResult_any (of_ rk : Int) (L : List Im) (io : Option Addr) (ic : Nat) (num : Int) (w : World) (hi : GRd EM w io L ic) : Calls Try.prog 39 #[.int .u8 of_, .agg #[.int .u8 rk, .slice io L.length ic, .int .u64 num]] w fun e w' => e = .returned (.bool (resOk of_ rk L num)) ∧ Below w.heap.size w w' := by
  obtain ⟨W, hW⟩ : ∃ W, W = w.alloc (.cells #[.int .u8 rk, .slice io L.length ic, .int .u64 num] 29) := ⟨_, rfl⟩
  have HB : Hid (Below w.heap.size w W) := by rw [hW]; exact g_alloc _ _
  have HX : Hid (GBx W w.heap.size [.int .u8 rk, .slice io L.length ic, .int .u64 num]) := by rw [hW]; exact GBx.made w [.int .u8 rk, .slice io L.length ic, .int .u64 num] _
  have HC := Hid.mk2 (fun V (h : Below w.heap.size w V) => containsM_any 53 badI mayNot_en wmayNotBe_any L io ic V (hi.below h))
  have hni : (L.length : Int) ≤ 9223372036854775807 := by have := hi.len; omega
  have x0 := HX.out.c 0 (by simp)
  have x1 := HX.out.c 1 (by simp)
  have x2 := HX.out.c 2 (by simp)
  simp only [List.getElem_cons_zero, List.getElem_cons_succ] at x0 x1 x2
  have HIC := Hid.mk2 (wisCommand_any of_ W)
  have HMI := Hid.mk2 (wmostItems_any of_ W)
  have HMN := Hid.mk2 (wmostNumber_any of_ W)
  have hin : (0 : Int) ≤ (L.length : Int) := by omega
  unfold resOk
  obtain ⟨A, hA⟩ : ∃ A, A = L.any badI := ⟨_, rfl⟩
  rw [← hA] at HC ⊢
  obtain ⟨N, hN⟩ : ∃ N, N = L.length := ⟨_, rfl⟩
  rw [← hN] at HC hni hin x1 hW ⊢
  obtain ⟨C, hC⟩ : ∃ C, C = isCmd of_ := ⟨_, rfl⟩
  rw [← hC] at HIC ⊢
  obtain ⟨MI, hMI⟩ : ∃ M, M = mostI of_ := ⟨_, rfl⟩
  rw [← hMI] at HMI ⊢
  obtain ⟨MN, hMN⟩ : ∃ M, M = mostN of_ := ⟨_, rfl⟩
  rw [← hMN] at HMN ⊢
  clear hA hN hC hMI hMN hi HX
  go_enter Try.func39, Try.ntmps39
  go_upto_region 1 with (fail)
  rw [← hW]
  clear hW
  cases C with
  | false =>
    go_wp2_with (first
          | (go_at_call 49; refine HIC.out.mono ?_; rintro e w1 ⟨rfl, hw⟩; rw [hw]; clear hw)
          | (go_at_call 50; refine HMI.out.mono ?_; rintro e w1 ⟨rfl, hw⟩; rw [hw]; clear hw)
          | (go_at_call 51; refine HMN.out.mono ?_; rintro e w1 ⟨rfl, hw⟩; rw [hw]; clear hw)
          | (go_at_call 52; refine (HC.out _ HB.out).mono ?_; rintro e w1 ⟨rfl, hb1⟩; have HB1 := Hid.mk2 (g_on HB.out hb1); clear hb1))
    all_goals go_ret
    all_goals exact ⟨by first | (simp [*]; done) | (simp; omega) | (simp; intros; omega) | (simp [*]; intros; omega) | (simp [*]; omega), HB.out⟩
  | true =>
    by_cases h1 : rk < 1
    · go_wp2_with (first
          | (go_at_call 49; refine HIC.out.mono ?_; rintro e w1 ⟨rfl, hw⟩; rw [hw]; clear hw)
          | (go_at_call 50; refine HMI.out.mono ?_; rintro e w1 ⟨rfl, hw⟩; rw [hw]; clear hw)
          | (go_at_call 51; refine HMN.out.mono ?_; rintro e w1 ⟨rfl, hw⟩; rw [hw]; clear hw)
          | (go_at_call 52; refine (HC.out _ HB.out).mono ?_; rintro e w1 ⟨rfl, hb1⟩; have HB1 := Hid.mk2 (g_on HB.out hb1); clear hb1))
      all_goals go_ret
      all_goals exact ⟨by first | (simp [*]; done) | (simp; omega) | (simp; intros; omega) | (simp [*]; intros; omega) | (simp [*]; omega), HB.out⟩
    by_cases h7 : 7 < rk
    · go_wp2_with (first
          | (go_at_call 49; refine HIC.out.mono ?_; rintro e w1 ⟨rfl, hw⟩; rw [hw]; clear hw)
          | (go_at_call 50; refine HMI.out.mono ?_; rintro e w1 ⟨rfl, hw⟩; rw [hw]; clear hw)
          | (go_at_call 51; refine HMN.out.mono ?_; rintro e w1 ⟨rfl, hw⟩; rw [hw]; clear hw)
          | (go_at_call 52; refine (HC.out _ HB.out).mono ?_; rintro e w1 ⟨rfl, hb1⟩; have HB1 := Hid.mk2 (g_on HB.out hb1); clear hb1))
      all_goals go_ret
      all_goals exact ⟨by first | (simp [*]; done) | (simp; omega) | (simp; intros; omega) | (simp [*]; intros; omega) | (simp [*]; omega), HB.out⟩
    have h1' : 1 ≤ rk := by omega
    have h7' : rk ≤ 7 := by omega
    by_cases hk : rk = 1
    · subst hk
      by_cases hl : (N : Int) ≤ MI
      · by_cases hm : num ≤ MN
        · go_wp2_with (first
          | (go_at_call 49; refine HIC.out.mono ?_; rintro e w1 ⟨rfl, hw⟩; rw [hw]; clear hw)
          | (go_at_call 50; refine HMI.out.mono ?_; rintro e w1 ⟨rfl, hw⟩; rw [hw]; clear hw)
          | (go_at_call 51; refine HMN.out.mono ?_; rintro e w1 ⟨rfl, hw⟩; rw [hw]; clear hw)
          | (go_at_call 52; refine (HC.out _ HB.out).mono ?_; rintro e w1 ⟨rfl, hb1⟩; have HB1 := Hid.mk2 (g_on HB.out hb1); clear hb1))
          all_goals go_ret
          all_goals exact ⟨by first | (simp [*]; done) | (simp; omega) | (simp; intros; omega) | (simp [*]; intros; omega) | (simp [*]; omega), HB1.out⟩
        · go_wp2_with (first
          | (go_at_call 49; refine HIC.out.mono ?_; rintro e w1 ⟨rfl, hw⟩; rw [hw]; clear hw)
          | (go_at_call 50; refine HMI.out.mono ?_; rintro e w1 ⟨rfl, hw⟩; rw [hw]; clear hw)
          | (go_at_call 51; refine HMN.out.mono ?_; rintro e w1 ⟨rfl, hw⟩; rw [hw]; clear hw)
          | (go_at_call 52; refine (HC.out _ HB.out).mono ?_; rintro e w1 ⟨rfl, hb1⟩; have HB1 := Hid.mk2 (g_on HB.out hb1); clear hb1))
          all_goals go_ret
          all_goals exact ⟨by first | (simp [*]; done) | (simp; omega) | (simp; intros; omega) | (simp [*]; intros; omega) | (simp [*]; omega), HB.out⟩
      · go_wp2_with (first
          | (go_at_call 49; refine HIC.out.mono ?_; rintro e w1 ⟨rfl, hw⟩; rw [hw]; clear hw)
          | (go_at_call 50; refine HMI.out.mono ?_; rintro e w1 ⟨rfl, hw⟩; rw [hw]; clear hw)
          | (go_at_call 51; refine HMN.out.mono ?_; rintro e w1 ⟨rfl, hw⟩; rw [hw]; clear hw)
          | (go_at_call 52; refine (HC.out _ HB.out).mono ?_; rintro e w1 ⟨rfl, hb1⟩; have HB1 := Hid.mk2 (g_on HB.out hb1); clear hb1))
        all_goals go_ret
        all_goals exact ⟨by first | (simp [*]; done) | (simp; omega) | (simp; intros; omega) | (simp [*]; intros; omega) | (simp [*]; omega), HB.out⟩
    · have hkb : (rk == 1) = false := by simpa using hk
      by_cases hl0 : N = 0
      · subst hl0
        by_cases hm : num ≤ 0
        · go_wp2_with (first
          | (go_at_call 49; refine HIC.out.mono ?_; rintro e w1 ⟨rfl, hw⟩; rw [hw]; clear hw)
          | (go_at_call 50; refine HMI.out.mono ?_; rintro e w1 ⟨rfl, hw⟩; rw [hw]; clear hw)
          | (go_at_call 51; refine HMN.out.mono ?_; rintro e w1 ⟨rfl, hw⟩; rw [hw]; clear hw)
          | (go_at_call 52; refine (HC.out _ HB.out).mono ?_; rintro e w1 ⟨rfl, hb1⟩; have HB1 := Hid.mk2 (g_on HB.out hb1); clear hb1))
          all_goals go_ret
          all_goals exact ⟨by first | (simp [*]; done) | (simp; omega) | (simp; intros; omega) | (simp [*]; intros; omega) | (simp [*]; omega), HB1.out⟩
        · go_wp2_with (first
          | (go_at_call 49; refine HIC.out.mono ?_; rintro e w1 ⟨rfl, hw⟩; rw [hw]; clear hw)
          | (go_at_call 50; refine HMI.out.mono ?_; rintro e w1 ⟨rfl, hw⟩; rw [hw]; clear hw)
          | (go_at_call 51; refine HMN.out.mono ?_; rintro e w1 ⟨rfl, hw⟩; rw [hw]; clear hw)
          | (go_at_call 52; refine (HC.out _ HB.out).mono ?_; rintro e w1 ⟨rfl, hb1⟩; have HB1 := Hid.mk2 (g_on HB.out hb1); clear hb1))
          all_goals go_ret
          all_goals exact ⟨by first | (simp [*]; done) | (simp; omega) | (simp; intros; omega) | (simp [*]; intros; omega) | (simp [*]; omega), HB.out⟩
      · have hl : ¬ (N : Int) ≤ 0 := by omega
        go_wp2_with (first
          | (go_at_call 49; refine HIC.out.mono ?_; rintro e w1 ⟨rfl, hw⟩; rw [hw]; clear hw)
          | (go_at_call 50; refine HMI.out.mono ?_; rintro e w1 ⟨rfl, hw⟩; rw [hw]; clear hw)
          | (go_at_call 51; refine HMN.out.mono ?_; rintro e w1 ⟨rfl, hw⟩; rw [hw]; clear hw)
          | (go_at_call 52; refine (HC.out _ HB.out).mono ?_; rintro e w1 ⟨rfl, hb1⟩; have HB1 := Hid.mk2 (g_on HB.out hb1); clear hb1))
        all_goals go_ret
        all_goals exact ⟨by first | (simp [*]; done) | (simp; omega) | (simp; intros; omega) | (simp [*]; intros; omega) | (simp [*]; omega), HB.out⟩
end Go.Proofs.Ytfjcaofmcjhdpaa
