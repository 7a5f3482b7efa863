/-
  The document's Long and Same of answers.
-/
import Derived.Test.YtfjcaofmcjhdpaaWoB
namespace Go.Proofs.Ytfjcaofmcjhdpaa
open Go.Proofs.Ytfjcaofmcjhdpaa.It
open Go.RowKit
set_option linter.unusedSimpArgs false
set_option linter.unusedVariables false
set_option maxRecDepth 100000

def longI (x : Im) : Bool := decide (1000 < x.key.size) || decide (1000 < x.value.size)
/-- is an answer longer than statements go through? -/
def An.lg (a : An) : Bool := decide (1000 < a.key.size) || decide (40 < a.items.length) || a.items.any longI
set_option maxHeartbeats 2000000 in
theorem long15_any (a : An) (io : Option Addr) (ic : Nat) (w : World) (hi : GRd EM w io a.items ic) (hk : a.key.size ≤ maxLen) (hs : ∀ x ∈ a.items, x.key.size ≤ maxLen ∧ x.value.size ≤ maxLen) :
    Calls Try.prog 11 #[.agg (a.arr (.slice io a.items.length ic))] w fun e w' => e = .returned (.bool a.lg) ∧ Below w.heap.size w w' := by
  obtain ⟨W, hW⟩ : ∃ W, W = w.alloc (.cells (a.arr (.slice io a.items.length ic)) 31) := ⟨_, rfl⟩
  have HB : Hid (Below w.heap.size w W) := by rw [hW]; exact g_alloc _ _
  have HX : Hid (GBx W w.heap.size (a.cl (.slice io a.items.length ic))) := by rw [hW]; exact GBx.made w (a.cl _) _
  obtain ⟨kind, of_, rk, L, num, yes, key⟩ := a
  unfold An.arr at hW ⊢
  unfold An.cl at HX
  unfold An.lg
  dsimp only at *
  have HI := Hid.mk2 (hi.below HB.out)
  have hlen := hi.len
  have hni : (L.length : Int) ≤ 9223372036854775807 := by omega
  have hm : maxLen = 9223372036854775807 := rfl
  have hki : (key.size : Int) ≤ 9223372036854775807 := by omega
  have x2 := HX.out.c 3 (by simp)
  have x6 := HX.out.c 6 (by simp)
  simp only [List.getElem_cons_zero, List.getElem_cons_succ] at x2 x6
  have HS := Hid.mk2 hs
  clear hi hs hk HX
  obtain ⟨N, hN⟩ : ∃ N, N = L.length := ⟨_, rfl⟩
  have HN := Hid.mk2 hN
  rw [← hN] at hW hni x2 hlen ⊢
  clear hN hm
  by_cases h1 : 1000 < key.size
  · have h1i : (1000 : Int) < (key.size : Int) := by omega
    rw [decide_eq_true h1, Bool.true_or, Bool.true_or]
    clear h1
    go_enter Try.func11, Try.ntmps11
    go_upto_region 1 with (fail)
    rw [← hW]
    clear hW
    go_wp2
    go_ret
    exact ⟨rfl, HB.out⟩
  have h1i : ¬ (1000 : Int) < (key.size : Int) := by omega
  by_cases h2 : 40 < N
  · have h2i : (40 : Int) < (N : Int) := by omega
    rw [decide_eq_true h2, decide_eq_false h1, Bool.false_or, Bool.true_or]
    clear h1 h2
    go_enter Try.func11, Try.ntmps11
    go_upto_region 1 with (fail)
    rw [← hW]
    clear hW
    go_wp2
    go_ret
    exact ⟨rfl, HB.out⟩
  have h2i : ¬ (40 : Int) < (N : Int) := by omega
  rw [decide_eq_false h1, decide_eq_false h2, Bool.false_or, Bool.false_or]
  have HA1 : Hid (∀ k, k < L.length → (∃ h : k < L.length, longI L[k] = true) → L.any longI = true) := fun k hk ⟨h, e⟩ => List.any_eq_true.2 ⟨L[k], List.getElem_mem h, e⟩
  have HA2 : Hid ((∀ j (hj : j < L.length), longI L[j] = false) → L.any longI = false) := by
    intro h
    rw [List.any_eq_false]
    intro x hx
    obtain ⟨j, hj, rfl⟩ := List.getElem_of_mem hx
    rw [h j hj]
    decide
  obtain ⟨R, hR⟩ : ∃ R, R = L.any longI := ⟨_, rfl⟩
  rw [← hR] at HA1 HA2 ⊢
  clear hR h1 h2
  go_enter Try.func11, Try.ntmps11
  go_upto_region 1 with (fail)
  rw [← hW]
  clear hW
  go_wp2
  go_loopw [3] (fun i wr => ∃ k : Nat, k ≤ N ∧ i = .int .i64 k ∧ wr = W ∧ Hid (∀ j (hj : j < L.length), j < k → longI L[j] = false)) (fun i _ => N - (intOf i).toNat)
  case atStart => exact ⟨0, Nat.zero_le _, rfl, rfl, fun _ _ h => absurd h (by omega)⟩
  case round =>
    obtain ⟨k, hk, rfl, rfl, HA⟩ := hrel
    by_cases hkl : k < N
    · have hkl2 : (k : Int) < (N : Int) := by omega
      have hkL : k < L.length := by rw [← HN.out]; exact hkl
      have hne : L ≠ [] := by intro e; rw [e] at hkL; simp at hkL
      obtain ⟨b, off, rfl, hbl, hcs⟩ := HI.out.im hne
      obtain ⟨r0, r1, r2, r3, r4⟩ := hcs k hkL
      have hsz := HS.out L[k] (List.getElem_mem hkL)
      have HLI : Hid (∀ y, y = L[k] → (longI y = true → R = true) ∧ (longI y = false → ∀ j (hj : j < L.length), j < k + 1 → longI L[j] = false)) := by
        intro y hy
        subst hy
        refine ⟨fun h => HA1.out k hkL ⟨hkL, h⟩, fun h j hj hjk => ?_⟩
        by_cases e : j = k
        · subst e; exact h
        · exact HA.out j hj (by omega)
      obtain ⟨y, hye⟩ : ∃ y, y = L[k] := ⟨_, rfl⟩
      have HLI2 := Hid.mk2 (HLI.out y hye)
      rw [← hye] at r0 r1 hsz
      clear HA HA1 HA2 hcs hne hye HLI r2 r3 r4 hkL
      obtain ⟨yk, yv, yf, yt, yu⟩ := y
      dsimp only at r0 r1 hsz
      have hm : maxLen = 9223372036854775807 := rfl
      have hq1 : (yk.size : Int) ≤ 9223372036854775807 := by omega
      have hq2 : (yv.size : Int) ≤ 9223372036854775807 := by omega
      clear hm hsz
      by_cases g1 : 1000 < yk.size
      · have g1i : (1000 : Int) < (yk.size : Int) := by omega
        have HE := Hid.mk2 (HLI2.out.1 (by unfold longI; dsimp only; rw [decide_eq_true g1, Bool.true_or]))
        clear g1 HLI2
        go_wp2
        go_ret
        exact ⟨by rw [HE.out]; rfl, HB.out⟩
      have g1i : ¬ (1000 : Int) < (yk.size : Int) := by omega
      by_cases g2 : 1000 < yv.size
      · have g2i : (1000 : Int) < (yv.size : Int) := by omega
        have HE := Hid.mk2 (HLI2.out.1 (by unfold longI; dsimp only; rw [decide_eq_true g2, Bool.or_true]))
        clear g1 g2 HLI2
        go_wp2
        go_ret
        exact ⟨by rw [HE.out]; rfl, HB.out⟩
      have g2i : ¬ (1000 : Int) < (yv.size : Int) := by omega
      have HE := Hid.mk2 (HLI2.out.2 (by unfold longI; dsimp only; rw [decide_eq_false g1, decide_eq_false g2]; rfl))
      clear g1 g2 HLI2
      go_wp2
      exact ⟨⟨k + 1, by omega, by go_num, by first | rfl | trivial, HE⟩, by simp [intOf]; omega⟩
    · have e := HA2.out (fun j hj => HA.out j hj (by have := HN.out; omega))
      subst e
      have hkl2 : ¬ (k : Int) < (N : Int) := by omega
      clear HA1 HA2 HA
      go_wp2
      go_ret
      exact ⟨rfl, HB.out⟩

set_option maxHeartbeats 2000000 in
theorem same15_any (a : An) (ko : Option Addr) (kc : Nat) (mo : Option Addr) (mc : Nat) (w : World) (h1 : GRd EM w ko a.items kc) (h2 : GRd EM w mo a.items mc) :
    Calls Try.prog 14 #[.agg (a.arr (.slice ko a.items.length kc)), .agg (a.arr (.slice mo a.items.length mc))] w fun e w' => e = .returned (.bool true) ∧ Below w.heap.size w w' := by
  obtain ⟨W, hW⟩ : ∃ W, W = (w.alloc (.cells (a.arr (.slice ko a.items.length kc)) 31)).alloc (.cells (a.arr (.slice mo a.items.length mc)) 31) := ⟨_, rfl⟩
  have HB : Hid (Below w.heap.size w W) := by rw [hW]; exact g_on (g_alloc _ _) (g_alloc _ _)
  have HX : Hid (GBx W w.heap.size (a.cl (.slice ko a.items.length kc))) := by rw [hW]; exact (GBx.made w (a.cl (.slice ko a.items.length kc)) _).alloc _
  have HY : Hid (GBx W (w.heap.size + 1) (a.cl (.slice mo a.items.length mc))) := by
    rw [hW]
    have := GBx.made (w.alloc (.cells (a.arr (.slice ko a.items.length kc)) 31)) (a.cl (.slice mo a.items.length mc)) 31
    rw [show (w.alloc (.cells (a.arr (.slice ko a.items.length kc)) 31)).heap.size = w.heap.size + 1 by simp] at this
    exact this
  have HS := Hid.mk2 (same10_any a.rk a.num a.items ko mo kc mc W (h1.below HB.out) (h2.below HB.out))
  obtain ⟨kind, of_, rk, L, num, yes, key⟩ := a
  unfold An.arr at *
  unfold An.cl at HX HY
  dsimp only at *
  obtain ⟨N, hN⟩ : ∃ N, N = L.length := ⟨_, rfl⟩
  rw [← hN] at HX HY HS hW ⊢
  clear hN h1 h2
  have x0 := HX.out.c 0 (by simp)
  have x1 := HX.out.c 1 (by simp)
  have x2 := HX.out.c 2 (by simp)
  have x3 := HX.out.c 3 (by simp)
  have x4 := HX.out.c 4 (by simp)
  have x5 := HX.out.c 5 (by simp)
  have x6 := HX.out.c 6 (by simp)
  have y0 := HY.out.c 0 (by simp)
  have y1 := HY.out.c 1 (by simp)
  have y2 := HY.out.c 2 (by simp)
  have y3 := HY.out.c 3 (by simp)
  have y4 := HY.out.c 4 (by simp)
  have y5 := HY.out.c 5 (by simp)
  have y6 := HY.out.c 6 (by simp)
  simp only [List.getElem_cons_zero, List.getElem_cons_succ] at x0 x1 x2 x3 x4 x5 x6 y0 y1 y2 y3 y4 y5 y6
  have q1 : (key.toList == key.toList) = true := by simp
  have q2 : (kind == kind) = true := by simp
  have q3 : (of_ == of_) = true := by simp
  have q4 : (yes == yes) = true := by simp
  go_enter Try.func14, Try.ntmps14
  go_upto_region 1 with (fail)
  rw [← hW]
  clear hW
  go_wp2_with (go_at_call 25; refine HS.out.mono ?_; rintro e w1 ⟨rfl, hb⟩; have HB1 := Hid.mk2 (g_on HB.out hb); have z5 := HX.out.below hb; have z6 := HY.out.below hb; have x5 := z5.c 5 (by simp); have x6 := z5.c 6 (by simp); have y5 := z6.c 5 (by simp); have y6 := z6.c 6 (by simp); simp only [List.getElem_cons_zero, List.getElem_cons_succ] at x5 x6 y5 y6; clear hb)
  go_ret
  exact ⟨by first | rfl | simp, HB1.out⟩
end Go.Proofs.Ytfjcaofmcjhdpaa
