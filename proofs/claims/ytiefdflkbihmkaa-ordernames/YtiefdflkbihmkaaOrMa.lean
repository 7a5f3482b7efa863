/-
  Package order: what Merge asks of results: isRefused, the library's IndexFunc and ContainsFunc over results, and deleted.
-/
import Derived.Test.YtiefdflkbihmkaaOrI
import Derived.Test.YtiefdflkbihmkaaOrRefB
import Derived.Shelf.Abstract
namespace Go.Proofs.Ytiefdflkbihmkaa
open Go.RowKit
set_option linter.unusedSimpArgs false
set_option linter.unusedVariables false
set_option maxRecDepth 100000

/-- the first one of which it holds, or -1 -/
def ixG {α : Type} (p : α → Bool) (L : List α) : Int := if L.any p = true then (L.findIdx p : Nat) else -1
theorem ixG_hit {α : Type} {p : α → Bool} {L : List α} {k : Nat} (hk : k < L.length) (h : p L[k] = true) (ha : ∀ j (hj : j < L.length), j < k → p L[j] = false) : ixG p L = (k : Int) := by
  have hm : L.any p = true := List.any_eq_true.2 ⟨L[k], List.getElem_mem hk, h⟩
  unfold ixG
  rw [if_pos hm]
  congr 1
  rw [List.findIdx_eq hk]
  exact ⟨h, fun j hj => ha j (by omega) hj⟩
theorem ixG_miss {α : Type} {p : α → Bool} {L : List α} (ha : ∀ j (hj : j < L.length), p L[j] = false) : ixG p L = -1 := by
  unfold ixG
  rw [if_neg]
  intro hm
  obtain ⟨x, hx, e⟩ := List.any_eq_true.1 hm
  obtain ⟨j, hj, rfl⟩ := List.getElem_of_mem hx
  rw [ha j hj] at e
  cases e
theorem ixG_any {α : Type} (p : α → Bool) (L : List α) : decide (0 ≤ ixG p L) = L.any p := by
  unfold ixG
  by_cases h : L.any p = true
  · rw [if_pos h, h]; simp
  · rw [if_neg h]; simp at h; simp; exact h

def Rr.ref (r : Rr) : Bool := r.kind == 7
theorem isRefused_any (r : Rr) (w : World) : Calls Try.prog 26 #[.agg #[.int .u8 r.kind, .slice r.io r.items.length r.ic, .int .u64 r.number]] w fun e w' => e = .returned (.bool r.ref) ∧ Below w.heap.size w w' := by
  unfold Rr.ref
  go_enter Try.func26, Try.ntmps26
  go_wp2
  go_ret
  exact ⟨rfl, g_alloc _ _⟩
theorem indexR_any (l : List Rr) (ao : Option Addr) (cap : Nat) (w : World) (h : GRd ER w ao l cap) :
    Calls Try.prog 44 #[.slice ao l.length cap, .func (.func 26) #[] #[]] w fun e w' => e = .returned (.int .i64 (ixG Rr.ref l)) ∧ Below w.heap.size w w' := by
  have eg : ∀ args w, (callFunc 26 args).run Try.prog w = .ok (.enter 26 args) w := enters_of Try.func26 (by kernel_rfl) rfl
  have hlen := h.len
  have HR := Hid.mk2 h
  have HH := Hid.mk2 (fun k hk => @ixG_hit Rr Rr.ref l k hk)
  have HM := Hid.mk2 (@ixG_miss Rr Rr.ref l)
  have HF := Hid.mk2 isRefused_any
  obtain ⟨R, hR⟩ : ∃ R, R = ixG Rr.ref l := ⟨_, rfl⟩
  rw [← hR] at HH HM ⊢
  clear hR h
  go_enter Try.func44, Try.ntmps44
  go_wp2
  go_loopw [5, 8] (fun _ i wr => ∃ k : Nat, k ≤ l.length ∧ i = .int .i64 k ∧ Hid (Below w.heap.size w wr) ∧ Hid (∀ j (hj : j < l.length), j < k → l[j].ref = false)) (fun _ i _ => l.length - (intOf i).toNat)
  case atStart => exact ⟨0, Nat.zero_le _, rfl, Below.refl _ _, fun _ _ h => absurd h (by omega)⟩
  case round =>
    obtain ⟨k, hk, rfl, HB, HA⟩ := hrel
    by_cases hkl : k < l.length
    · have hkl2 : (k : Int) < (l.length : Int) := by omega
      have hne : l ≠ [] := by intro e; rw [e] at hkl; simp at hkl
      obtain ⟨b, off, rfl, hbl, hcs⟩ := (HR.out.below HB.out).rs hne
      obtain ⟨r0, r1, r2⟩ := hcs k hkl
      obtain ⟨y, hye⟩ : ∃ y, y = l[k] := ⟨_, rfl⟩
      rw [← hye] at r0 r1 r2
      have HC := Hid.mk2 (HF.out y)
      obtain ⟨Y, hY⟩ : ∃ Y, Y = y.ref := ⟨_, rfl⟩
      rw [← hY] at HC
      cases Y
      · have HA2 : Hid (∀ j (hj : j < l.length), j < k + 1 → l[j].ref = false) := by
          intro j hj hjk
          by_cases e : j = k
          · subst e; rw [← hye, ← hY]
          · exact HA.out j hj (by omega)
        clear HA hcs hne hye hY HF
        obtain ⟨yk, yo, yc, yi, yn⟩ := y
        dsimp only at *
        go_wp2_with (go_at_fn 26; refine (HC.out _).mono ?_; rintro e w1 ⟨rfl, hb1⟩)
        go_roundw
        case rel => exact ⟨k + 1, by omega, by go_num, g_on HB.out hb1, HA2⟩
        case measure => simp [intOf]; omega
      · have e := HH.out k hkl (by rw [← hye, ← hY]) HA.out
        subst e
        clear HH HM HA hcs hne hye hY HF
        obtain ⟨yk, yo, yc, yi, yn⟩ := y
        dsimp only at *
        go_wp2_with (go_at_fn 26; refine (HC.out _).mono ?_; rintro e w1 ⟨rfl, hb1⟩)
        go_ret
        exact ⟨rfl, g_on HB.out hb1⟩
    · have e := HM.out (fun j hj => HA.out j hj (by omega))
      subst e
      have hkl2 : ¬ (k : Int) < (l.length : Int) := by omega
      clear HH HM HA HF
      go_wp2
      go_ret
      exact ⟨rfl, HB.out⟩
theorem containsR_any (l : List Rr) (ao : Option Addr) (cap : Nat) (w : World) (h : GRd ER w ao l cap) :
    Calls Try.prog 25 #[.slice ao l.length cap, .func (.func 26) #[] #[]] w fun e w' => e = .returned (.bool (l.any Rr.ref)) ∧ Below w.heap.size w w' := by
  have HI := Hid.mk2 (indexR_any l ao cap w h)
  rw [← ixG_any]
  obtain ⟨R, hR⟩ : ∃ R, R = ixG Rr.ref l := ⟨_, rfl⟩
  rw [← hR] at HI ⊢
  clear hR h
  go_enter Try.func25, Try.ntmps25
  go_wp2_with (go_at_call 44; refine HI.out.mono ?_; rintro e w1 ⟨rfl, hb1⟩)
  go_ret
  exact ⟨rfl, hb1⟩

/-- the sum of delete's numbers, which comes round -/
def sumR (l : List Rr) : Int := l.foldl (fun a r => (a + r.number) % 18446744073709551616) 0
theorem sumR_step {l : List Rr} {i : Nat} (h : i < l.length) : sumR (l.take (i + 1)) = (sumR (l.take i) + l[i].number) % 18446744073709551616 := by
  unfold sumR
  rw [List.take_add_one, List.getElem?_eq_getElem h, List.foldl_append]
  rfl
set_option maxHeartbeats 1000000 in
theorem deleted_any (l : List Rr) (ao : Option Addr) (cap : Nat) (w : World) (h : GRd ER w ao l cap) :
    Calls Try.prog 29 #[.slice ao l.length cap] w fun e w' => e = .returned (.agg #[.int .u8 (if sumR l = 0 then 2 else 1), .slice none 0 0, .int .u64 (sumR l)]) ∧ Below w.heap.size w w' := by
  have hlen := h.len
  have HR := Hid.mk2 h
  have HST := Hid.mk2 (fun i hi => @sumR_step l i hi)
  obtain ⟨K, hK⟩ : ∃ K : Int, K = if sumR l = 0 then 2 else 1 := ⟨_, rfl⟩
  rw [← hK]
  obtain ⟨SU, hSU⟩ : ∃ SU : Nat → Int, ∀ i, SU i = sumR (l.take i) := ⟨_, fun _ => rfl⟩
  have HS0 : Hid (SU 0 = 0) := by show _ = _; rw [hSU]; rfl
  have hSE : sumR l = SU l.length := by rw [hSU, List.take_length]
  simp only [← hSU] at HST
  obtain ⟨S, hS⟩ : ∃ S, S = sumR l := ⟨_, rfl⟩
  rw [← hS] at hK ⊢
  have HE1 : Hid (SU l.length = S) := by show _ = _; rw [hS, hSE]
  have HK := Hid.mk2 hK
  clear h hK hSU hSE hS
  obtain ⟨W, hW⟩ : ∃ W, W = w.alloc (.cells #[.int .u8 0, .slice none 0 0, .int .u64 0] 36) := ⟨_, rfl⟩
  have HB : Hid (Below w.heap.size w W) := by rw [hW]; exact g_alloc _ _
  have HX : Hid (GBx W w.heap.size [.int .u8 0, .slice none 0 0, .int .u64 0]) := by rw [hW]; exact GBx.made w [.int .u8 0, .slice none 0 0, .int .u64 0] _
  go_enter Try.func29, Try.ntmps29
  go_upto_region 1 with (fail)
  rw [← hW]
  clear hW
  go_wp2
  go_loopw [3, 5, 8] (fun s3 _ i wr => ∃ k : Nat, k ≤ l.length ∧ i = .int .i64 k ∧ s3 = .int .u64 (SU k) ∧ Hid (Below W.heap.size W wr)) (fun _ _ i _ => l.length - (intOf i).toNat)
  case atStart => exact ⟨0, Nat.zero_le _, rfl, by rw [HS0.out], Below.refl _ _⟩
  case round =>
    obtain ⟨k, hk, rfl, rfl, HBL⟩ := hrel
    by_cases hkl : k < l.length
    · have hkl2 : (k : Int) < (l.length : Int) := by omega
      have hne : l ≠ [] := by intro e; rw [e] at hkl; simp at hkl
      obtain ⟨b, off, rfl, hbl, hcs⟩ := ((HR.out.below HB.out).below HBL.out).rs hne
      obtain ⟨r0, r1, r2⟩ := hcs k hkl
      have HE := Hid.mk2 (HST.out k hkl)
      obtain ⟨y, hye⟩ : ∃ y, y = l[k] := ⟨_, rfl⟩
      rw [← hye] at r0 r1 r2 HE
      clear hcs hne hye
      obtain ⟨yk, yo, yc, yi, yn⟩ := y
      dsimp only at *
      go_wp2
      go_roundw
      case rel => exact ⟨k + 1, by omega, by go_num, by rw [HE.out]; rfl, g_on HBL.out (g_alloc _ _)⟩
      case measure => simp [intOf]; omega
    · have ek : k = l.length := by omega
      have hkl2 : ¬ (k : Int) < (l.length : Int) := by omega
      have hSk : SU k = S := by rw [ek]; exact HE1.out
      rw [hSk]
      have HQ := Hid.mk2 (HX.out.below HBL.out)
      have HB1 := Hid.mk2 (g_on HB.out HBL.out)
      have y0 := HQ.out.c 0 (by simp)
      have y1 := HQ.out.c 1 (by simp)
      have y2 := HQ.out.c 2 (by simp)
      simp only [List.getElem_cons_zero, List.getElem_cons_succ] at y0 y1 y2
      have f0 := HQ.out.f 0
      have f1 := HQ.out.f 1
      have f2 := HQ.out.f 2
      clear hSk ek HX HST HS0 HE1
      by_cases h0 : S = 0
      · have hK : K = 2 := by rw [HK.out, if_pos h0]
        subst hK h0
        have HZ : Hid (GBx (((wr.setCell ⟨w.heap.size, 0, none⟩ (.int .u8 2)).setCell ⟨w.heap.size, 1, none⟩ (.slice none 0 0)).setCell ⟨w.heap.size, 2, none⟩ (.int .u64 0)) w.heap.size [.int .u8 2, .slice none 0 0, .int .u64 0]) := ((HQ.out.set 0 (.int .u8 2) (by simp)).set 1 (.slice none 0 0) (by simp)).set 2 (.int .u64 0) (by simp)
        have HBZ := Hid.mk2 (((HB1.out.setCell (p := ⟨w.heap.size, 0, none⟩) (Nat.le_refl _) (.int .u8 2)).setCell (p := ⟨w.heap.size, 1, none⟩) (Nat.le_refl _) (.slice none 0 0)).setCell (p := ⟨w.heap.size, 2, none⟩) (Nat.le_refl _) (.int .u64 0))
        have z0 := HZ.out.c 0 (by simp)
        have z1 := HZ.out.c 1 (by simp)
        have z2 := HZ.out.c 2 (by simp)
        simp only [List.getElem_cons_zero, List.getElem_cons_succ] at z0 z1 z2
        have Z0 := Hid.mk2 z0
        have Z1 := Hid.mk2 z1
        have Z2 := Hid.mk2 z2
        clear z0 z1 z2 HK
        go_wp2
        try simp only [Exit.inBlock, Exit.then]
        refine bodyPost_ret (v := .agg #[.int .u8 2, .slice none 0 0, .int .u64 0]) (by simp [results, Try.results29, go_sem, Z0.out, Z1.out, Z2.out]) rfl ⟨rfl, HBZ.out⟩
      · have hK : K = 1 := by rw [HK.out, if_neg h0]
        subst hK
        have h0' := beq_f h0
        have HZ : Hid (GBx (((wr.setCell ⟨w.heap.size, 0, none⟩ (.int .u8 1)).setCell ⟨w.heap.size, 1, none⟩ (.slice none 0 0)).setCell ⟨w.heap.size, 2, none⟩ (.int .u64 S)) w.heap.size [.int .u8 1, .slice none 0 0, .int .u64 S]) := ((HQ.out.set 0 (.int .u8 1) (by simp)).set 1 (.slice none 0 0) (by simp)).set 2 (.int .u64 S) (by simp)
        have HBZ := Hid.mk2 (((HB1.out.setCell (p := ⟨w.heap.size, 0, none⟩) (Nat.le_refl _) (.int .u8 1)).setCell (p := ⟨w.heap.size, 1, none⟩) (Nat.le_refl _) (.slice none 0 0)).setCell (p := ⟨w.heap.size, 2, none⟩) (Nat.le_refl _) (.int .u64 S))
        have z0 := HZ.out.c 0 (by simp)
        have z1 := HZ.out.c 1 (by simp)
        have z2 := HZ.out.c 2 (by simp)
        simp only [List.getElem_cons_zero, List.getElem_cons_succ] at z0 z1 z2
        have Z0 := Hid.mk2 z0
        have Z1 := Hid.mk2 z1
        have Z2 := Hid.mk2 z2
        clear z0 z1 z2 HK h0
        go_wp2
        try simp only [Exit.inBlock, Exit.then]
        refine bodyPost_ret (v := .agg #[.int .u8 1, .slice none 0 0, .int .u64 S]) (by simp [results, Try.results29, go_sem, Z0.out, Z1.out, Z2.out]) rfl ⟨rfl, HBZ.out⟩
end Go.Proofs.Ytiefdflkbihmkaa
