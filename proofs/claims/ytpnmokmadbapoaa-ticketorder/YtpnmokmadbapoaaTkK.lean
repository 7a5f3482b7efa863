/-
  Package ticket: contracts of isShards, Check.
-/
import Derived.Test.YtpnmokmadbapoaaTkJ
namespace Go.Proofs.Ytpnmokmadbapoaa
open Go.RowKit
set_option linter.unusedSimpArgs false
set_option linter.unusedVariables false
set_option maxRecDepth 100000

theorem isShards_any (n : Int) (w : World) :
    Calls Try.prog 64 #[.int .i64 n] w fun e w' => e = .returned (.bool (decide (1 ≤ n ∧ n ≤ 4))) ∧ w' = w := by
  by_cases h1 : 1 ≤ n
  · by_cases h2 : n ≤ 4
    · rw [decide_eq_true ⟨h1, h2⟩]
      go_enter Try.func64, Try.ntmps64
      go_wp2
      go_ret
      exact ⟨by simp [h2], rfl⟩
    · rw [decide_eq_false (fun h => h2 h.2)]
      go_enter Try.func64, Try.ntmps64
      go_wp2
      go_ret
      exact ⟨by first | (simp; done) | (simp; omega), rfl⟩
  · rw [decide_eq_false (fun h => h1 h.1)]
    go_enter Try.func64, Try.ntmps64
    go_wp2
    go_ret
    exact ⟨rfl, rfl⟩
/-- P12.1 -/
noncomputable def ckQ (q : List (List Tk)) (next : Int) : Int := if tf (QOk q next) = true then 0 else 8
theorem ckQ_ok {q : List (List Tk)} {next : Int} (h : QOk q next) : ckQ q next = 0 := by unfold ckQ; rw [if_pos (tf_true h)]
theorem ckQ_bad {q : List (List Tk)} {next : Int} (h : ¬ QOk q next) : ckQ q next = 8 := by unfold ckQ; rw [if_neg (by rw [tf_false h]; decide)]
theorem ckQ_iff {q : List (List Tk)} {next : Int} : ckQ q next = 0 ↔ QOk q next := by
  constructor
  · intro h
    by_cases g : QOk q next
    · exact g
    · rw [ckQ_bad g] at h; cases h
  · exact ckQ_ok
theorem dat_len (B : List Bx) : (dat B).length = B.length := by simp [dat]

set_option maxHeartbeats 2000000 in
theorem tcheck_any (B : List Bx) (ao : Option Addr) (cap m : Nat) (hm : m = B.length) (next : Int) (w : World) (h : Qr w ao B cap) :
    Calls Try.prog 43 #[.agg #[.int .i64 next, .slice ao m cap]] w fun e w' => e = .returned (.int .i64 (ckQ (dat B) next)) ∧ Below w.heap.size w w' := by
  have mixed : Try.prog.follows .mixedOrders = true := by kernel_rfl
  subst hm
  have hlen := h.row.len
  obtain ⟨W, hW⟩ : ∃ W, W = w.alloc (.cells #[.int .i64 next, .slice ao B.length cap] 62) := ⟨_, rfl⟩
  have HB : Hid (Below w.heap.size w W) := by rw [hW]; exact g_alloc _ _
  have HX : Hid (GBx W w.heap.size [.int .i64 next, .slice ao B.length cap]) := by rw [hW]; exact GBx.made w [.int .i64 next, .slice ao B.length cap] _
  have HR := Hid.mk2 (h.below HB.out)
  have HSH := Hid.mk2 (isShards_any B.length W)
  have HOK := Hid.mk2 (@ckQ_ok (dat B) next)
  have HBD := Hid.mk2 (@ckQ_bad (dat B) next)
  obtain ⟨R, hR⟩ : ∃ R, R = ckQ (dat B) next := ⟨_, rfl⟩
  rw [← hR] at HOK HBD ⊢
  have x0 := HX.out.c 0 (by simp)
  have x1 := HX.out.c 1 (by simp)
  have xlt := HX.out.lt
  simp only [List.getElem_cons_zero, List.getElem_cons_succ] at x0 x1
  clear h hR HX
  by_cases g1 : 1 ≤ B.length ∧ B.length ≤ 4
  case neg =>
    rw [decide_eq_false (by omega)] at HSH
    have eR := HBD.out (fun o => g1 (by have := o.n0; have := o.n1; rw [dat_len] at *; omega))
    subst eR
    clear HOK HBD g1
    go_enter Try.func43, Try.ntmps43
    go_upto_region 1 with (fail)
    rw [← hW]
    clear hW
    go_wp2_with (go_at_call 64; refine HSH.out.mono ?_; rintro e w1 ⟨rfl, rfl⟩)
    go_ret
    exact ⟨rfl, HB.out⟩
  rw [decide_eq_true (by omega)] at HSH
  by_cases g2 : next < 0
  · have eR := HBD.out (fun o => by have := o.x0; omega)
    subst eR
    clear HOK HBD g1
    go_enter Try.func43, Try.ntmps43
    go_upto_region 1 with (fail)
    rw [← hW]
    clear hW
    go_wp2_with (go_at_call 64; refine HSH.out.mono ?_; rintro e w1 ⟨rfl, rfl⟩)
    go_ret
    exact ⟨rfl, HB.out⟩
  by_cases g3 : 1099511627776 < next
  · have eR := HBD.out (fun o => by have := o.x1; omega)
    subst eR
    clear HOK HBD g1
    go_enter Try.func43, Try.ntmps43
    go_upto_region 1 with (fail)
    rw [← hW]
    clear hW
    go_wp2_with (go_at_call 64; refine HSH.out.mono ?_; rintro e w1 ⟨rfl, rfl⟩)
    go_ret
    exact ⟨rfl, HB.out⟩
  obtain ⟨hn0, hn1⟩ := g1
  have HQ : Hid ((∀ l ∈ dat B, BxOk next l) → FitQ (bxs (dat B)) B.length → R = 0) := fun h1 h2 => HOK.out ⟨by rw [dat_len]; exact hn0, by rw [dat_len]; exact hn1, by omega, by omega, h1, by rw [dat_len]; exact h2⟩
  have HQ2 : Hid (¬ FitQ (bxs (dat B)) B.length → R = 8) := fun h2 => HBD.out (fun o => h2 (by have := o.fit; rw [dat_len] at this; exact this))
  have HQ3 : Hid (∀ k (hk : k < B.length), ¬ BxOk next (B[k].l.map Td.t) → R = 8) := fun k hk h2 => HBD.out (fun o => h2 (o.box _ (List.mem_map.2 ⟨B[k], List.getElem_mem hk, rfl⟩)))
  clear HOK HBD
  go_enter Try.func43, Try.ntmps43
  go_upto_region 1 with (fail)
  rw [← hW]
  clear hW
  go_wp2_with (go_at_call 64; refine HSH.out.mono ?_; rintro e w1 ⟨rfl, rfl⟩)
  go_loopw [3, 22] (fun _ i wr => ∃ k : Nat, k ≤ B.length ∧ i = .int .i64 k ∧ Hid (Below w1.heap.size w1 wr) ∧ Hid (∀ j (hj : j < B.length), j < k → BxOk next (B[j].l.map Td.t))) (fun _ i _ => B.length - (intOf i).toNat)
  case atStart => exact ⟨0, Nat.zero_le _, rfl, Below.refl _ _, fun _ _ h => absurd h (by omega)⟩
  case round =>
    obtain ⟨k, hkn, rfl, HBW, HA⟩ := hrel
    by_cases hkl : k < B.length
    · have hkl2 : (k : Int) < (B.length : Int) := by omega
      have hne : B ≠ [] := by intro e; rw [e] at hkl; simp at hkl
      have HM := Hid.mk2 (fun p : Beh wr => boxMayBe_any B[k].l B[k].ao B[k].cap _ rfl next p.v ((HR.out.box B[k] (List.getElem_mem hkl)).below (g_on HBW.out p.ok)) (fun d hd => (HR.out.keys B[k] (List.getElem_mem hkl) d hd).below (g_on HBW.out p.ok)))
      have HQK := Hid.mk2 (HQ3.out k hkl)
      have HAK : Hid (BxOk next (B[k].l.map Td.t) → ∀ j (hj : j < B.length), j < k + 1 → BxOk next (B[j].l.map Td.t)) := by
        intro e j hj hjk
        by_cases ej : j = k
        · subst ej; exact e
        · exact HA.out j hj (by omega)
      obtain ⟨b, off, rfl, hbl, hcs⟩ := HR.out.row.bx hne
      have rb := hcs k hkl
      have y0 : ∀ p : Beh wr, _ := cell_beh2 HBW.out (a := ⟨w.heap.size, 0, none⟩) xlt x0
      have y1 : ∀ p : Beh wr, _ := cell_beh2 HBW.out (a := ⟨w.heap.size, 1, none⟩) xlt x1
      have yb : ∀ p : Beh wr, _ := cell_beh2 HBW.out (a := ⟨b, off + k, none⟩) hbl rb
      obtain ⟨bx, hbx⟩ : ∃ bx, bx = B[k] := ⟨_, rfl⟩
      rw [← hbx] at yb HM HQK HAK
      clear hcs hne hbx rb x0 x1 HA
      obtain ⟨bl, bao, bcap⟩ := bx
      dsimp only at yb HM
      by_cases hbo : BxOk next (bl.map Td.t)
      · have HA2 := Hid.mk2 (HAK.out hbo)
        rw [tf_true hbo] at HM
        clear HAK HQK
        go_wp2
        refine wp_region_quiet_beh (by assumption) (by kernel_rfl) ?_
        repeat (first | go_big_quiet_skip | (quiet_step (first | (go_at_call 76; exact Calls.beh_of (HM.out _)))))
        refine wpQuiet_nil ?_
        intro w5 hw'
        obtain ⟨⟨wq, hq⟩, hw''⟩ := hw'
        subst hw''
        clear y0 y1 yb HM
        go_wp2
        go_roundw
        case rel => exact ⟨k + 1, by omega, by go_num, g_on HBW.out hq, HA2⟩
        case measure => simp [intOf]; omega
      · have eR := HQK.out hbo
        subst eR
        rw [tf_false hbo] at HM
        clear HAK HQK HQ HQ2 HQ3
        go_wp2
        refine wp_region_quiet_beh (by assumption) (by kernel_rfl) ?_
        repeat (first | go_big_quiet_skip | (quiet_step (first | (go_at_call 76; exact Calls.beh_of (HM.out _)))))
        refine wpQuiet_nil ?_
        intro w5 hw'
        obtain ⟨⟨wq, hq⟩, hw''⟩ := hw'
        subst hw''
        clear y0 y1 yb HM
        go_wp2
        go_ret
        exact ⟨rfl, g_on HB.out (g_on HBW.out hq)⟩
    · have hkl2 : ¬ ((k : Int) < (B.length : Int)) := by omega
      have HALL : Hid (∀ l ∈ dat B, BxOk next l) := by
        intro l hl
        obtain ⟨b, hb, rfl⟩ := List.mem_map.1 hl
        obtain ⟨j, hj, rfl⟩ := List.getElem_of_mem hb
        exact HA.out j hj (by omega)
      have HAS := Hid.mk2 (allStand_any B ao cap _ rfl hn0 hn1 next HALL.out wr (HR.out.below HBW.out))
      have y0 := (HBW.out.cell (p := ⟨w.heap.size, 0, none⟩) xlt).trans x0
      have y1 := (HBW.out.cell (p := ⟨w.heap.size, 1, none⟩) xlt).trans x1
      by_cases hf : FitQ (bxs (dat B)) B.length
      · have eR := HQ.out HALL.out hf
        subst eR
        rw [tf_true hf] at HAS
        clear HQ HQ2 HQ3 HA x0 x1
        go_wp2_with (go_at_call 77; refine HAS.out.mono ?_; rintro e w6 ⟨rfl, hb6⟩)
        go_ret
        exact ⟨rfl, g_on HB.out (g_on HBW.out hb6)⟩
      · have eR := HQ2.out hf
        subst eR
        rw [tf_false hf] at HAS
        clear HQ HQ2 HQ3 HA x0 x1
        go_wp2_with (go_at_call 77; refine HAS.out.mono ?_; rintro e w6 ⟨rfl, hb6⟩)
        go_ret
        exact ⟨rfl, g_on HB.out (g_on HBW.out hb6)⟩
end Go.Proofs.Ytpnmokmadbapoaa
