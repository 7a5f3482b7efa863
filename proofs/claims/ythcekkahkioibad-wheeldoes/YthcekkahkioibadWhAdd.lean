/-
  Add: its contract.
-/
import Derived.Test.YthcekkahkioibadWhNew
namespace Go.Proofs.Ythcekkahkioibad
open Go.RowKit
set_option linter.unusedSimpArgs false
set_option linter.unusedVariables false
set_option maxRecDepth 100000

/-- what Add answers -/
def addE (now : Nat) (y : Nm) (u : Int) : Int := if y.ok then (if u ≤ (now : Int) ∨ 1099511627776 < u then 2 else 0) else 8
/-- what Add leaves -/
def addL (L : List NU) (now : Nat) (y : Nm) (u : Int) : List NU := if addE now y u = 0 then (y, u) :: strike y L else L

set_option maxHeartbeats 1000000 in
theorem add_any (w : World) (p now : Nat) (L : List NU) (b0 : Nat) (mb : Nat → Option Nat) (N : Nat) (h : Wh w p now L L b0 mb N) (hN : N < 100000000) (y : Nm) (u : Int) :
    Calls Try.prog 11 #[.pointer (some ⟨p, 0, none⟩), .agg #[.int .i64 y.tenant, .string y.key], .int .i64 u] w fun e w' => e = .returned (.int .i64 (addE now y u)) ∧
      ∃ mb', Wh w' p now (addL L now y u) (addL L now y u) b0 mb' (N + 2) ∧ Kept (Foot p b0 mb) w w' ∧ ∀ k, Foot p b0 mb' k → Foot p b0 mb k ∨ w.heap.size ≤ k := by
  have hbA : Below w.heap.size w (w.alloc (.cells #[.int .i64 y.tenant, .string y.key] 24)) := alb w _
  have hlt := h.lt (.inl rfl)
  obtain ⟨wA, hwA⟩ : ∃ wA, wA = w.alloc (.cells #[.int .i64 y.tenant, .string y.key] 24) := ⟨_, rfl⟩
  rw [← hwA] at hbA
  have hA := h.below hbA
  have x0 : wA.cell? ⟨w.heap.size, 0, none⟩ = some (.int .i64 y.tenant) := by rw [hwA]; simp
  have x1 : wA.cell? ⟨w.heap.size, 1, none⟩ = some (.string y.key) := by rw [hwA]; simp
  have xf : wA.frozen? ⟨w.heap.size, 1, none⟩ = false := by rw [hwA]; simp
  have hsA : wA.heap.size = w.heap.size + 1 := by rw [hwA]; simp
  have HI := Hid.mk2 (isMade_any wA p hA.self)
  have HM := Hid.mk2 (mayBe_any wA y)
  by_cases hy : y.ok
  · have hyd : decide y.ok = true := by simpa using hy
    rw [hyd] at HM
    obtain ⟨wB, hwB⟩ : ∃ wB, wB = wA.alloc (.cells #[.int .i64 y.tenant, .string y.key] 24) := ⟨_, rfl⟩
    have hbB : Below wA.heap.size wA wB := by rw [hwB]; exact alb _ _
    rw [← hwB] at HM
    have hB := hA.below hbB
    have z0 := (hbB.cell (p := ⟨w.heap.size, 0, none⟩) (by show w.heap.size < wA.heap.size; omega)).trans x0
    have z1 := (hbB.cell (p := ⟨w.heap.size, 1, none⟩) (by show w.heap.size < wA.heap.size; omega)).trans x1
    have zf := (hbB.frozen (p := ⟨w.heap.size, 1, none⟩) (by show w.heap.size < wA.heap.size; omega)).trans xf
    have hnc := hB.nowc
    have hb0B : Below w.heap.size w wB := hbA.trans (hbB.mono (by omega))
    by_cases hbad : u ≤ (now : Int) ∨ 1099511627776 < u
    · have e1 : addE now y u = 2 := by unfold addE; rw [if_pos hy, if_pos hbad]
      have e2 : addL L now y u = L := by unfold addL; rw [e1, if_neg (by decide)]
      rw [e1, e2]
      have HW := Hid.mk2 (hB.mono (show N ≤ N + 2 by omega))
      have HB := Hid.mk2 hb0B
      have hcase : (u ≤ (now : Int)) ∨ (decide (u ≤ (now : Int)) = false ∧ ¬ u ≤ (now : Int) ∧ 1099511627776 < u) := by
        by_cases c : u ≤ (now : Int)
        · exact .inl c
        · exact .inr ⟨by simpa using c, c, by omega⟩
      clear hA hB hbA hbB hb0B h hwB hbad e1 e2
      go_enter Try.func11, Try.ntmps11
      go_upto_region 1 with fail
      rw [← hwA]
      clear hwA
      rcases hcase with hc | ⟨hc1, hc2, hc3⟩
      all_goals
        go_wp2_with (first
          | (go_at_call 34; refine HI.out.mono ?_; rintro e w' ⟨rfl, rfl⟩)
          | (go_at_call 35; refine HM.out.mono ?_; rintro e w' ⟨rfl, rfl⟩))
        go_ret
        exact ⟨rfl, mb, HW.out, Kept.below HB.out, fun k hk => .inl hk⟩
    · have e1 : addE now y u = 0 := by unfold addE; rw [if_pos hy, if_neg hbad]
      have e2 : addL L now y u = (y, u) :: strike y L := by unfold addL; rw [if_pos e1]
      rw [e1, e2]
      have h1 : ¬ u ≤ (now : Int) := by omega
      have h2 : ¬ (1099511627776 : Int) < u := by omega
      have hd1 : decide (u ≤ (now : Int)) = false := by simpa using h1
      have hd2 : decide ((1099511627776 : Int) < u) = false := by simpa using h2
      obtain ⟨v, rfl⟩ : ∃ v : Nat, u = (v : Int) := ⟨u.toNat, by omega⟩
      have HLV := Hid.mk2 (leave_any wB p now L b0 mb N hB y hy)
      have HB := Hid.mk2 hb0B
      have hnf : ¬ Foot p b0 mb w.heap.size := fun hf => by have := h.lt hf; omega
      have HNF := Hid.mk2 hnf
      have hsB : wB.heap.size = w.heap.size + 2 := by rw [hwB]; simp [hsA]
      clear hA hB hbA hbB hb0B h hwB hbad e1 e2 hnf
      go_enter Try.func11, Try.ntmps11
      go_upto_region 1 with fail
      rw [← hwA]
      clear hwA
      go_upto_region 8 with (first
        | (go_at_call 34; refine HI.out.mono ?_; rintro e w' ⟨rfl, rfl⟩)
        | (go_at_call 35; refine HM.out.mono ?_; rintro e w' ⟨rfl, rfl⟩)
        | (go_at_call 36; refine HLV.out.mono ?_; rintro e w1 ⟨rfl, mb1, hW1, hK1, hF1⟩))
      have hbl := hK1.block w.heap.size (by omega) HNF.out
      have q0 : w1.cell? ⟨w.heap.size, 0, none⟩ = some (.int .i64 y.tenant) := (World.cell?_of_block hbl).trans z0
      have q1 : w1.cell? ⟨w.heap.size, 1, none⟩ = some (.string y.key) := (World.cell?_of_block hbl).trans z1
      have qf : w1.frozen? ⟨w.heap.size, 1, none⟩ = false := (World.frozen?_of_block hbl).trans zf
      have hks : y.key.size ≤ 281474976710656 := by have := hy.2.2.2; omega
      have HCL := Hid.mk2 (clone_any y.key w1 hks)
      have HF1 : Hid (¬ Foot p b0 mb1 w.heap.size) := fun hf => by
        rcases hF1 _ hf with g | g
        · exact HNF.out g
        · omega
      have hs1 := hK1.size
      go_upto_region 9 with (go_at_call 37; refine HCL.out.mono ?_; rintro e w2 ⟨rfl, hb2⟩; have r0 := (hb2.cell (p := ⟨w.heap.size, 0, none⟩) (by show w.heap.size < w1.heap.size; omega)).trans q0; have r1 := (hb2.cell (p := ⟨w.heap.size, 1, none⟩) (by show w.heap.size < w1.heap.size; omega)).trans q1; have rf := (hb2.frozen (p := ⟨w.heap.size, 1, none⟩) (by show w.heap.size < w1.heap.size; omega)).trans qf)
      have hs2 := hb2.size
      obtain ⟨w3, hw3⟩ : ∃ w3, w3 = w2.setCell ⟨w.heap.size, 1, none⟩ (.string y.key) := ⟨_, rfl⟩
      have hs3 : w3.heap.size = w2.heap.size := by rw [hw3]; simp
      have hW3 : Wh w3 p now (strike y L) (strike y L) b0 mb1 N := by
        rw [hw3]
        exact (hW1.below hb2).kept (Kept.grown (F := fun k => k = w.heap.size) (grown_set w2 w.heap.size 1 (.string y.key)) (fun k hk => by cases hk; exact .inl rfl)) (fun k hk e => HF1.out (e ▸ hk))
      have hK3 : Kept (Foot p b0 mb) w w3 := by
        rw [hw3]
        have k1 := (Kept.below (F := Foot p b0 mb) HB.out).trans hK1 (fun k hk => .inl hk)
        have k2 := k1.trans (Kept.below (F := Foot p b0 mb) hb2) (fun k hk => .inl hk)
        exact k2.trans (Kept.grown (F := fun k => k = w.heap.size) (grown_set w2 w.heap.size 1 (.string y.key)) (fun k hk => by cases hk; exact .inl rfl)) (fun k hk => .inr (by omega))
      have t0 : w3.cell? ⟨w.heap.size, 0, none⟩ = some (.int .i64 y.tenant) := by rw [hw3, World.cell?_setCell_other _ _ _ _ (by simp)]; exact r0
      have t1 : w3.cell? ⟨w.heap.size, 1, none⟩ = some (.string y.key) := by rw [hw3]; exact World.cell?_setCell_same _ _ _ r1
      rw [← hw3]
      clear hw3 r0 r1 rf q0 q1 qf
      have HST := Hid.mk2 (stand_any w3 p now _ _ b0 mb1 N hW3 y hy v (by omega) (by omega) (fun q hq => (mem_strike.1 hq).2) (by omega))
      go_wp2_with (go_at_call 38; refine HST.out.mono ?_; rintro e w4 ⟨rfl, mb4, hW4, hK4, hF4⟩)
      go_ret
      rw [strike_none (fun q hq => (mem_strike.1 hq).2)] at hW4
      have hF13 : ∀ k, Foot p b0 mb1 k → Foot p b0 mb k ∨ w.heap.size ≤ k := fun k hk => (hF1 k hk).imp id (fun g => by omega)
      refine ⟨rfl, mb4, hW4, hK3.trans hK4 hF13, fun k hk => ?_⟩
      rcases hF4 k hk with g | g
      · exact hF13 k g
      · exact .inr (by have := hK3.size; omega)
  · have hyd : decide y.ok = false := by simpa using hy
    rw [hyd] at HM
    have e1 : addE now y u = 8 := by unfold addE; rw [if_neg hy]
    have e2 : addL L now y u = L := by unfold addL; rw [e1, if_neg (by decide)]
    rw [e1, e2]
    have hbB : Below w.heap.size w (wA.alloc (.cells #[.int .i64 y.tenant, .string y.key] 24)) := hbA.alloc (by omega) _
    have HW := Hid.mk2 ((h.below hbB).mono (show N ≤ N + 2 by omega))
    have HB := Hid.mk2 hbB
    clear hA hbA hbB h e1 e2
    go_enter Try.func11, Try.ntmps11
    go_upto_region 1 with fail
    rw [← hwA]
    clear hwA
    go_wp2_with (first
      | (go_at_call 34; refine HI.out.mono ?_; rintro e w' ⟨rfl, rfl⟩)
      | (go_at_call 35; refine HM.out.mono ?_; rintro e w' ⟨rfl, rfl⟩))
    go_ret
    exact ⟨rfl, mb, HW.out, Kept.below HB.out, fun k hk => .inl hk⟩
end Go.Proofs.Ythcekkahkioibad
