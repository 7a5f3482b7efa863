/-
  (shaken)
-/
import Derived.Test.YtldnkminhppngaaDoorOrRefV
namespace Go.Proofs.YtldnkminhppngaaDoor
open Go.RowKit
set_option linter.unusedSimpArgs false
set_option linter.unusedVariables false
set_option maxRecDepth 100000

set_option maxHeartbeats 4000000 in
theorem samec_w (c : Cm) (ka kb : Option Addr) (ca cb : Nat) (w : World) (ha : GRd ES w ka c.keys ca) (hb : GRd ES w kb c.keys cb) :
    Calls Tryd.prog 21 #[.agg (c.arr (.slice ka c.keys.length ca)), .agg (c.arr (.slice kb c.keys.length cb))] w fun e w' => e = .returned (.bool true) ∧ ∃ n, w' = ((w.alloc (.cells (c.arr (.slice ka c.keys.length ca)) 26)).alloc (.cells (c.arr (.slice kb c.keys.length cb)) 26)).drewN n := by
  obtain ⟨W, hW⟩ : ∃ W, W = (w.alloc (.cells (c.arr (.slice ka c.keys.length ca)) 26)).alloc (.cells (c.arr (.slice kb c.keys.length cb)) 26) := ⟨_, rfl⟩
  have HB : Hid (Below w.heap.size w W) := by rw [hW]; exact g_on (g_alloc _ _) (g_alloc _ _)
  rw [← hW]
  have HX : Hid (GBx W w.heap.size (c.cl (.slice ka c.keys.length ca))) := by rw [hW]; exact (GBx.made w (c.cl (.slice ka c.keys.length ca)) _).alloc _
  have HY : Hid (GBx W (w.heap.size + 1) (c.cl (.slice kb c.keys.length cb))) := by
    rw [hW]
    have := GBx.made (w.alloc (.cells (c.arr (.slice ka c.keys.length ca)) 26)) (c.cl (.slice kb c.keys.length cb)) 26
    rw [show (w.alloc (.cells (c.arr (.slice ka c.keys.length ca)) 26)).heap.size = w.heap.size + 1 by simp] at this
    exact this
  have HA := Hid.mk2 (ha.below HB.out)
  have HC := Hid.mk2 (hb.below HB.out)
  have hlen := ha.len
  clear ha hb
  obtain ⟨kind, tenant, keys, value, flags, life, unique, by_⟩ := c
  unfold Cm.arr at *
  unfold Cm.cl at HX HY
  dsimp only at *
  have x0 := HX.out.c 0 (by simp)
  have x1 := HX.out.c 1 (by simp)
  have x2 := HX.out.c 2 (by simp)
  have x3 := HX.out.c 3 (by simp)
  have x4 := HX.out.c 4 (by simp)
  have x5 := HX.out.c 5 (by simp)
  have x6 := HX.out.c 6 (by simp)
  have x7 := HX.out.c 7 (by simp)
  have y0 := HY.out.c 0 (by simp)
  have y1 := HY.out.c 1 (by simp)
  have y2 := HY.out.c 2 (by simp)
  have y3 := HY.out.c 3 (by simp)
  have y4 := HY.out.c 4 (by simp)
  have y5 := HY.out.c 5 (by simp)
  have y6 := HY.out.c 6 (by simp)
  have y7 := HY.out.c 7 (by simp)
  simp only [List.getElem_cons_zero, List.getElem_cons_succ] at x0 x1 x2 x3 x4 x5 x6 x7 y0 y1 y2 y3 y4 y5 y6 y7
  have hlt := HX.out.lt
  have hlt1 := HY.out.lt
  clear HX HY
  go_enter Tryd.func21, Tryd.ntmps21
  go_upto_region 1 with (fail)
  rw [← hW]
  clear hW
  go_wp2
  go_loopw [5] (fun i wr => ∃ k n : Nat, k ≤ keys.length ∧ i = .int .i64 k ∧ wr = W.drewN n) (fun i _ => keys.length - (intOf i).toNat)
  case atStart => exact ⟨0, 0, Nat.zero_le _, rfl, rfl⟩
  case round =>
    obtain ⟨k, n, hk, rfl, rfl⟩ := hrel
    by_cases hkl : k < keys.length
    · have hkl2 : (k : Int) < (keys.length : Int) := by omega
      have hne : keys ≠ [] := by intro e; rw [e] at hkl; simp at hkl
      obtain ⟨b, off, rfl, hbl, hcs⟩ := HA.out.str hne
      obtain ⟨b', off', rfl, hbl', hcs'⟩ := HC.out.str hne
      have r0 := hcs k hkl
      have r1 := hcs' k hkl
      obtain ⟨p, hpe⟩ : ∃ p, p = keys[k] := ⟨_, rfl⟩
      rw [← hpe] at r0 r1
      clear hcs hcs' hne hpe
      go_wp2
      go_quiet (fail)
      go_wp2
      go_roundw
      case rel => exact ⟨k + 1, _, by omega, by go_num, by first | rfl | exact World.drewN_drewN _ _ _⟩
      case measure => simp [intOf]; omega
    · have hkl2 : ¬ ((k : Int) < (keys.length : Int)) := by omega
      go_wp2
      go_ret
      exact ⟨rfl, n, rfl⟩
theorem samec_any (c : Cm) (ka kb : Option Addr) (ca cb : Nat) (w : World) (ha : GRd ES w ka c.keys ca) (hb : GRd ES w kb c.keys cb) :
    Calls Tryd.prog 21 #[.agg (c.arr (.slice ka c.keys.length ca)), .agg (c.arr (.slice kb c.keys.length cb))] w fun e w' => e = .returned (.bool true) ∧ Below w.heap.size w w' := by
  refine (samec_w c ka kb ca cb w ha hb).mono ?_
  rintro e w' ⟨rfl, n, rfl⟩
  exact ⟨rfl, g_quiet_on n (g_on (g_alloc _ _) (g_alloc _ _))⟩
/-- .. in the form of a region that draws -/
theorem samec_g (c : Cm) (ka kb : Option Addr) (ca cb : Nat) (w : World) (ha : GRd ES w ka c.keys ca) (hb : GRd ES w kb c.keys cb) :
    Calls Tryd.prog 21 #[.agg (c.arr (.slice ka c.keys.length ca)), .agg (c.arr (.slice kb c.keys.length cb))] w fun e w' => e = .returned (.bool true) ∧ ∃ q os', w' = Sort.grow (w.drewN q) os' := by
  refine (samec_w c ka kb ca cb w ha hb).mono ?_
  rintro e w' ⟨rfl, n, rfl⟩
  refine ⟨rfl, n, #[.cells (c.arr (.slice ka c.keys.length ca)) 26] ++ #[.cells (c.arr (.slice kb c.keys.length cb)) 26], ?_⟩
  rw [Sort.alloc_eq_grow, Sort.alloc_eq_grow, Sort.grow_grow]
  rfl
end Go.Proofs.YtldnkminhppngaaDoor
