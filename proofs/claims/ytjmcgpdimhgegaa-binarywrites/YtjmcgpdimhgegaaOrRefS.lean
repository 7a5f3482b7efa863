/-
  (shaken)
-/
import Derived.Test.YtjmcgpdimhgegaaOrRefM
import Derived.Test.YtjmcgpdimhgegaaRefHash
import Derived.Shelf.SlSortCmp.QuietGrown
namespace Go.Proofs.Ytjmcgpdimhgegaa
open Go.RowKit Go.Sort Go.Shelf
set_option linter.unusedSimpArgs false
set_option linter.unusedVariables false
set_option maxRecDepth 100000

theorem rcheck10_any (c : Cm) (ko : Option Addr) (kc : Nat) (w : World) (h : GRd ES w ko c.keys kc) :
    Calls Try.prog 15 #[.agg (c.arr (.slice ko c.keys.length kc))] w fun e w' => e = .returned (.int .i64 c.chkE) ∧ RowKit.Below w.heap.size w w' := by
  have HK := Hid.mk2 (fun W (hW : RowKit.Below w.heap.size w W) => rmay_any c ko kc W (h.below hW))
  have HM := Hid.mk2 (Cm.At.made c (.slice ko c.keys.length kc) w)
  unfold Cm.chkE
  obtain ⟨M, hM⟩ : ∃ M, M = c.may := ⟨_, rfl⟩
  rw [← hM] at HK ⊢
  clear hM h
  obtain ⟨kind, tenant, keys, value, flags, life, unique, by_⟩ := c
  unfold Cm.arr at *
  dsimp only at *
  obtain ⟨W, hW⟩ : ∃ W, W = w.alloc (.cells #[.int .u8 kind, .int .i64 tenant, .slice ko keys.length kc, .string value, .int .u32 flags, .int .i64 life, .int .u64 unique, .int .u64 by_] 26) := ⟨_, rfl⟩
  have HB : Hid (RowKit.Below w.heap.size w W) := by rw [hW]; exact g_alloc _ _
  rw [← hW] at HM
  obtain ⟨hlt, c0, c1, c2, c3, c4, c5, c6, c7⟩ := HM.out
  dsimp only at c0 c1 c2 c3 c4 c5 c6 c7
  go_enter Try.func15, Try.ntmps15
  go_upto_region 1 with (fail)
  rw [← hW]
  clear hW
  cases M
  · go_wp2_with (go_at_call 25; refine (HK.out _ HB.out).mono ?_; rintro e w1 ⟨rfl, hb1⟩)
    go_ret
    exact ⟨rfl, g_on HB.out hb1⟩
  · go_wp2_with (go_at_call 25; refine (HK.out _ HB.out).mono ?_; rintro e w1 ⟨rfl, hb1⟩)
    go_ret
    exact ⟨rfl, g_on HB.out hb1⟩

/-- longer than statements go through -/
def Cm.lg (c : Cm) : Bool := decide (2000 < c.value.size) || decide (40 < c.keys.length) || c.keys.any fun k => decide (200 < k.size)
theorem rlong_any (c : Cm) (ko : Option Addr) (kc : Nat) (w : World) (h : GRd ES w ko c.keys kc) :
    Calls Try.prog 5 #[.agg (c.arr (.slice ko c.keys.length kc))] w fun e w' => e = .returned (.bool c.lg) ∧ RowKit.Below w.heap.size w w' := by
  have HM := Hid.mk2 (Cm.At.made c (.slice ko c.keys.length kc) w)
  have HR := Hid.mk2 h
  have hlen := h.len
  obtain ⟨G, hG⟩ : ∃ G, G = c.lg := ⟨_, rfl⟩
  rw [← hG]
  unfold Cm.lg at hG
  have HG := Hid.mk2 hG
  clear hG h
  obtain ⟨kind, tenant, keys, value, flags, life, unique, by_⟩ := c
  unfold Cm.arr at *
  dsimp only at *
  obtain ⟨W, hW⟩ : ∃ W, W = w.alloc (.cells #[.int .u8 kind, .int .i64 tenant, .slice ko keys.length kc, .string value, .int .u32 flags, .int .i64 life, .int .u64 unique, .int .u64 by_] 26) := ⟨_, rfl⟩
  have HB : Hid (RowKit.Below w.heap.size w W) := by rw [hW]; exact g_alloc _ _
  rw [← hW] at HM
  obtain ⟨hlt, c0, c1, c2, c3, c4, c5, c6, c7⟩ := HM.out
  dsimp only at c0 c1 c2 c3 c4 c5 c6 c7
  go_enter Try.func5, Try.ntmps5
  go_upto_region 1 with (fail)
  rw [← hW]
  clear hW
  by_cases a1 : 2000 < value.size
  · have e : G = true := by rw [HG.out]; simp [a1]
    subst e
    have a1' : (2000 : Int) < (value.size : Int) := by omega
    go_wp2
    go_ret
    exact ⟨rfl, HB.out⟩
  have a1' : ¬ ((2000 : Int) < (value.size : Int)) := by omega
  by_cases a2 : 40 < keys.length
  · have e : G = true := by rw [HG.out]; simp [a2]
    subst e
    have a2' : (40 : Int) < (keys.length : Int) := by omega
    go_wp2
    go_ret
    exact ⟨rfl, HB.out⟩
  have a2' : ¬ ((40 : Int) < (keys.length : Int)) := by omega
  have HG2 : Hid (G = keys.any fun k => decide (200 < k.size)) := by show G = _; rw [HG.out]; simp [a1, a2]
  clear HG a1 a2
  go_wp2
  go_loopw [4] (fun i wr => ∃ k : Nat, k ≤ keys.length ∧ i = .int .i64 k ∧ wr = W ∧ Hid (∀ j (hj : j < keys.length), j < k → ¬ 200 < keys[j].size)) (fun i _ => keys.length - (RowKit.intOf i).toNat)
  case atStart => exact ⟨0, Nat.zero_le _, rfl, rfl, fun _ _ h => absurd h (by omega)⟩
  case round =>
    obtain ⟨k, hk, rfl, rfl, HA⟩ := hrel
    by_cases hkl : k < keys.length
    · have hkl2 : (k : Int) < (keys.length : Int) := by omega
      have hne : keys ≠ [] := by intro e; rw [e] at hkl; simp at hkl
      obtain ⟨b, off, rfl, hbl, hcs⟩ := (HR.out.below HB.out).str hne
      have r0 := hcs k hkl
      obtain ⟨p, hpe⟩ : ∃ p, p = keys[k] := ⟨_, rfl⟩
      rw [← hpe] at r0
      by_cases hp : 200 < p.size
      · have e : G = true := by
          rw [HG2.out, List.any_eq_true]
          exact ⟨keys[k], List.getElem_mem hkl, by rw [← hpe]; simpa using hp⟩
        subst e
        have hp1 : (200 : Int) < (p.size : Int) := by omega
        clear HG2 HA hcs hne hpe
        go_wp2
        go_ret
        exact ⟨rfl, HB.out⟩
      · have hp1 : ¬ ((200 : Int) < (p.size : Int)) := by omega
        have HA2 : Hid (∀ j (hj : j < keys.length), j < k + 1 → ¬ 200 < keys[j].size) := by
          intro j hj hjk
          by_cases e : j = k
          · subst e; rw [← hpe]; exact hp
          · exact HA.out j hj (by omega)
        clear HA hcs hne hpe hp
        go_wp2
        go_roundw
        case rel => exact ⟨k + 1, by omega, by go_num, by first | rfl | trivial, HA2⟩
        case measure => simp [RowKit.intOf]; omega
    · have e : G = false := by
        rw [HG2.out, List.any_eq_false]
        intro x hx
        obtain ⟨j, hj, rfl⟩ := List.getElem_of_mem hx
        have := HA.out j hj (by omega)
        simpa using this
      subst e
      clear HG2 HA
      go_wp2
      go_ret
      exact ⟨rfl, HB.out⟩

theorem grow_same (w : World) : ∃ q os', w = grow (w.drewN q) os' := ⟨0, #[], by simp [grow, World.drewN_zero]⟩
end Go.Proofs.Ytjmcgpdimhgegaa
