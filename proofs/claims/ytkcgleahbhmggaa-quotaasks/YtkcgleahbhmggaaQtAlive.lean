/-
  same: two lists of numbers; alive: a quota that is set.
-/
import Derived.Test.YtkcgleahbhmggaaQtRoom
namespace Go.Proofs.Ytkcgleahbhmggaa
open Go.RowKit
set_option linter.unusedSimpArgs false
set_option linter.unusedVariables false
set_option maxRecDepth 100000

theorem below_drew0 {B : Nat} {a b : World} (h : Below B a.drew b) : Below B a b := ((Below.refl _ _).drew).trans h
theorem il_two (w : World) (x y : Int) : Il (w.alloc (.cells #[.int .i64 x, .int .i64 y] 3)) (some ⟨w.heap.size, 0, none⟩) [x, y] 2 := by
  refine ⟨by simp, by omega, (by intro e; cases e), .inr ⟨w.heap.size, 0, rfl, by simp, fun j hj => ?_⟩⟩
  have : j = 0 ∨ j = 1 := by simp at hj; omega
  rcases this with rfl | rfl <;> simp
theorem same8_any (w : World) (ao : Option Addr) (a : List Int) (ac : Nat) (ha : Il w ao a ac) (bo : Option Addr) (b : List Int) (bc : Nat) (hb : Il w bo b bc) (hla : a.length ≤ 1000) :
    Calls Try.prog 48 #[.slice ao a.length ac, .slice bo b.length bc] w fun e w' => e = .returned (.bool (decide (a = b))) ∧ ∃ n, w' = w.drewN n := by
  have hlb := hb.len
  have HA := Hid.mk2 ha
  have HB := Hid.mk2 hb
  clear ha hb
  obtain ⟨D, hD⟩ : ∃ D, D = decide (a = b) := ⟨_, rfl⟩
  rw [← hD]
  have HD := Hid.mk2 hD
  clear hD
  obtain ⟨M, hM⟩ : ∃ M, M = b.length := ⟨_, rfl⟩
  rw [← hM] at hlb ⊢
  by_cases hl : a.length = M
  · have HL := Hid.mk2 (hl.trans hM)
    obtain ⟨N, hN⟩ : ∃ N, N = a.length := ⟨_, rfl⟩
    have HN := Hid.mk2 hN
    rw [← hN] at hl hla ⊢
    clear hN hM
    subst hl
    go_enter Try.func48, Try.ntmps48
    go_wp2
    go_loopw [5] (fun i wr => ∃ k n : Nat, k ≤ N ∧ i = .int .i64 k ∧ wr = w.drewN n ∧ Hid (∀ j, j < k → a[j]? = b[j]?)) (fun i _ => N - (intOf i).toNat)
    case atStart => exact ⟨0, 0, Nat.zero_le _, rfl, rfl, fun _ h => absurd h (by omega)⟩
    case round =>
      obtain ⟨k, n, hk, rfl, rfl, HK⟩ := hrel
      by_cases hlt : k < N
      · have hlt2 : (k : Int) < (N : Int) := by omega
        have g1 : k < a.length := by rw [← HN.out]; exact hlt
        have g2 : k < b.length := by rw [← HL.out]; exact g1
        obtain ⟨b1, o1, rfl, hb1, hc1⟩ := HA.out.lies (by intro e; rw [e] at g1; simp at g1)
        obtain ⟨b2, o2, rfl, hb2, hc2⟩ := HB.out.lies (by intro e; rw [e] at g2; simp at g2)
        have r1 := hc1 k g1
        have r2 := hc2 k g2
        obtain ⟨x, hx⟩ : ∃ x, x = a[k] := ⟨_, rfl⟩
        obtain ⟨y, hy⟩ : ∃ y, y = b[k] := ⟨_, rfl⟩
        rw [← hx] at r1
        rw [← hy] at r2
        have HX : Hid (a[k]? = some x) := by show _ = _; rw [List.getElem?_eq_getElem g1, hx]
        have HY : Hid (b[k]? = some y) := by show _ = _; rw [List.getElem?_eq_getElem g2, hy]
        clear hx hy hc1 hc2 g1 g2
        by_cases e : x = y
        · subst e
          have e' : (x != x) = false := by simp
          go_wp2
          go_quiet (fail)
          go_wp2
          go_roundw
          case rel => exact ⟨k + 1, _, by omega, by go_num, rfl, fun j h => by
            by_cases e : j = k
            · subst e; rw [HX.out, HY.out]
            · exact HK.out j (by omega)⟩
          case measure => simp [intOf]; omega
        · have e' : (x != y) = true := by simp [e]
          have hD : D = false := by
            rw [HD.out, decide_eq_false_iff_not]
            intro h
            have h1 := HX.out
            rw [h, HY.out] at h1
            exact e (Option.some.inj h1).symm
          subst hD
          clear e
          go_wp2
          go_quiet (fail)
          go_wp2
          go_ret
          exact ⟨rfl, _, World.drewN_drewN _ _ _⟩
      · have hlt2 : decide ((k : Int) < (N : Int)) = false := by rw [decide_eq_false_iff_not]; omega
        have hD : D = true := by
          rw [HD.out, decide_eq_true_eq]
          refine List.ext_getElem? fun j => ?_
          have h1 := HN.out
          have h2 := HL.out
          by_cases hj : j < k
          · exact HK.out j hj
          · rw [List.getElem?_eq_none (by omega), List.getElem?_eq_none (by omega)]
        subst hD
        go_wp2
        go_ret
        exact ⟨rfl, n, rfl⟩
  · have hl' : ((a.length : Int) != (M : Int)) = true := by simp; omega
    have hD : D = false := by rw [HD.out, decide_eq_false_iff_not]; intro e; exact hl (by rw [e, hM])
    subst hD
    clear hl hM
    go_enter Try.func48, Try.ntmps48
    go_wp2
    go_ret
    exact ⟨rfl, 0, rfl⟩
theorem same8_b (w : World) (ao : Option Addr) (a : List Int) (ac : Nat) (ha : Il w ao a ac) (bo : Option Addr) (b : List Int) (bc : Nat) (hb : Il w bo b bc) (hla : a.length ≤ 1000) :
    Calls Try.prog 48 #[.slice ao a.length ac, .slice bo b.length bc] w fun e w' => e = .returned (.bool (decide (a = b))) ∧ Below w.heap.size w w' := by
  refine (same8_any w ao a ac ha bo b bc hb hla).mono ?_
  rintro e w' ⟨rfl, n, rfl⟩
  exact ⟨rfl, below_drewN (Below.refl _ _) n⟩
theorem rsame8_any (w : World) (ao : Option Addr) (a : List Int) (ac : Nat) (ha : Il w ao a ac) (bo : Option Addr) (b : List Int) (bc : Nat) (hb : Il w bo b bc) (hla : a.length ≤ 1000) :
    Calls Try.prog 23 #[.slice ao a.length ac, .slice bo b.length bc] w fun e w' => e = .returned (.bool (decide (a = b))) ∧ ∃ n, w' = w.drewN n := by
  have hlb := hb.len
  have HA := Hid.mk2 ha
  have HB := Hid.mk2 hb
  clear ha hb
  obtain ⟨D, hD⟩ : ∃ D, D = decide (a = b) := ⟨_, rfl⟩
  rw [← hD]
  have HD := Hid.mk2 hD
  clear hD
  obtain ⟨M, hM⟩ : ∃ M, M = b.length := ⟨_, rfl⟩
  rw [← hM] at hlb ⊢
  by_cases hl : a.length = M
  · have HL := Hid.mk2 (hl.trans hM)
    obtain ⟨N, hN⟩ : ∃ N, N = a.length := ⟨_, rfl⟩
    have HN := Hid.mk2 hN
    rw [← hN] at hl hla ⊢
    clear hN hM
    subst hl
    go_enter Try.func23, Try.ntmps23
    go_wp2
    go_loopw [5] (fun i wr => ∃ k n : Nat, k ≤ N ∧ i = .int .i64 k ∧ wr = w.drewN n ∧ Hid (∀ j, j < k → a[j]? = b[j]?)) (fun i _ => N - (intOf i).toNat)
    case atStart => exact ⟨0, 0, Nat.zero_le _, rfl, rfl, fun _ h => absurd h (by omega)⟩
    case round =>
      obtain ⟨k, n, hk, rfl, rfl, HK⟩ := hrel
      by_cases hlt : k < N
      · have hlt2 : (k : Int) < (N : Int) := by omega
        have g1 : k < a.length := by rw [← HN.out]; exact hlt
        have g2 : k < b.length := by rw [← HL.out]; exact g1
        obtain ⟨b1, o1, rfl, hb1, hc1⟩ := HA.out.lies (by intro e; rw [e] at g1; simp at g1)
        obtain ⟨b2, o2, rfl, hb2, hc2⟩ := HB.out.lies (by intro e; rw [e] at g2; simp at g2)
        have r1 := hc1 k g1
        have r2 := hc2 k g2
        obtain ⟨x, hx⟩ : ∃ x, x = a[k] := ⟨_, rfl⟩
        obtain ⟨y, hy⟩ : ∃ y, y = b[k] := ⟨_, rfl⟩
        rw [← hx] at r1
        rw [← hy] at r2
        have HX : Hid (a[k]? = some x) := by show _ = _; rw [List.getElem?_eq_getElem g1, hx]
        have HY : Hid (b[k]? = some y) := by show _ = _; rw [List.getElem?_eq_getElem g2, hy]
        clear hx hy hc1 hc2 g1 g2
        by_cases e : x = y
        · subst e
          have e' : (x != x) = false := by simp
          go_wp2
          go_quiet (fail)
          go_wp2
          go_roundw
          case rel => exact ⟨k + 1, _, by omega, by go_num, rfl, fun j h => by
            by_cases e : j = k
            · subst e; rw [HX.out, HY.out]
            · exact HK.out j (by omega)⟩
          case measure => simp [intOf]; omega
        · have e' : (x != y) = true := by simp [e]
          have hD : D = false := by
            rw [HD.out, decide_eq_false_iff_not]
            intro h
            have h1 := HX.out
            rw [h, HY.out] at h1
            exact e (Option.some.inj h1).symm
          subst hD
          clear e
          go_wp2
          go_quiet (fail)
          go_wp2
          go_ret
          exact ⟨rfl, _, World.drewN_drewN _ _ _⟩
      · have hlt2 : decide ((k : Int) < (N : Int)) = false := by rw [decide_eq_false_iff_not]; omega
        have hD : D = true := by
          rw [HD.out, decide_eq_true_eq]
          refine List.ext_getElem? fun j => ?_
          have h1 := HN.out
          have h2 := HL.out
          by_cases hj : j < k
          · exact HK.out j hj
          · rw [List.getElem?_eq_none (by omega), List.getElem?_eq_none (by omega)]
        subst hD
        go_wp2
        go_ret
        exact ⟨rfl, n, rfl⟩
  · have hl' : ((a.length : Int) != (M : Int)) = true := by simp; omega
    have hD : D = false := by rw [HD.out, decide_eq_false_iff_not]; intro e; exact hl (by rw [e, hM])
    subst hD
    clear hl hM
    go_enter Try.func23, Try.ntmps23
    go_wp2
    go_ret
    exact ⟨rfl, 0, rfl⟩
theorem rsame8_b (w : World) (ao : Option Addr) (a : List Int) (ac : Nat) (ha : Il w ao a ac) (bo : Option Addr) (b : List Int) (bc : Nat) (hb : Il w bo b bc) (hla : a.length ≤ 1000) :
    Calls Try.prog 23 #[.slice ao a.length ac, .slice bo b.length bc] w fun e w' => e = .returned (.bool (decide (a = b))) ∧ Below w.heap.size w w' := by
  refine (rsame8_any w ao a ac ha bo b bc hb hla).mono ?_
  rintro e w' ⟨rfl, n, rfl⟩
  exact ⟨rfl, below_drewN (Below.refl _ _) n⟩
theorem alive8_any (w : World) : Calls Try.prog 17 #[] w fun e w' => e = .returned (.bool true) ∧ Below w.heap.size w w' := by
  have HS := Hid.mk2 (fun W ao (h : Il W ao [2, 1] 2) => set_any 4 W ao [2, 1] 2 h 1 2 0 [2, 2] (by decide +kernel) (by decide +kernel))
  have HC := Hid.mk2 (fun W ao (h : Il W ao [3, 2] 2) => qcheck_any 4 W ao [3, 2] 2 h)
  have HE := Hid.mk2 (fun W ao cap (h : Il W ao [2, 2] cap) bo (h2 : Il W bo [2, 2] 2) => same8_b W ao [2, 2] cap h bo [2, 2] 2 h2 (by decide +kernel))
  rw [show ([2, 1] : List Int).length = 2 from rfl, show ([2, 2] : List Int).length = 2 from rfl] at HS
  rw [show ([3, 2] : List Int).length = 2 from rfl, show chkE 4 [3, 2] = 80 from by decide +kernel] at HC
  rw [show ([2, 2] : List Int).length = 2 from rfl, show decide (([2, 2] : List Int) = [2, 2]) = true from by decide +kernel] at HE
  go_enter Try.func17, Try.ntmps17
  go_wp2_with (first
    | (go_at_call 12; refine (HS.out _ _ (il_two _ _ _)).mono ?_; rintro e w2 ⟨ro, rc, rfl, hf2, hb2⟩; have HF2 := Hid.mk2 hf2; have HB2 := Hid.mk2 (below_alloc hb2); clear hf2 hb2)
    | (go_at_call 48; refine (HE.out _ _ _ (HF2.out.il.2.alloc _) _ (il_two _ _ _)).mono ?_; rintro e w3 ⟨rfl, hb3⟩; have HB3 := Hid.mk2 (below_alloc hb3); clear hb3)
    | (go_at_call 16; refine (HC.out _ _ (il_two _ _ _)).mono ?_; rintro e w4 ⟨rfl, rfl⟩))
  go_ret
  refine ⟨rfl, ?_⟩
  have h := HB2.out.trans (HB3.out.mono HB2.out.size)
  exact h.alloc h.size _
end Go.Proofs.Ytkcgleahbhmggaa
