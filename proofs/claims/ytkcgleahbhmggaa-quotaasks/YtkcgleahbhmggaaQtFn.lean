/-
  Contracts of Sum, mayBe, hasQuota, Check and slices.Clone over numbers.
-/
import Derived.Test.YtkcgleahbhmggaaQtPure
import Derived.Test.YtkcgleahbhmggaaQtMem
import Derived.Test.YtkcgleahbhmggaaSbSmall
import Derived.Lib.SliceRun
namespace Go.Proofs.Ytkcgleahbhmggaa
open Go.RowKit
set_option linter.unusedSimpArgs false
set_option linter.unusedVariables false
set_option maxRecDepth 100000

theorem Il.lies {w : World} {ao : Option Addr} {q : List Int} {cap : Nat} (h : Il w ao q cap) (hne : q ≠ []) : ∃ b off, ao = some ⟨b, off, none⟩ ∧ b < w.heap.size ∧ ∀ j (hj : j < q.length), w.cell? ⟨b, off + j, none⟩ = some (.int .i64 q[j]) := by
  rcases h.at_ with e | h
  · exact absurd e hne
  · exact h
theorem Il.len {w : World} {ao : Option Addr} {q : List Int} {cap : Nat} (h : Il w ao q cap) : q.length ≤ 9223372036854775807 := by
  have := h.hl; have := h.hc; omega
theorem qsum_any (w : World) (ao : Option Addr) (q : List Int) (cap : Nat) (h : Il w ao q cap) :
    Calls Try.prog 13 #[.slice ao q.length cap] w fun e w' => e = .returned (.tuple #[.int .i64 (sumV q), .int .i64 (sumE q)]) ∧ w' = w := by
  have HS := Hid.mk2 h
  have hmx := h.len
  clear h
  by_cases h4 : 4 < q.length
  · have e1 : sumE q = 4 := by unfold sumE; rw [if_pos h4]
    have e2 : sumV q = 0 := by unfold sumV; rw [e1]; rfl
    rw [e1, e2]
    have h4' : decide ((4 : Int) < q.length) = true := by simp; omega
    clear e1 e2
    go_enter Try.func13, Try.ntmps13
    go_wp2
    go_ret2
    exact ⟨rfl, rfl⟩
  have h4' : decide ((4 : Int) < q.length) = false := by simp; omega
  obtain ⟨V, hV⟩ : ∃ V, V = sumV q := ⟨_, rfl⟩
  obtain ⟨E, hE⟩ : ∃ E, E = sumE q := ⟨_, rfl⟩
  rw [← hV, ← hE]
  have HV := Hid.mk2 hV
  have HE := Hid.mk2 hE
  have HL := Hid.mk2 h4
  clear hV hE
  have hlen : q.length ≤ 4 := by omega
  go_enter Try.func13, Try.ntmps13
  go_wp2
  go_loopw [4, 12] (fun m i wr => ∃ (k : Nat) (m' : Int), k ≤ q.length ∧ i = .int .i64 k ∧ m = .int .i64 m' ∧ 0 ≤ m' ∧ m' ≤ 16 * k ∧ wr = w ∧ Hid (m' = (q.take k).sum) ∧ Hid (∀ j (hj : j < q.length), j < k → inQ q[j] = true)) (fun _ i _ => q.length - (intOf i).toNat)
  case atStart => exact ⟨0, 0, Nat.zero_le _, rfl, rfl, Int.le_refl _, by simp, rfl, by show _ = _; simp, fun _ _ h => absurd h (by omega)⟩
  case round =>
    obtain ⟨k, m', hk, rfl, rfl, hm0, hm1, rfl, HM, HA⟩ := hrel
    by_cases hlt : k < q.length
    · have hlt2 : (k : Int) < (q.length : Int) := by omega
      have hne : q ≠ [] := by intro e; rw [e] at hlt; simp at hlt
      obtain ⟨b, off, rfl, hbl, hcs⟩ := HS.out.lies hne
      obtain ⟨p, hpe⟩ : ∃ p, p = q[k] := ⟨_, rfl⟩
      have r0 := hcs k hlt
      have hT := sum_take hlt
      rw [← hpe] at r0 hT
      have HPE := Hid.mk2 hpe
      have HT := Hid.mk2 hT
      clear hpe hcs hne hT
      by_cases hp0 : p < 0
      · have hb : inQ p = false := by simp [inQ]; omega
        have hE : E = 2 := by
          rw [HE.out]; unfold sumE; rw [if_neg HL.out, if_neg]
          intro g
          rw [List.all_eq_true] at g
          have := g _ (List.getElem_mem hlt)
          rw [← HPE.out, hb] at this
          exact absurd this (by decide)
        have hV : V = 0 := by rw [HV.out]; unfold sumV; rw [← HE.out, hE]; rfl
        subst hE hV
        have hp1 : decide (p < 0) = true := by simp [hp0]
        clear hb
        go_wp2
        go_ret2
        exact ⟨rfl, rfl⟩
      have hp1 : decide (p < 0) = false := by simp; omega
      by_cases hp2 : 16 < p
      · have hb : inQ p = false := by simp [inQ]; omega
        have hE : E = 2 := by
          rw [HE.out]; unfold sumE; rw [if_neg HL.out, if_neg]
          intro g
          rw [List.all_eq_true] at g
          have := g _ (List.getElem_mem hlt)
          rw [← HPE.out, hb] at this
          exact absurd this (by decide)
        have hV : V = 0 := by rw [HV.out]; unfold sumV; rw [← HE.out, hE]; rfl
        subst hE hV
        have hp3 : decide (16 < p) = true := by simp [hp2]
        clear hb
        go_wp2
        go_ret2
        exact ⟨rfl, rfl⟩
      have hp3 : decide (16 < p) = false := by simp; omega
      have HB : Hid (inQ p = true) := by show inQ p = true; simp [inQ]; omega
      go_wp2
      go_roundw
      case rel => exact ⟨k + 1, m' + p, by omega, by go_num, by go_num, by omega, by omega, (by first | rfl | trivial), by show _ = _; rw [HT.out, HM.out], fun j hj h => by
        by_cases e : j = k
        · subst e; rw [← HPE.out]; exact HB.out
        · exact HA.out j hj (by omega)⟩
      case measure => simp [intOf]; omega
    · have hlt2 : decide ((k : Int) < (q.length : Int)) = false := by simp; omega
      have hE : E = 0 := by
        rw [HE.out]; unfold sumE; rw [if_neg HL.out, if_pos]
        rw [List.all_eq_true]
        intro x hx
        obtain ⟨i, hi, rfl⟩ := List.mem_iff_getElem.1 hx
        exact HA.out i hi (by omega)
      have hV : V = m' := by
        rw [HV.out]; unfold sumV; rw [← HE.out, hE, if_pos rfl, HM.out, List.take_of_length_le (by omega)]
      subst hE hV
      go_wp2
      go_ret2
      exact ⟨rfl, rfl⟩
theorem qmay_any (pool : Int) (w : World) (ao : Option Addr) (q : List Int) (cap : Nat) (h : Il w ao q cap) :
    Calls Try.prog 46 #[.int .i64 pool, .slice ao q.length cap] w fun e w' => e = .returned (.bool (mayQ pool q)) ∧ w' = w := by
  have hs := qsum_any w ao q cap h
  have hmx := h.len
  clear h
  by_cases h0 : 0 < q.length
  · have h0' : decide ((0 : Int) < q.length) = true := by simp; omega
    by_cases hE : sumE q = 0
    · have hV : sumV q = q.sum := by unfold sumV; rw [if_pos hE]
      have e1 : mayQ pool q = decide (q.sum ≤ pool) := by simp [mayQ, hE, h0]
      rw [e1]
      rw [hE, hV] at hs
      clear hE hV e1
      obtain ⟨V, hV⟩ : ∃ V, V = q.sum := ⟨_, rfl⟩
      rw [← hV] at hs ⊢
      clear hV
      go_enter Try.func46, Try.ntmps46
      go_wp2_with (go_at_call 13; refine hs.mono ?_; rintro e w1 ⟨rfl, rfl⟩)
      go_ret
      exact ⟨rfl, rfl⟩
    · have e1 : mayQ pool q = false := by simp [mayQ, hE]
      rw [e1]
      have hE' : (sumE q == 0) = false := by simp [hE]
      obtain ⟨E, hE2⟩ : ∃ E, E = sumE q := ⟨_, rfl⟩
      obtain ⟨V, hV⟩ : ∃ V, V = sumV q := ⟨_, rfl⟩
      rw [← hE2] at hs hE'
      rw [← hV] at hs
      clear hE hE2 e1 hV
      go_enter Try.func46, Try.ntmps46
      go_wp2_with (go_at_call 13; refine hs.mono ?_; rintro e w1 ⟨rfl, rfl⟩)
      go_ret
      exact ⟨rfl, rfl⟩
  · have h0' : decide ((0 : Int) < q.length) = false := by rw [decide_eq_false_iff_not]; omega
    have e1 : mayQ pool q = false := by unfold mayQ; rw [decide_eq_false h0]; rfl
    rw [e1]
    obtain ⟨E, hE2⟩ : ∃ E, E = sumE q := ⟨_, rfl⟩
    obtain ⟨V, hV⟩ : ∃ V, V = sumV q := ⟨_, rfl⟩
    rw [← hE2, ← hV] at hs
    clear hE2 e1 hV
    go_enter Try.func46, Try.ntmps46
    go_wp2_with (go_at_call 13; refine hs.mono ?_; rintro e w1 ⟨rfl, rfl⟩)
    go_ret
    exact ⟨rfl, rfl⟩
theorem qhas_any (ao : Option Addr) (q : List Int) (cap : Nat) (hmx : q.length ≤ 9223372036854775807) (t : Int) (w : World) :
    Calls Try.prog 44 #[.slice ao q.length cap, .int .i64 t] w fun e w' => e = .returned (.bool (hasQ q t)) ∧ w' = w := by
  by_cases h : 0 ≤ t
  · have h2 : decide (0 ≤ t) = true := by simp [h]
    go_enter Try.func44, Try.ntmps44
    go_wp2
    go_ret
    exact ⟨by simp [hasQ, h], rfl⟩
  · have h2 : decide (0 ≤ t) = false := by simp; omega
    go_enter Try.func44, Try.ntmps44
    go_wp2
    go_ret
    exact ⟨by simp [hasQ]; omega, rfl⟩
theorem qcheck_any (pool : Int) (w : World) (ao : Option Addr) (q : List Int) (cap : Nat) (h : Il w ao q cap) :
    Calls Try.prog 16 #[.int .i64 pool, .slice ao q.length cap] w fun e w' => e = .returned (.int .i64 (chkE pool q)) ∧ w' = w := by
  have hm := qmay_any pool w ao q cap h
  clear h
  by_cases h1 : pool < 1
  · have e : chkE pool q = 2 := by unfold chkE; rw [if_pos (.inl h1)]
    rw [e]
    have h1' : decide (pool < 1) = true := by simp [h1]
    clear e hm
    go_enter Try.func16, Try.ntmps16
    go_wp2
    go_ret
    exact ⟨rfl, rfl⟩
  have h1' : decide (pool < 1) = false := by simp; omega
  by_cases h2 : 16 < pool
  · have e : chkE pool q = 2 := by unfold chkE; rw [if_pos (.inr h2)]
    rw [e]
    have h2' : decide (16 < pool) = true := by simp [h2]
    clear e hm
    go_enter Try.func16, Try.ntmps16
    go_wp2
    go_ret
    exact ⟨rfl, rfl⟩
  have h2' : decide (16 < pool) = false := by simp; omega
  cases eM : mayQ pool q
  · have e : chkE pool q = 80 := by unfold chkE; rw [if_neg (by omega), if_neg (by rw [eM]; decide)]
    rw [e]
    rw [eM] at hm
    clear e eM
    go_enter Try.func16, Try.ntmps16
    go_wp2_with (go_at_call 46; refine hm.mono ?_; rintro e w1 ⟨rfl, rfl⟩)
    go_ret
    exact ⟨rfl, rfl⟩
  · have e : chkE pool q = 0 := by unfold chkE; rw [if_neg (by omega), if_pos eM]
    rw [e]
    rw [eM] at hm
    clear e eM
    go_enter Try.func16, Try.ntmps16
    go_wp2_with (go_at_call 46; refine hm.mono ?_; rintro e w1 ⟨rfl, rfl⟩)
    go_ret
    exact ⟨rfl, rfl⟩
theorem qclone_any (w : World) (ao : Option Addr) (q : List Int) (cap : Nat) (h : Il w ao q cap) (hl : q.length ≤ 1000) :
    Calls Try.prog 45 #[.slice ao q.length cap] w fun e w' => ∃ v', e = .returned v' ∧ OwnI w' w.heap.size v' q ∧ Below w.heap.size w w' := by
  have hsl := h.hn
  have HT := Hid.mk2 h.at_
  cases ao with
  | none =>
    have hc := hsl rfl
    have h2 := h.hl
    have : q = [] := List.eq_nil_of_length_eq_zero (by omega)
    subst this
    subst hc
    have hq : ∀ (w : World), (binOp .eql 22 (.slice none 0 0) (.slice none 0 0)).run Try.prog w = .ok (.bool true) w := fun w => Lib.run_eql_slice_nil w _ _ none _ _ 0 0 Try.underlying22
    clear h hsl
    go_enter Try.func45, Try.ntmps45
    go_wp2
    go_ret
    exact ⟨_, rfl, OwnI.nil _ _, Below.refl _ _⟩
  | some a =>
    have hq : ∀ (w : World), (binOp .eql 22 (.slice (some a) q.length cap) (.slice none 0 0)).run Try.prog w = .ok (.bool false) w := fun w => Lib.run_eql_slice_nil w _ _ (some a) _ _ 0 0 Try.underlying22
    have hm : maxLen = 9223372036854775807 := rfl
    have HO : Hid (OwnI (w.alloc (.cells #[] 3)) w.heap.size (.slice (some ⟨w.heap.size, 0, none⟩) 0 0) []) := World.ownsRow_made w #[] 0 (Nat.le_refl _) (Nat.zero_le _) (by simp)
    clear h hsl
    go_enter Try.func45, Try.ntmps45
    go_wp2_with (at_builtin; refine app_ints rfl _ _ rfl w.heap.size _ [] HO.out rfl (some a) cap q q.length rfl rfl (w.heap.size + 1) (by intro e; cases e) (HT.out.below ((Below.refl _ _).alloc (Nat.le_refl _) _) (by omega)) (by simp; omega) (by simp) ?_; intro v' w1 hO hG)
    go_ret
    refine ⟨v', rfl, hO, ?_⟩
    exact ((Below.refl _ w).alloc (Nat.le_refl _) _).grown hG.grown (by simp) (by intro k hk; simp [Value.ownBlock] at hk; omega)
end Go.Proofs.Ytkcgleahbhmggaa
