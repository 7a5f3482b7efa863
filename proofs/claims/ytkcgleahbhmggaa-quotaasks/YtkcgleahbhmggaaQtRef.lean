/-
  The document's quotas: May, Check, Sum, asked.
-/
import Derived.Test.YtkcgleahbhmggaaQtRoom
import Derived.Test.YtkcgleahbhmggaaSbRef2
namespace Go.Proofs.Ytkcgleahbhmggaa
open Go.RowKit
set_option linter.unusedSimpArgs false
set_option linter.unusedVariables false
set_option maxRecDepth 100000

theorem sum_nonneg {q : List Int} (h : ∀ x ∈ q, 0 ≤ x) : 0 ≤ q.sum := by
  induction q with
  | nil => simp
  | cons a q ih =>
    have := ih (fun x hx => h x (by simp [hx]))
    have := h a (by simp)
    simp
    omega
theorem sum_take_le {q : List Int} (h : ∀ x ∈ q, 0 ≤ x) (k : Nat) : (q.take k).sum ≤ q.sum := by
  have e : q.sum = (q.take k).sum + (q.drop k).sum := by rw [← List.sum_append, List.take_append_drop]
  have := sum_nonneg (q := q.drop k) (fun x hx => h x (List.mem_of_mem_drop hx))
  omega
theorem mayQ_of {pool : Int} {q : List Int} (h1 : 1 ≤ q.length ∧ q.length ≤ 4) (h2 : ∀ x ∈ q, 0 ≤ x ∧ x ≤ 16) (h3 : q.sum ≤ pool) : mayQ pool q = true := by
  have e : sumE q = 0 := by
    unfold sumE
    rw [if_neg (by omega), if_pos]
    rw [List.all_eq_true]
    intro x hx
    simpa [inQ] using h2 x hx
  unfold mayQ
  rw [e, decide_eq_true (show 0 < q.length by omega), decide_eq_true h3]
  rfl
theorem mayQ_not {pool : Int} {q : List Int} (h : ¬ (1 ≤ q.length ∧ q.length ≤ 4)) : mayQ pool q = false := by
  cases e : mayQ pool q
  · rfl
  · exact absurd (mayQ_len e) h
theorem rmay_any (pool : Int) (hp : 1 ≤ pool ∧ pool ≤ 16) (w : World) (ao : Option Addr) (q : List Int) (cap : Nat) (h : Il w ao q cap) :
    Calls Try.prog 49 #[.int .i64 pool, .slice ao q.length cap] w fun e w' => e = .returned (.bool (mayQ pool q)) ∧ w' = w := by
  have HS := Hid.mk2 h
  have hmx := h.len
  clear h
  by_cases h1 : q.length < 1
  · rw [mayQ_not (by omega)]
    have h1' : decide ((q.length : Int) < 1) = true := by rw [decide_eq_true_eq]; omega
    go_enter Try.func49, Try.ntmps49
    go_wp2
    go_ret
    exact ⟨rfl, rfl⟩
  have h1' : decide ((q.length : Int) < 1) = false := by rw [decide_eq_false_iff_not]; omega
  by_cases h4 : 4 < q.length
  · rw [mayQ_not (by omega)]
    have h4' : decide ((4 : Int) < q.length) = true := by rw [decide_eq_true_eq]; omega
    go_enter Try.func49, Try.ntmps49
    go_wp2
    go_ret
    exact ⟨rfl, rfl⟩
  have h4' : decide ((4 : Int) < q.length) = false := by rw [decide_eq_false_iff_not]; omega
  obtain ⟨M, hM⟩ : ∃ M, M = mayQ pool q := ⟨_, rfl⟩
  rw [← hM]
  have HM := Hid.mk2 hM
  clear hM
  go_enter Try.func49, Try.ntmps49
  go_wp2
  go_loopw [5, 6] (fun l i wr => ∃ (k : Nat) (m : Int), k ≤ q.length ∧ l = .int .i64 m ∧ i = .int .i64 k ∧ wr = w ∧ 0 ≤ m ∧ m ≤ pool ∧ Hid (m = pool - (q.take k).sum) ∧ Hid (∀ j (hj : j < q.length), j < k → 0 ≤ q[j] ∧ q[j] ≤ 16)) (fun _ i _ => q.length - (intOf i).toNat)
  case atStart => exact ⟨0, pool, Nat.zero_le _, rfl, rfl, rfl, by omega, Int.le_refl _, by show _ = _; simp, fun _ _ h => absurd h (by omega)⟩
  case round =>
    obtain ⟨k, m, hk, rfl, rfl, hwr, hm0, hm1, HMM, HA⟩ := hrel
    have hwr := hwr.symm
    subst hwr
    by_cases hlt : k < q.length
    · have hlt2 : (k : Int) < (q.length : Int) := by omega
      obtain ⟨b, off, rfl, hbl, hcs⟩ := HS.out.lies (by intro e; rw [e] at hlt; simp at hlt)
      obtain ⟨x, hx⟩ : ∃ x, x = q[k] := ⟨_, rfl⟩
      have r0 := hcs k hlt
      have hT := sum_take hlt
      rw [← hx] at r0 hT
      have HX := Hid.mk2 hx
      have HT := Hid.mk2 hT
      clear hx hcs hT
      by_cases hx0 : x < 0
      · have hMf : M = false := by
          rw [HM.out]
          cases e : mayQ pool q
          · rfl
          · have := mayQ_in e _ (List.getElem_mem hlt)
            rw [← HX.out] at this
            omega
        subst hMf
        have g1 : decide (x < 0) = true := by simp [hx0]
        go_wp2
        go_ret
        exact ⟨rfl, rfl⟩
      have g1 : decide (x < 0) = false := by simp; omega
      by_cases hx1 : m < x
      · have hMf : M = false := by
          rw [HM.out]
          cases e : mayQ pool q
          · rfl
          · have h5 := sum_take_le (fun y hy => (mayQ_in e y hy).1) (k + 1)
            have h6 := mayQ_sum e
            rw [HT.out] at h5
            have := HMM.out
            omega
        subst hMf
        have g2 : decide (m < x) = true := by simp [hx1]
        go_wp2
        go_ret
        exact ⟨rfl, rfl⟩
      have g2 : decide (m < x) = false := by simp; omega
      go_wp2
      go_roundw
      case rel => exact ⟨k + 1, m - x, by omega, by go_num, by go_num, (by first | rfl | trivial), by omega, by omega, by show _ = _; rw [HT.out]; have := HMM.out; omega, fun j hj h => by
        by_cases e : j = k
        · subst e; rw [← HX.out]; omega
        · exact HA.out j hj (by omega)⟩
      case measure => simp [intOf]; omega
    · have hlt2 : decide ((k : Int) < (q.length : Int)) = false := by rw [decide_eq_false_iff_not]; omega
      have hMt : M = true := by
        rw [HM.out]
        refine mayQ_of (by omega) (fun y hy => ?_) ?_
        · obtain ⟨i, hi, rfl⟩ := List.mem_iff_getElem.1 hy
          exact HA.out i hi (by omega)
        · have := HMM.out
          rw [List.take_of_length_le (by omega)] at this
          omega
      subst hMt
      go_wp2
      go_ret
      exact ⟨rfl, rfl⟩
theorem rqcheck_any (pool : Int) (w : World) (ao : Option Addr) (q : List Int) (cap : Nat) (h : Il w ao q cap) :
    Calls Try.prog 22 #[.int .i64 pool, .slice ao q.length cap] w fun e w' => e = .returned (.int .i64 (chkE pool q)) ∧ w' = w := by
  by_cases h1 : pool < 1
  · have e : chkE pool q = 2 := by unfold chkE; rw [if_pos (.inl h1)]
    rw [e]
    have h1' : decide (pool < 1) = true := by simp [h1]
    clear e h
    go_enter Try.func22, Try.ntmps22
    go_wp2
    go_ret
    exact ⟨rfl, rfl⟩
  have h1' : decide (pool < 1) = false := by simp; omega
  by_cases h2 : 16 < pool
  · have e : chkE pool q = 2 := by unfold chkE; rw [if_pos (.inr h2)]
    rw [e]
    have h2' : decide (16 < pool) = true := by simp [h2]
    clear e h
    go_enter Try.func22, Try.ntmps22
    go_wp2
    go_ret
    exact ⟨rfl, rfl⟩
  have h2' : decide (16 < pool) = false := by simp; omega
  have hm := rmay_any pool (by omega) w ao q cap h
  clear h
  cases eM : mayQ pool q
  · have e : chkE pool q = 80 := by unfold chkE; rw [if_neg (by omega), if_neg (by rw [eM]; decide)]
    rw [e]
    rw [eM] at hm
    clear e eM
    go_enter Try.func22, Try.ntmps22
    go_wp2_with (go_at_call 49; refine hm.mono ?_; rintro e w1 ⟨rfl, rfl⟩)
    go_ret
    exact ⟨rfl, rfl⟩
  · have e : chkE pool q = 0 := by unfold chkE; rw [if_neg (by omega), if_pos eM]
    rw [e]
    rw [eM] at hm
    clear e eM
    go_enter Try.func22, Try.ntmps22
    go_wp2_with (go_at_call 49; refine hm.mono ?_; rintro e w1 ⟨rfl, rfl⟩)
    go_ret
    exact ⟨rfl, rfl⟩
theorem rasked_any (w : World) (so : Option Addr) (ps : List Pg) (sc : Nat) (hs : Sb w so ps sc) (ao : Option Addr) (q : List Int) (cap : Nat) (h : Il w ao q cap) (t : Int) :
    Calls Try.prog 50 #[.agg #[.slice so ps.length sc], .slice ao q.length cap, .int .i64 t] w fun e w' => e = .returned (.int .i64 (askE ps q t)) ∧ Below w.heap.size w w' := by
  have HC := Hid.mk2 (fun W (hb : Below w.heap.size w W) => rcheck_any W so ps sc (hs.below hb))
  have hlq := h.len
  have hlp : ps.length ≤ 9223372036854775807 := by have := hs.hl; have := hs.hc; omega
  have ha : ∀ o, Below w.heap.size w (w.alloc o) := fun o => (Below.refl _ _).alloc (Nat.le_refl _) _
  cases e1 : sOk ps
  · have e2 : sE ps = 8 := by unfold sE; rw [e1]; rfl
    have e3 : askE ps q t = 8 := by unfold askE; rw [if_pos e1]
    rw [e3]
    rw [e2] at HC
    clear e1 e2 e3 h hs
    go_enter Try.func50, Try.ntmps50
    go_wp2_with (go_at_call 24; refine (HC.out _ (ha _)).mono ?_; rintro e w2 ⟨rfl, hb2⟩)
    go_ret
    exact ⟨rfl, below_alloc hb2⟩
  have e2 : sE ps = 0 := by unfold sE; rw [e1]; rfl
  rw [e2] at HC
  clear e2
  have hlen := sOk_len e1
  have HQ := Hid.mk2 (fun W (hb : Below w.heap.size w W) => rmay_any ps.length (by omega) W ao q cap (h.below hb))
  cases eM : mayQ ps.length q
  · have e3 : askE ps q t = 80 := by
      have : chkE ps.length q = 80 := by unfold chkE; rw [if_neg (by omega), if_neg (by simp [eM])]
      unfold askE; rw [if_neg (by simp [e1]), if_pos (by rw [this]; decide), this]
    rw [e3]
    rw [eM] at HQ
    clear e1 e3 h hs eM
    go_enter Try.func50, Try.ntmps50
    go_wp2_with (first
      | (go_at_call 24; refine (HC.out _ (ha _)).mono ?_; rintro e w2 ⟨rfl, hb2⟩; have z : w2.cell? ⟨w.heap.size, 0, none⟩ = some (.slice so ps.length sc) := (below_cells hb2 _ 0 (by simp)).trans (by simp); have hs2 : w.heap.size < w2.heap.size := by (have := hb2.size; simp at this; omega))
      | (go_at_call 49; refine (HQ.out _ (below_alloc hb2)).mono ?_; rintro e w3 ⟨rfl, rfl⟩))
    go_ret
    exact ⟨rfl, below_alloc hb2⟩
  rw [eM] at HQ
  have e4 : askE ps q t = if hasQ q t = false then 2 else 0 := by
    have : chkE ps.length q = 0 := by unfold chkE; rw [if_neg (by omega), if_pos eM]
    unfold askE; rw [if_neg (by simp [e1]), if_neg (by simp [this])]
  have hcase : (askE ps q t = 2 ∧ decide (t < 0) = true) ∨ (askE ps q t = 2 ∧ decide (t < 0) = false ∧ decide ((q.length : Int) ≤ t) = true) ∨ (askE ps q t = 0 ∧ decide (t < 0) = false ∧ decide ((q.length : Int) ≤ t) = false) := by
    rw [e4]
    by_cases h1 : t < 0
    · have : hasQ q t = false := by simp [hasQ]; omega
      exact .inl ⟨by rw [if_pos this], by simp [h1]⟩
    · by_cases h2 : (q.length : Int) ≤ t
      · have : hasQ q t = false := by simp [hasQ]; omega
        exact .inr (.inl ⟨by rw [if_pos this], by simp; omega, by simp [h2]⟩)
      · have : hasQ q t = true := by simp [hasQ]; omega
        exact .inr (.inr ⟨by rw [this]; rfl, by simp; omega, by simp; omega⟩)
  clear e1 h hs eM e4
  rcases hcase with ⟨e3, h1⟩ | ⟨e3, h1, h2⟩ | ⟨e3, h1, h2⟩
  all_goals
    rw [e3]
    clear e3
    go_enter Try.func50, Try.ntmps50
    go_wp2_with (first
      | (go_at_call 24; refine (HC.out _ (ha _)).mono ?_; rintro e w2 ⟨rfl, hb2⟩; have z : w2.cell? ⟨w.heap.size, 0, none⟩ = some (.slice so ps.length sc) := (below_cells hb2 _ 0 (by simp)).trans (by simp); have hs2 : w.heap.size < w2.heap.size := by (have := hb2.size; simp at this; omega))
      | (go_at_call 49; refine (HQ.out _ (below_alloc hb2)).mono ?_; rintro e w3 ⟨rfl, rfl⟩))
    go_ret
    exact ⟨rfl, below_alloc hb2⟩
theorem rqsum_any (w : World) (ao : Option Addr) (q : List Int) (cap : Nat) (h : Il w ao q cap) :
    Calls Try.prog 19 #[.slice ao q.length cap] w fun e w' => e = .returned (.tuple #[.int .i64 (sumV q), .int .i64 (sumE q)]) ∧ w' = w := by
  have HS := Hid.mk2 h
  have hmx := h.len
  clear h
  by_cases h4 : 4 < q.length
  · have e1 : sumE q = 4 := by unfold sumE; rw [if_pos h4]
    have e2 : sumV q = 0 := by unfold sumV; rw [e1]; rfl
    rw [e1, e2]
    have h4' : decide ((4 : Int) < q.length) = true := by simp; omega
    clear e1 e2
    go_enter Try.func19, Try.ntmps19
    go_wp2
    go_ret2
    exact ⟨rfl, rfl⟩
  have h4' : decide ((4 : Int) < q.length) = false := by simp; omega
  obtain ⟨V, hV⟩ : ∃ V, V = sumV q := ⟨_, rfl⟩
  obtain ⟨E, hE⟩ : ∃ E, E = sumE q := ⟨_, rfl⟩
  rw [← hV, ← hE]
  have HV := Hid.mk2 hV
  have HE := Hid.mk2 hE
  have HL := Hid.mk2 h4
  clear hV hE
  have hlen : q.length ≤ 4 := by omega
  go_enter Try.func19, Try.ntmps19
  go_wp2
  go_loopw [4, 5] (fun m i wr => ∃ (k : Nat) (m' : Int), k ≤ q.length ∧ i = .int .i64 k ∧ m = .int .i64 m' ∧ 0 ≤ m' ∧ m' ≤ 16 * k ∧ wr = w ∧ Hid (m' = (q.take k).sum) ∧ Hid (∀ j (hj : j < q.length), j < k → inQ q[j] = true)) (fun _ i _ => q.length - (intOf i).toNat)
  case atStart => exact ⟨0, 0, Nat.zero_le _, rfl, rfl, Int.le_refl _, by simp, rfl, by show _ = _; simp, fun _ _ h => absurd h (by omega)⟩
  case round =>
    obtain ⟨k, m', hk, rfl, rfl, hm0, hm1, rfl, HM, HA⟩ := hrel
    by_cases hlt : k < q.length
    · have hlt2 : (k : Int) < (q.length : Int) := by omega
      have hne : q ≠ [] := by intro e; rw [e] at hlt; simp at hlt
      obtain ⟨b, off, rfl, hbl, hcs⟩ := HS.out.lies hne
      obtain ⟨p, hpe⟩ : ∃ p, p = q[k] := ⟨_, rfl⟩
      have r0 := hcs k hlt
      have hT := sum_take hlt
      rw [← hpe] at r0 hT
      have HPE := Hid.mk2 hpe
      have HT := Hid.mk2 hT
      clear hpe hcs hne hT
      by_cases hp0 : p < 0
      · have hb : inQ p = false := by simp [inQ]; omega
        have hE : E = 2 := by
          rw [HE.out]; unfold sumE; rw [if_neg HL.out, if_neg]
          intro g
          rw [List.all_eq_true] at g
          have := g _ (List.getElem_mem hlt)
          rw [← HPE.out, hb] at this
          exact absurd this (by decide)
        have hV : V = 0 := by rw [HV.out]; unfold sumV; rw [← HE.out, hE]; rfl
        subst hE hV
        have hp1 : decide (p < 0) = true := by simp [hp0]
        clear hb
        go_wp2
        go_ret2
        exact ⟨rfl, rfl⟩
      have hp1 : decide (p < 0) = false := by simp; omega
      by_cases hp2 : 16 < p
      · have hb : inQ p = false := by simp [inQ]; omega
        have hE : E = 2 := by
          rw [HE.out]; unfold sumE; rw [if_neg HL.out, if_neg]
          intro g
          rw [List.all_eq_true] at g
          have := g _ (List.getElem_mem hlt)
          rw [← HPE.out, hb] at this
          exact absurd this (by decide)
        have hV : V = 0 := by rw [HV.out]; unfold sumV; rw [← HE.out, hE]; rfl
        subst hE hV
        have hp3 : decide (16 < p) = true := by simp [hp2]
        clear hb
        go_wp2
        go_ret2
        exact ⟨rfl, rfl⟩
      have hp3 : decide (16 < p) = false := by simp; omega
      have HB : Hid (inQ p = true) := by show inQ p = true; simp [inQ]; omega
      go_wp2
      go_roundw
      case rel => exact ⟨k + 1, m' + p, by omega, by go_num, by go_num, by omega, by omega, (by first | rfl | trivial), by show _ = _; rw [HT.out, HM.out], fun j hj h => by
        by_cases e : j = k
        · subst e; rw [← HPE.out]; exact HB.out
        · exact HA.out j hj (by omega)⟩
      case measure => simp [intOf]; omega
    · have hlt2 : decide ((k : Int) < (q.length : Int)) = false := by simp; omega
      have hE : E = 0 := by
        rw [HE.out]; unfold sumE; rw [if_neg HL.out, if_pos]
        rw [List.all_eq_true]
        intro x hx
        obtain ⟨i, hi, rfl⟩ := List.mem_iff_getElem.1 hx
        exact HA.out i hi (by omega)
      have hV : V = m' := by
        rw [HV.out]; unfold sumV; rw [← HE.out, hE, if_pos rfl, HM.out, List.take_of_length_le (by omega)]
      subst hE hV
      go_wp2
      go_ret2
      exact ⟨rfl, rfl⟩
end Go.Proofs.Ytkcgleahbhmggaa
