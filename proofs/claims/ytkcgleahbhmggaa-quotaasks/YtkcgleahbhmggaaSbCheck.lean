/-
  Contracts of Check, checkTenant, owned, freePage.
-/
import Derived.Test.YtkcgleahbhmggaaSbSmall
namespace Go.Proofs.Ytkcgleahbhmggaa
open Go.RowKit
set_option linter.unusedSimpArgs false
set_option linter.unusedVariables false
set_option maxRecDepth 100000

theorem all_take {ps : List Pg} {f : Pg → Bool} (h : ∀ i (hi : i < ps.length), f ps[i] = true) : ps.all f = true := by
  rw [List.all_eq_true]
  intro p hp
  obtain ⟨i, hi, rfl⟩ := List.mem_iff_getElem.1 hp
  exact h i hi
theorem scheck_any (w : World) (ao : Option Addr) (ps : List Pg) (cap : Nat) (h : Sb w ao ps cap) :
    Calls Try.prog 35 #[.agg #[.slice ao ps.length cap]] w fun e w' => e = .returned (.int .i64 (sE ps)) ∧ Below w.heap.size w w' := by
  have HS := Hid.mk2 h
  have hmx : ps.length ≤ 9223372036854775807 := by have := h.hl; have := h.hc; omega
  clear h
  by_cases h1 : ps.length < 1
  · have e : sE ps = 8 := by unfold sE sOk; rw [if_neg]; simp; omega
    rw [e]
    have h1' : decide ((ps.length : Int) < 1) = true := by simp; omega
    clear e
    go_enter Try.func35, Try.ntmps35
    go_wp2
    go_ret
    exact ⟨rfl, (Below.refl _ _).alloc (Nat.le_refl _) _⟩
  have h1' : decide ((ps.length : Int) < 1) = false := by simp; omega
  by_cases h2 : 16 < ps.length
  · have e : sE ps = 8 := by unfold sE sOk; rw [if_neg]; simp; omega
    rw [e]
    have h2' : decide ((16 : Int) < ps.length) = true := by simp; omega
    clear e
    go_enter Try.func35, Try.ntmps35
    go_wp2
    go_ret
    exact ⟨rfl, (Below.refl _ _).alloc (Nat.le_refl _) _⟩
  have h2' : decide ((16 : Int) < ps.length) = false := by simp; omega
  have hne : ps ≠ [] := by intro e; rw [e] at h1; simp at h1
  obtain ⟨b, off, rfl, hbl, hcs⟩ := HS.out.lies hne
  have HC := Hid.mk2 hcs
  obtain ⟨E, hE⟩ : ∃ E, E = sE ps := ⟨_, rfl⟩
  rw [← hE]
  have HE := Hid.mk2 hE
  clear hcs hE hne
  go_enter Try.func35, Try.ntmps35
  go_wp2
  go_loopw [18] (fun i wr => ∃ k : Nat, k ≤ ps.length ∧ i = .int .i64 k ∧ Below w.heap.size w wr ∧ w.heap.size < wr.heap.size ∧ Hid (∀ i (hi : i < ps.length), i < k → pOk ps[i] = true)) (fun i _ => ps.length - (intOf i).toNat)
  case atStart => exact ⟨0, Nat.zero_le _, rfl, (Below.refl _ _).alloc (Nat.le_refl _) _, by simp, fun _ _ h => absurd h (by omega)⟩
  case round =>
    obtain ⟨k, hk, rfl, hbr, hsz, HOK⟩ := hrel
    by_cases hlt : k < ps.length
    · have hlt2 : (k : Int) < (ps.length : Int) := by omega
      obtain ⟨p, hpe⟩ : ∃ p, p = ps[k] := ⟨_, rfl⟩
      have hL := HC.out k hlt
      rw [← hpe] at hL
      have HPE := Hid.mk2 hpe
      obtain ⟨r0, r1, r2⟩ := hL.below hbr hbl
      have hbl2 : b < wr.heap.size := by omega
      clear hpe hL
      cases ep : pOk p
      · have hE : E = 8 := by
          rw [HE.out]
          unfold sE sOk
          rw [if_neg]
          simp
          intro _ _
          exact ⟨p, by rw [HPE.out]; exact List.getElem_mem hlt, ep⟩
        subst hE
        have hm := fun W => mayBe_any p W
        rw [ep] at hm
        go_wp2_with (go_at_call 66; refine (hm _).mono ?_; rintro e w2 ⟨rfl, hb2⟩)
        go_ret
        exact ⟨rfl, hbr.trans ((below_alloc hb2).mono (by omega))⟩
      · have hm := fun W => mayBe_any p W
        rw [ep] at hm
        go_wp2_with (go_at_call 66; refine (hm _).mono ?_; rintro e w2 ⟨rfl, hb2⟩)
        go_roundw
        case rel => exact ⟨k + 1, by omega, by go_num, hbr.trans ((below_alloc hb2).mono (by omega)), by have := (below_alloc hb2).size; omega, fun i hi h => by
          by_cases e : i = k
          · subst e; rw [← HPE.out]; exact ep
          · exact HOK.out i hi (by omega)⟩
        case measure => simp [intOf]; omega
    · have hlt2 : decide ((k : Int) < (ps.length : Int)) = false := by simp; omega
      have hE : E = 0 := by
        rw [HE.out]
        unfold sE sOk
        rw [if_pos]
        rw [all_take (fun i hi => HOK.out i hi (by omega))]
        simp
        omega
      subst hE
      go_wp2
      go_ret
      exact ⟨rfl, hbr⟩
theorem checkTenant_any (w : World) (ao : Option Addr) (ps : List Pg) (cap : Nat) (h : Sb w ao ps cap) (t : Int) :
    Calls Try.prog 54 #[.agg #[.slice ao ps.length cap], .int .i64 t] w fun e w' => e = .returned (.int .i64 (tE ps t)) ∧ Below w.heap.size w w' := by
  have hc := fun W (hb : Below w.heap.size w W) => scheck_any W ao ps cap (h.below hb)
  have ht := fun W => isTenant_any t W
  have HC := Hid.mk2 hc
  have ha : ∀ o, Below w.heap.size w (w.alloc o) := fun o => (Below.refl _ _).alloc (Nat.le_refl _) _
  clear hc h
  cases e1 : sOk ps
  · have e2 : sE ps = 8 := by unfold sE; rw [e1]; rfl
    have e3 : tE ps t = 8 := by unfold tE; rw [e1]; rfl
    rw [e3]
    rw [e2] at HC
    clear e1 e2 e3
    go_enter Try.func54, Try.ntmps54
    go_wp2_with (go_at_call 35; refine (HC.out _ (ha _)).mono ?_; rintro e w2 ⟨rfl, hb2⟩)
    go_ret
    exact ⟨rfl, below_alloc hb2⟩
  · have e2 : sE ps = 0 := by unfold sE; rw [e1]; rfl
    rw [e2] at HC
    clear e2
    cases eT : isT t
    · have e3 : tE ps t = 2 := by unfold tE; rw [e1, eT]; rfl
      rw [e3]
      rw [eT] at ht
      clear e3 e1
      go_enter Try.func54, Try.ntmps54
      go_wp2_with (first
        | (go_at_call 35; refine (HC.out _ (ha _)).mono ?_; rintro e w2 ⟨rfl, hb2⟩)
        | (go_at_call 70; refine (ht _).mono ?_; rintro e w3 ⟨rfl, rfl⟩))
      go_ret
      exact ⟨rfl, below_alloc hb2⟩
    · have e3 : tE ps t = 0 := by unfold tE; rw [e1, eT]; rfl
      rw [e3]
      rw [eT] at ht
      clear e3 e1
      go_enter Try.func54, Try.ntmps54
      go_wp2_with (first
        | (go_at_call 35; refine (HC.out _ (ha _)).mono ?_; rintro e w2 ⟨rfl, hb2⟩)
        | (go_at_call 70; refine (ht _).mono ?_; rintro e w3 ⟨rfl, rfl⟩))
      go_ret
      exact ⟨rfl, below_alloc hb2⟩
theorem owned_le (ps : List Pg) (t : Int) : owned ps t ≤ ps.length := List.countP_le_length
theorem owned_take {ps : List Pg} {k : Nat} (t : Int) (h : k < ps.length) : owned (ps.take (k + 1)) t = owned (ps.take k) t + (if isOf t ps[k] then 1 else 0) := by
  unfold owned
  rw [List.take_succ_eq_append_getElem h, List.countP_append]
  simp [List.countP_cons]
theorem owned_any (w : World) (ao : Option Addr) (ps : List Pg) (cap : Nat) (h : Sb w ao ps cap) (hl : ps.length ≤ 1000) (t : Int) :
    Calls Try.prog 55 #[.agg #[.slice ao ps.length cap], .int .i64 t] w fun e w' => e = .returned (.int .i64 (owned ps t)) ∧ Below w.heap.size w w' := by
  have HS := Hid.mk2 h
  clear h
  obtain ⟨M, hM⟩ : ∃ M, M = owned ps t := ⟨_, rfl⟩
  rw [← hM]
  have HM := Hid.mk2 hM
  clear hM
  go_enter Try.func55, Try.ntmps55
  go_wp2
  go_loopw [5, 11] (fun m i wr => ∃ k m' : Nat, k ≤ ps.length ∧ i = .int .i64 k ∧ m = .int .i64 m' ∧ m' ≤ k ∧ Below w.heap.size w wr ∧ w.heap.size < wr.heap.size ∧ Hid (m' = owned (ps.take k) t)) (fun _ i _ => ps.length - (intOf i).toNat)
  case atStart => exact ⟨0, 0, Nat.zero_le _, rfl, rfl, Nat.le_refl _, (Below.refl _ _).alloc (Nat.le_refl _) _, by simp, rfl⟩
  case round =>
    obtain ⟨k, m', hk, rfl, rfl, hmk, hbr, hsz, HOK⟩ := hrel
    by_cases hlt : k < ps.length
    · have hlt2 : (k : Int) < (ps.length : Int) := by omega
      have hne : ps ≠ [] := by intro e; rw [e] at hlt; simp at hlt
      obtain ⟨b, off, rfl, hbl, hcs⟩ := HS.out.lies hne
      obtain ⟨p, hpe⟩ : ∃ p, p = ps[k] := ⟨_, rfl⟩
      have hL := hcs k hlt
      have hO := owned_take t hlt
      rw [← hpe] at hL hO
      have HO := Hid.mk2 hO
      obtain ⟨r0, r1, r2⟩ := hL.below hbr hbl
      have hbl2 : b < wr.heap.size := by omega
      clear hpe hL hcs hne hO
      have hm := fun W => isOf_any p t W
      cases ep : isOf t p
      · rw [ep] at hm HO
        go_wp2_with (go_at_call 61; refine (hm _).mono ?_; rintro e w2 ⟨rfl, hb2⟩)
        go_roundw
        case rel => exact ⟨k + 1, m', by omega, by go_num, rfl, by omega, hbr.trans ((below_alloc hb2).mono (by omega)), by have := (below_alloc hb2).size; omega, by have := HO.out; simp at this; show _ = _; rw [this]; exact HOK.out⟩
        case measure => simp [intOf]; omega
      · rw [ep] at hm HO
        go_wp2_with (go_at_call 61; refine (hm _).mono ?_; rintro e w2 ⟨rfl, hb2⟩)
        go_roundw
        case rel => exact ⟨k + 1, m' + 1, by omega, by go_num, by go_num, by omega, hbr.trans ((below_alloc hb2).mono (by omega)), by have := (below_alloc hb2).size; omega, by have := HO.out; simp at this; show _ = _; rw [this, HOK.out]⟩
        case measure => simp [intOf]; omega
    · have hlt2 : decide ((k : Int) < (ps.length : Int)) = false := by simp; omega
      have hM : M = m' := by
        rw [HM.out, HOK.out, List.take_of_length_le (by omega)]
      subst hM
      go_wp2
      go_ret
      exact ⟨rfl, hbr⟩
/-- the least free page -/
def optI (o : Option Nat) : Int := match o with
  | some i => (i : Int)
  | none => 0
theorem freePage_any (w : World) (ao : Option Addr) (ps : List Pg) (cap : Nat) (h : Sb w ao ps cap) (hl : ps.length ≤ 1000) :
    Calls Try.prog 58 #[.agg #[.slice ao ps.length cap]] w fun e w' => e = .returned (.tuple #[.int .i64 (optI (freeP ps)), .bool (freeP ps).isSome]) ∧ Below w.heap.size w w' := by
  have HS := Hid.mk2 h
  clear h
  obtain ⟨I, hI⟩ : ∃ I, I = optI (freeP ps) := ⟨_, rfl⟩
  obtain ⟨B, hB⟩ : ∃ B, B = (freeP ps).isSome := ⟨_, rfl⟩
  rw [← hI, ← hB]
  have HI := Hid.mk2 hI
  have HB := Hid.mk2 hB
  clear hI hB
  go_enter Try.func58, Try.ntmps58
  go_wp2
  go_loopw [9] (fun i wr => ∃ k : Nat, k ≤ ps.length ∧ i = .int .i64 k ∧ Below w.heap.size w wr ∧ w.heap.size < wr.heap.size ∧ Hid (∀ i, i < k → freeI ps i = none)) (fun i _ => ps.length - (intOf i).toNat)
  case atStart => exact ⟨0, Nat.zero_le _, rfl, (Below.refl _ _).alloc (Nat.le_refl _) _, by simp, fun _ h => absurd h (by omega)⟩
  case round =>
    obtain ⟨k, hk, rfl, hbr, hsz, HOK⟩ := hrel
    by_cases hlt : k < ps.length
    · have hlt2 : (k : Int) < (ps.length : Int) := by omega
      have hne : ps ≠ [] := by intro e; rw [e] at hlt; simp at hlt
      obtain ⟨b, off, rfl, hbl, hcs⟩ := HS.out.lies hne
      obtain ⟨p, hpe⟩ : ∃ p, p = ps[k] := ⟨_, rfl⟩
      have hL := hcs k hlt
      rw [← hpe] at hL
      have HPE := Hid.mk2 hpe
      obtain ⟨r0, r1, r2⟩ := hL.below hbr hbl
      have hbl2 : b < wr.heap.size := by omega
      clear hpe hL hcs hne
      have hm := fun W => isFree_any p W
      have hfi : freeI ps k = if p.u = 0 then some k else none := by
        unfold freeI
        rw [List.getElem?_eq_getElem hlt, HPE.out]
      have HFI := Hid.mk2 hfi
      clear hfi
      by_cases ep : p.u = 0
      · have hP : freeP ps = some k := firstN_at hlt HOK.out (by rw [HFI.out, if_pos ep])
        have hI : I = (k : Int) := by rw [HI.out, hP]; rfl
        have hB : B = true := by rw [HB.out, hP]; rfl
        subst hI hB
        rw [decide_eq_true ep] at hm
        have HEP := Hid.mk2 ep
        clear ep hP
        go_wp2_with (go_at_call 64; refine (hm _).mono ?_; rintro e w2 ⟨rfl, hb2⟩)
        go_ret2
        exact ⟨rfl, hbr.trans ((below_alloc hb2).mono (by omega))⟩
      · rw [decide_eq_false ep] at hm
        have HEP := Hid.mk2 ep
        clear ep
        go_wp2_with (go_at_call 64; refine (hm _).mono ?_; rintro e w2 ⟨rfl, hb2⟩)
        go_roundw
        case rel => exact ⟨k + 1, by omega, by go_num, hbr.trans ((below_alloc hb2).mono (by omega)), by have := (below_alloc hb2).size; omega, fun i h => by
          by_cases e : i = k
          · subst e; rw [HFI.out, if_neg HEP.out]
          · exact HOK.out i (by omega)⟩
        case measure => simp [intOf]; omega
    · have hlt2 : decide ((k : Int) < (ps.length : Int)) = false := by simp; omega
      have hP : freeP ps = none := firstN_none (fun i hi => HOK.out i (by omega))
      have hI : I = 0 := by rw [HI.out, hP]; rfl
      have hB : B = false := by rw [HB.out, hP]; rfl
      subst hI hB
      clear hP
      go_wp2
      go_ret2
      exact ⟨rfl, hbr⟩
end Go.Proofs.Ytkcgleahbhmggaa
