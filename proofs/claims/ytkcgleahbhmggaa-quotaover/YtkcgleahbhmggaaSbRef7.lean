/-
  The document's Take and Free once more; Last; Owned and Last that are refused.
-/
import Derived.Test.YtkcgleahbhmggaaSbRef6
namespace Go.Proofs.Ytkcgleahbhmggaa
open Go.RowKit
set_option linter.unusedSimpArgs false
set_option linter.unusedVariables false
set_option maxRecDepth 100000

theorem rtake_sb (w : World) (ao : Option Addr) (ps : List Pg) (cap : Nat) (h : Sb w ao ps cap) (t c q E : Int) (R : List Pg) (i k : Nat) (hE : takeE ps t c q = E) (hR : takeR ps t c q = (R, i, k)) :
    Calls Try.prog 38 #[.agg #[.slice ao ps.length cap], .int .i64 t, .int .i64 c, .int .i64 q] w fun e w' => ∃ ro rc, e = .returned (.tuple #[.agg #[.slice ro R.length rc], .int .i64 i, .int .i64 k, .int .i64 E]) ∧ Sb w' ro R rc ∧ Below w.heap.size w w' := by
  have hbad : ∀ e : Int, takeE ps t c q = e → ¬ e = 0 → (Calls Try.prog 38 #[.agg #[.slice ao ps.length cap], .int .i64 t, .int .i64 c, .int .i64 q] w fun x w' => x = .returned (.tuple #[.agg #[.slice none 0 0], .int .i64 0, .int .i64 0, .int .i64 e]) ∧ Below w.heap.size w w') →
      Calls Try.prog 38 #[.agg #[.slice ao ps.length cap], .int .i64 t, .int .i64 c, .int .i64 q] w fun e w' => ∃ ro rc, e = .returned (.tuple #[.agg #[.slice ro R.length rc], .int .i64 i, .int .i64 k, .int .i64 E]) ∧ Sb w' ro R rc ∧ Below w.heap.size w w' := by
    intro e he hne hc
    have e2 : takeR ps t c q = ([], 0, 0) := by unfold takeR; rw [if_neg (by rw [he]; exact hne)]
    rw [e2] at hR
    cases hR
    rw [he] at hE
    subst hE
    refine hc.mono ?_
    rintro x w' ⟨rfl, hb⟩
    exact ⟨none, 0, rfl, Sb.nil _, hb⟩
  cases eO : sOk ps
  · refine hbad 8 (by unfold takeE; rw [if_pos eO]) (by decide) ?_
    exact rtake_bad8 w ao ps cap h t c q eO
  cases eT : isT t
  · refine hbad 2 (by unfold takeE; rw [if_neg (by rw [eO]; decide), if_pos eT]) (by decide) ?_
    exact rtake_bad2 w ao ps cap h t c q eO (.inl eT)
  cases eC : isC c
  · exact hbad 2 (by unfold takeE; rw [if_neg (by rw [eO]; decide), if_neg (by rw [eT]; decide), if_pos eC]) (by decide) (rtake_bad2 w ao ps cap h t c q eO (.inr (.inl eC)))
  cases eQ : isQ q
  · exact hbad 2 (by unfold takeE; rw [if_neg (by rw [eO]; decide), if_neg (by rw [eT]; decide), if_neg (by rw [eC]; decide), if_pos eQ]) (by decide) (rtake_bad2 w ao ps cap h t c q eO (.inr (.inr eQ)))
  cases eP : place ps t c q with
  | none => exact hbad 9 (by unfold takeE; rw [if_neg (by rw [eO]; decide), if_neg (by rw [eT]; decide), if_neg (by rw [eC]; decide), if_neg (by rw [eQ]; decide), if_pos (by rw [eP]; rfl)]) (by decide) (rtake_bad9 w ao ps cap h t c q eO eT eC eQ eP)
  | some x =>
    obtain ⟨i', k'⟩ := x
    have e1 : takeE ps t c q = 0 := by unfold takeE; rw [if_neg (by rw [eO]; decide), if_neg (by rw [eT]; decide), if_neg (by rw [eC]; decide), if_neg (by rw [eQ]; decide), if_neg (by rw [eP]; simp)]
    have e2 : takeR ps t c q = (ps.set i' (taken ps t c i' k'), i', k') := by unfold takeR; rw [if_pos e1, eP]
    rw [e2] at hR
    simp only [Prod.mk.injEq] at hR
    obtain ⟨rfl, rfl, rfl⟩ := hR
    rw [e1] at hE
    subst hE
    refine (rtake_good w ao ps cap h t c q eO eT eC eQ _ _ eP).mono ?_
    rintro x w' ⟨ro, rc, rfl, hs, hb⟩
    exact ⟨ro, rc, by rw [List.length_set], hs, hb⟩
theorem rfree_sb (w : World) (ao : Option Addr) (ps : List Pg) (cap : Nat) (h : Sb w ao ps cap) (i k E : Int) (R : List Pg) (hE : freeE ps i k = E) (hR : freeR ps i k = R) :
    Calls Try.prog 39 #[.agg #[.slice ao ps.length cap], .int .i64 i, .int .i64 k] w fun e w' => ∃ ro rc, e = .returned (.tuple #[.agg #[.slice ro R.length rc], .int .i64 E]) ∧ Sb w' ro R rc ∧ Below w.heap.size w w' := by
  have hbad : ∀ e : Int, freeE ps i k = e → ¬ e = 0 → (Calls Try.prog 39 #[.agg #[.slice ao ps.length cap], .int .i64 i, .int .i64 k] w fun x w' => x = .returned (.tuple #[.agg #[.slice none 0 0], .int .i64 e]) ∧ Below w.heap.size w w') →
      Calls Try.prog 39 #[.agg #[.slice ao ps.length cap], .int .i64 i, .int .i64 k] w fun e w' => ∃ ro rc, e = .returned (.tuple #[.agg #[.slice ro R.length rc], .int .i64 E]) ∧ Sb w' ro R rc ∧ Below w.heap.size w w' := by
    intro e he hne hc
    have e2 : freeR ps i k = [] := by unfold freeR; rw [if_neg (by rw [he]; exact hne)]
    rw [e2] at hR
    subst hR
    rw [he] at hE
    subst hE
    refine hc.mono ?_
    rintro x w' ⟨rfl, hb⟩
    exact ⟨none, 0, rfl, Sb.nil _, hb⟩
  cases eO : sOk ps
  · exact hbad 8 (by unfold freeE; rw [if_pos eO]) (by decide) (rfree_bad8 w ao ps cap h i k eO)
  cases eI : inP ps i
  · exact hbad 2 (by unfold freeE; rw [if_neg (by rw [eO]; decide), if_pos eI]) (by decide) (rfree_bad2 w ao ps cap h i k eO eI)
  have hI : 0 ≤ i ∧ i < (ps.length : Int) := by simpa [inP] using eI
  obtain ⟨I, rfl⟩ : ∃ I : Nat, i = (I : Int) := ⟨i.toNat, by omega⟩
  have hI2 : I < ps.length := by omega
  have eP : pgAt ps I = ps[I] := by unfold pgAt; rw [Int.toNat_natCast, List.getElem?_eq_getElem hI2]; rfl
  cases eK : hasK ps[I] k
  · exact hbad 6 (by unfold freeE; rw [if_neg (by rw [eO]; decide), if_neg (by rw [eI]; decide), if_pos (by rw [eP]; exact eK)]) (by decide) (rfree_bad6 w ao ps cap h I k eO hI2 eK)
  · have e1 : freeE ps I k = 0 := by unfold freeE; rw [if_neg (by rw [eO]; decide), if_neg (by rw [eI]; decide), if_neg (by rw [eP, eK]; decide)]
    have hk := hasK_lt (sOk_pg eO I hI2) eK
    obtain ⟨K, rfl⟩ : ∃ K : Nat, k = (K : Int) := ⟨k.toNat, by omega⟩
    have e2 : freeR ps I K = ps.set I (given ps[I] K) := by unfold freeR; rw [if_pos e1, eP, Int.toNat_natCast, Int.toNat_natCast]
    rw [e2] at hR
    subst hR
    rw [e1] at hE
    subst hE
    refine (rfree_good w ao ps cap h I K eO hI2 eK).mono ?_
    rintro x w' ⟨ro, rc, rfl, hs, hb⟩
    exact ⟨ro, rc, by rw [List.length_set], hs, hb⟩
theorem Owned_bad (w : World) (ao : Option Addr) (ps : List Pg) (cap : Nat) (h : Sb w ao ps cap) (t : Int) (he : ¬ tE ps t = 0) :
    Calls Try.prog 25 #[.agg #[.slice ao ps.length cap], .int .i64 t] w fun e w' => e = .returned (.tuple #[.int .i64 0, .int .i64 (tE ps t)]) ∧ Below w.heap.size w w' := by
  have HCT := Hid.mk2 (fun W (hb : Below w.heap.size w W) => checkTenant_any W ao ps cap (h.below hb) t)
  have ha : ∀ o, Below w.heap.size w (w.alloc o) := fun o => (Below.refl _ _).alloc (Nat.le_refl _) _
  obtain ⟨E, hE⟩ : ∃ E, E = tE ps t := ⟨_, rfl⟩
  rw [← hE] at he HCT ⊢
  have he2 : (E != 0) = true := by simp [he]
  clear h he hE
  go_enter Try.func25, Try.ntmps25
  go_wp2_with (go_at_call 54; refine (HCT.out _ (ha _)).mono ?_; rintro e w1 ⟨rfl, hb1⟩)
  go_ret2
  exact ⟨rfl, below_alloc hb1⟩
theorem Last_bad (w : World) (ao : Option Addr) (ps : List Pg) (cap : Nat) (h : Sb w ao ps cap) (t : Int) (he : ¬ tE ps t = 0) :
    Calls Try.prog 27 #[.agg #[.slice ao ps.length cap], .int .i64 t] w fun e w' => e = .returned (.tuple #[.int .i64 0, .int .i64 (tE ps t)]) ∧ Below w.heap.size w w' := by
  have HCT := Hid.mk2 (fun W (hb : Below w.heap.size w W) => checkTenant_any W ao ps cap (h.below hb) t)
  have ha : ∀ o, Below w.heap.size w (w.alloc o) := fun o => (Below.refl _ _).alloc (Nat.le_refl _) _
  obtain ⟨E, hE⟩ : ∃ E, E = tE ps t := ⟨_, rfl⟩
  rw [← hE] at he HCT ⊢
  have he2 : (E != 0) = true := by simp [he]
  clear h he hE
  go_enter Try.func27, Try.ntmps27
  go_wp2_with (go_at_call 54; refine (HCT.out _ (ha _)).mono ?_; rintro e w1 ⟨rfl, hb1⟩)
  go_ret2
  exact ⟨rfl, below_alloc hb1⟩
theorem Last_any (w : World) (ao : Option Addr) (ps : List Pg) (cap : Nat) (h : Sb w ao ps cap) (ho : sOk ps = true) (t : Int) (ht : isT t = true) :
    Calls Try.prog 27 #[.agg #[.slice ao ps.length cap], .int .i64 t] w fun e w' => e = .returned (.tuple #[.int .i64 (lastI ps t), .int .i64 0]) ∧ Below w.heap.size w w' := by
  have HCT := Hid.mk2 (fun W (hb : Below w.heap.size w W) => checkTenant_any W ao ps cap (h.below hb) t)
  rw [show tE ps t = 0 by unfold tE; rw [ho, ht]; rfl] at HCT
  have hlen := sOk_len ho
  have ha : ∀ o, Below w.heap.size w (w.alloc o) := fun o => (Below.refl _ _).alloc (Nat.le_refl _) _
  obtain ⟨b, off, rfl, hbl, hcs⟩ := h.lies (by intro e; rw [e] at hlen; simp at hlen)
  have HC := Hid.mk2 hcs
  have hcap := h.hl
  obtain ⟨M, hM⟩ : ∃ M, M = lastI ps t := ⟨_, rfl⟩
  rw [← hM]
  have HM := Hid.mk2 hM
  clear h ho ht hM hcs
  go_enter Try.func27, Try.ntmps27
  go_wp2_with (go_at_call 54; refine (HCT.out _ (ha _)).mono ?_; rintro e w1 ⟨rfl, hb1⟩; have z : w1.cell? ⟨w.heap.size, 0, none⟩ = some (.slice (some ⟨b, off, none⟩) ps.length cap) := (below_cells hb1 _ 0 (by simp)).trans (by simp); have hs1 : w.heap.size < w1.heap.size := by (have := hb1.size; simp at this; omega))
  have HB1 := Hid.mk2 (below_alloc hb1)
  clear hb1
  go_loopw [7, 19] (fun m i wr => ∃ (k : Nat) (m' : Int), k ≤ ps.length ∧ i = .int .i64 k ∧ m = .int .i64 m' ∧ Hid (Below w.heap.size w wr) ∧ w.heap.size < wr.heap.size ∧ Hid (m' = lastI (ps.take k) t)) (fun _ i _ => ps.length - (intOf i).toNat)
  case atStart => exact ⟨0, -1, Nat.zero_le _, rfl, rfl, HB1, hs1, rfl⟩
  case round =>
    obtain ⟨k, m', hk, rfl, rfl, HBR, hsz, HOK⟩ := hrel
    by_cases hlt : k < ps.length
    · have hlt2 : (k : Int) < (ps.length : Int) := by omega
      obtain ⟨p, hpe⟩ : ∃ p, p = ps[k] := ⟨_, rfl⟩
      have hL := HC.out k hlt
      have hO := lastI_take t hlt
      rw [← hpe] at hL hO
      have HO := Hid.mk2 hO
      obtain ⟨r0, r1, r2⟩ := hL.below HBR.out hbl
      have hbl2 : b < wr.heap.size := by omega
      clear hpe hL hO
      have hm := fun W => isOf_any p t W
      cases ep : isOf t p
      · rw [ep] at hm HO
        go_wp2_with (go_at_call 61; refine (hm _).mono ?_; rintro e w2 ⟨rfl, hb2⟩)
        go_roundw
        case rel => exact ⟨k + 1, m', by omega, by go_num, rfl, HBR.out.trans ((below_alloc hb2).mono (by omega)), by have := (below_alloc hb2).size; omega, by have := HO.out; simp at this; show _ = _; rw [this]; exact HOK.out⟩
        case measure => simp [intOf]; omega
      · rw [ep] at hm HO
        go_wp2_with (go_at_call 61; refine (hm _).mono ?_; rintro e w2 ⟨rfl, hb2⟩)
        go_roundw
        case rel => exact ⟨k + 1, (k : Int), by omega, by go_num, rfl, HBR.out.trans ((below_alloc hb2).mono (by omega)), by have := (below_alloc hb2).size; omega, by have := HO.out; simp at this; show _ = _; rw [this]⟩
        case measure => simp [intOf]; omega
    · have hlt2 : decide ((k : Int) < (ps.length : Int)) = false := by simp; omega
      have hM : M = m' := by
        rw [HM.out, HOK.out, List.take_of_length_le (by omega)]
      subst hM
      go_wp2
      go_ret2
      exact ⟨rfl, HBR.out⟩
end Go.Proofs.Ytkcgleahbhmggaa
