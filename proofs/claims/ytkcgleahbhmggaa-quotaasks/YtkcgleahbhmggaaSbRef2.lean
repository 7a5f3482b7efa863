/-
  Contracts of the document's Check, Last and Same, and of Last.
-/
import Derived.Test.YtkcgleahbhmggaaSbRef
namespace Go.Proofs.Ytkcgleahbhmggaa
open Go.RowKit
set_option linter.unusedSimpArgs false
set_option linter.unusedVariables false
set_option maxRecDepth 100000

theorem lastI_snd (t : Int) : ∀ (ps : List Pg) (x : Int × Int), (ps.foldl (fun (x : Int × Int) p => (if isOf t p then x.2 else x.1, x.2 + 1)) x).2 = x.2 + ps.length
  | [], x => by simp
  | p :: ps, x => by rw [List.foldl_cons, lastI_snd t ps]; simp; omega
theorem lastI_take {ps : List Pg} {k : Nat} (t : Int) (h : k < ps.length) : lastI (ps.take (k + 1)) t = if isOf t ps[k] = true then (k : Int) else lastI (ps.take k) t := by
  unfold lastI
  rw [List.take_succ_eq_append_getElem h, List.foldl_append]
  have e := lastI_snd t (ps.take k) (-1, 0)
  simp only [List.foldl_cons, List.foldl_nil]
  rw [e]
  simp
  rw [Nat.min_eq_left (by omega)]
theorem rlast_any (w : World) (ao : Option Addr) (ps : List Pg) (cap : Nat) (h : Sb w ao ps cap) (hl : ps.length ≤ 1000) (t : Int) :
    Calls Try.prog 42 #[.agg #[.slice ao ps.length cap], .int .i64 t] w fun e w' => e = .returned (.int .i64 (lastI ps t)) ∧ Below w.heap.size w w' := by
  have HS := Hid.mk2 h
  have hcap := h.hl
  clear h
  obtain ⟨M, hM⟩ : ∃ M, M = lastI ps t := ⟨_, rfl⟩
  rw [← hM]
  have HM := Hid.mk2 hM
  clear hM
  go_enter Try.func42, Try.ntmps42
  go_wp2
  go_loopw [5, 6] (fun m i wr => ∃ (k : Nat) (m' : Int), k ≤ ps.length ∧ i = .int .i64 k ∧ m = .int .i64 m' ∧ Below w.heap.size w wr ∧ w.heap.size < wr.heap.size ∧ wr.cell? ⟨w.heap.size, 0, none⟩ = some (.slice ao ps.length cap) ∧ Hid (m' = lastI (ps.take k) t)) (fun _ i _ => ps.length - (intOf i).toNat)
  case atStart => exact ⟨0, -1, Nat.zero_le _, rfl, rfl, (Below.refl _ _).alloc (Nat.le_refl _) _, by simp, by simp, rfl⟩
  case round =>
    obtain ⟨k, m', hk, rfl, rfl, hbr, hsz, c0, HOK⟩ := hrel
    by_cases hlt : k < ps.length
    · have hlt2 : (k : Int) < (ps.length : Int) := by omega
      have hne : ps ≠ [] := by intro e; rw [e] at hlt; simp at hlt
      obtain ⟨b, off, rfl, hbl, hcs⟩ := HS.out.lies hne
      obtain ⟨p, hpe⟩ : ∃ p, p = ps[k] := ⟨_, rfl⟩
      have hL := hcs k hlt
      have hO := lastI_take t hlt
      rw [← hpe] at hL hO
      have HO := Hid.mk2 hO
      obtain ⟨r0, r1, r2⟩ := hL.below hbr hbl
      have hbl2 : b < wr.heap.size := by omega
      clear hpe hL hcs hne hO
      have hm := fun W => risFree_any p W
      by_cases ez : p.u = 0
      · rw [decide_eq_true ez] at hm
        have hn : isOf t p = false := by simp [isOf, ez]
        rw [hn] at HO
        have HEZ := Hid.mk2 ez
        clear ez hn
        go_wp2_with (go_at_call 68; refine (hm _).mono ?_; rintro e w2 ⟨rfl, hb2⟩; have c2 := (below_cells hb2 _ 0 hsz).trans c0; have z2 := Nat.lt_of_lt_of_le hsz hb2.size)
        go_roundw
        case rel => exact ⟨k + 1, m', by omega, by go_num, rfl, hbr.trans (hb2.mono (by omega)), z2, c2, by have := HO.out; simp at this; show _ = _; rw [this]; exact HOK.out⟩
        case measure => simp [intOf]; omega
      · rw [decide_eq_false ez] at hm
        have HEZ := Hid.mk2 ez
        clear ez
        by_cases et : p.t = t
        · have g1 : (p.t == t) = true := by simp [et]
          have hn : isOf t p = true := by simp [isOf, HEZ.out, et]
          rw [hn] at HO
          clear et hn
          go_wp2_with (go_at_call 68; refine (hm _).mono ?_; rintro e w2 ⟨rfl, hb2⟩; have c2 := (below_cells hb2 _ 0 hsz).trans c0; have z2 := Nat.lt_of_lt_of_le hsz hb2.size; have s0 := (below_cells hb2 _ _ hbl2).trans r0; have z3 := Nat.lt_of_lt_of_le hbl2 hb2.size)
          go_roundw
          case rel => exact ⟨k + 1, (k : Int), by omega, by go_num, rfl, hbr.trans (hb2.mono (by omega)), z2, c2, by have := HO.out; simp at this; show _ = _; rw [this]⟩
          case measure => simp [intOf]; omega
        · have g1 : (p.t == t) = false := by simp [et]
          have hn : isOf t p = false := by simp [isOf, et]
          rw [hn] at HO
          clear et hn
          go_wp2_with (go_at_call 68; refine (hm _).mono ?_; rintro e w2 ⟨rfl, hb2⟩; have c2 := (below_cells hb2 _ 0 hsz).trans c0; have z2 := Nat.lt_of_lt_of_le hsz hb2.size; have s0 := (below_cells hb2 _ _ hbl2).trans r0; have z3 := Nat.lt_of_lt_of_le hbl2 hb2.size)
          go_roundw
          case rel => exact ⟨k + 1, m', by omega, by go_num, rfl, hbr.trans (hb2.mono (by omega)), z2, c2, by have := HO.out; simp at this; show _ = _; rw [this]; exact HOK.out⟩
          case measure => simp [intOf]; omega
    · have hlt2 : decide ((k : Int) < (ps.length : Int)) = false := by simp; omega
      have hM : M = m' := by
        rw [HM.out, HOK.out, List.take_of_length_le (by omega)]
      subst hM
      go_wp2
      go_ret
      exact ⟨rfl, hbr⟩
theorem rcheck_any (w : World) (ao : Option Addr) (ps : List Pg) (cap : Nat) (h : Sb w ao ps cap) :
    Calls Try.prog 24 #[.agg #[.slice ao ps.length cap]] w fun e w' => e = .returned (.int .i64 (sE ps)) ∧ Below w.heap.size w w' := by
  have HS := Hid.mk2 h
  have hmx : ps.length ≤ 9223372036854775807 := by have := h.hl; have := h.hc; omega
  have hcap := h.hl
  clear h
  by_cases h1 : ps.length < 1
  · have e : sE ps = 8 := by unfold sE sOk; rw [if_neg]; simp; omega
    rw [e]
    have h1' : decide ((ps.length : Int) < 1) = true := by simp; omega
    clear e
    go_enter Try.func24, Try.ntmps24
    go_wp2
    go_ret
    exact ⟨rfl, (Below.refl _ _).alloc (Nat.le_refl _) _⟩
  have h1' : decide ((ps.length : Int) < 1) = false := by simp; omega
  by_cases h2 : 16 < ps.length
  · have e : sE ps = 8 := by unfold sE sOk; rw [if_neg]; simp; omega
    rw [e]
    have h2' : decide ((16 : Int) < ps.length) = true := by simp; omega
    clear e
    go_enter Try.func24, Try.ntmps24
    go_wp2
    go_ret
    exact ⟨rfl, (Below.refl _ _).alloc (Nat.le_refl _) _⟩
  have h2' : decide ((16 : Int) < ps.length) = false := by simp; omega
  have hne : ps ≠ [] := by intro e; rw [e] at h1; simp at h1
  obtain ⟨b, off, rfl, hbl, hcs⟩ := HS.out.lies hne
  have HC := Hid.mk2 hcs
  obtain ⟨E, hE⟩ : ∃ E, E = sE ps := ⟨_, rfl⟩
  rw [← hE]
  have HE := Hid.mk2 hE
  have H8 : Hid (∀ k (hk : k < ps.length), pOk ps[k] = false → E = 8) := by
    intro k hk ep
    rw [hE]
    unfold sE sOk
    rw [if_neg]
    simp
    intro _ _
    exact ⟨ps[k], List.getElem_mem hk, ep⟩
  clear hcs hE hne
  go_enter Try.func24, Try.ntmps24
  go_wp2
  go_loopw [3] (fun i wr => ∃ k : Nat, k ≤ ps.length ∧ i = .int .i64 k ∧ Below w.heap.size w wr ∧ w.heap.size < wr.heap.size ∧ wr.cell? ⟨w.heap.size, 0, none⟩ = some (.slice (some ⟨b, off, none⟩) ps.length cap) ∧ Hid (∀ i (hi : i < ps.length), i < k → pOk ps[i] = true)) (fun i _ => ps.length - (intOf i).toNat)
  case atStart => exact ⟨0, Nat.zero_le _, rfl, (Below.refl _ _).alloc (Nat.le_refl _) _, by simp, by simp, fun _ _ h => absurd h (by omega)⟩
  case round =>
    obtain ⟨k, hk, rfl, hbr, hsz, c0, HOK⟩ := hrel
    by_cases hlt : k < ps.length
    · have hlt2 : (k : Int) < (ps.length : Int) := by omega
      obtain ⟨p, hpe⟩ : ∃ p, p = ps[k] := ⟨_, rfl⟩
      have hL := HC.out k hlt
      have h8 := H8.out k hlt
      rw [← hpe] at hL h8
      have HPE := Hid.mk2 hpe
      have HP8 := Hid.mk2 h8
      obtain ⟨r0, r1, r2⟩ := hL.below hbr hbl
      have hbl2 : b < wr.heap.size := by omega
      clear hpe hL h8
      have HNX : Hid (pOk p = true → ∀ i (hi : i < ps.length), i < k + 1 → pOk ps[i] = true) := by
        intro ep i hi h
        by_cases e : i = k
        · subst e; rw [← HPE.out]; exact ep
        · exact HOK.out i hi (by omega)
      have hit := fun W => risTenant_any p.t W
      have hic := fun W => risClass_any p.c W
      by_cases hu : p.u = 0
      · have g1 : ((p.u : Int) == 0) = true := by simp [hu]
        have HU := Hid.mk2 hu
        clear hu
        by_cases ht : p.t = 0
        · by_cases hc : p.c = 0
          · have g2 : (p.t != 0) = false := by simp [ht]
            have g3 : (p.c != 0) = false := by simp [hc]
            have HPO : Hid (pOk p = true) := by
              have e : p = pz := Pg.eq ht hc HU.out
              rw [e]; rfl
            clear ht hc
            go_wp2
            go_roundw
            case rel => exact ⟨k + 1, by omega, by go_num, hbr.alloc (by omega) _, by simp; omega, (World.cell?_alloc_past _ _ _ hsz).trans c0, HNX.out HPO.out⟩
            case measure => simp [intOf]; omega
          · have g2 : (p.t != 0) = false := by simp [ht]
            have g3 : (p.c != 0) = true := by simp [hc]
            have hE8 : E = 8 := HP8.out (by unfold pOk; rw [if_pos HU.out]; simp; intro e; rw [e] at hc; exact hc rfl)
            subst hE8
            clear ht hc
            go_wp2
            go_ret
            exact ⟨rfl, hbr.alloc (by omega) _⟩
        · have g2 : (p.t != 0) = true := by simp [ht]
          have hE8 : E = 8 := HP8.out (by unfold pOk; rw [if_pos HU.out]; simp; intro e; rw [e] at ht; exact ht rfl)
          subst hE8
          clear ht
          go_wp2
          go_ret
          exact ⟨rfl, hbr.alloc (by omega) _⟩
      · have g1 : ((p.u : Int) == 0) = false := by simp [hu]
        have HU := Hid.mk2 hu
        clear hu
        cases eT : isT p.t
        · have hE8 : E = 8 := HP8.out (by unfold pOk; rw [if_neg HU.out, eT]; rfl)
          subst hE8
          rw [eT] at hit
          clear eT
          go_wp2_with (go_at_call 40; refine (hit _).mono ?_; rintro e w2 ⟨rfl, hwq⟩; obtain rfl := hwq)
          go_ret
          exact ⟨rfl, hbr.alloc (by omega) _⟩
        · cases eC : isC p.c
          · have hE8 : E = 8 := HP8.out (by unfold pOk; rw [if_neg HU.out, eT, eC]; rfl)
            subst hE8
            rw [eT] at hit
            rw [eC] at hic
            clear eT eC
            go_wp2_with (first
              | (go_at_call 40; refine (hit _).mono ?_; rintro e w2 ⟨rfl, hwq⟩; obtain rfl := hwq)
              | (go_at_call 51; refine (hic _).mono ?_; rintro e w2 ⟨rfl, hwq⟩; obtain rfl := hwq))
            go_ret
            exact ⟨rfl, hbr.alloc (by omega) _⟩
          · have hch := fun W => rchunks_any p.c W eC
            have hcl := chunks_le eC
            have HPB : Hid (pOk p = decide (p.u < 2 ^ chunks p.c)) := by show pOk p = _; unfold pOk; rw [if_neg HU.out, eT, eC]; simp
            obtain ⟨N, hN⟩ : ∃ N, N = chunks p.c := ⟨_, rfl⟩
            rw [← hN] at hch hcl HPB
            rw [eT] at hit
            rw [eC] at hic
            clear eT eC hN
            go_wp2_with (first
              | (go_at_call 40; refine (hit _).mono ?_; rintro e w2 ⟨rfl, hwq⟩; obtain rfl := hwq)
              | (go_at_call 51; refine (hic _).mono ?_; rintro e w2 ⟨rfl, hwq⟩; obtain rfl := hwq)
              | (go_at_call 52; refine (hch _).mono ?_; rintro e w2 ⟨rfl, hwq⟩; obtain rfl := hwq))
            obtain ⟨w2, hw2⟩ : ∃ w2, w2 = wr.alloc (Obj.cells #[Value.int .i64 p.t, Value.int .i64 p.c, Value.int .u16 (p.u : Int)] 30) := ⟨_, rfl⟩
            obtain ⟨pb, hpb⟩ : ∃ pb, pb = wr.heap.size := ⟨_, rfl⟩
            rw [← hw2, ← hpb]
            have q0 : w2.cell? ⟨pb, 0, none⟩ = some (.int .i64 p.t) := by rw [hw2, hpb]; simp
            have q1 : w2.cell? ⟨pb, 1, none⟩ = some (.int .i64 p.c) := by rw [hw2, hpb]; simp
            have q2 : w2.cell? ⟨pb, 2, none⟩ = some (.int .u16 (p.u : Int)) := by rw [hw2, hpb]; simp
            have q3 : pb < w2.heap.size := by rw [hw2, hpb]; simp
            have q4 : w2.cell? ⟨w.heap.size, 0, none⟩ = some (.slice (some ⟨b, off, none⟩) ps.length cap) := by rw [hw2]; exact (World.cell?_alloc_past _ _ _ hsz).trans c0
            have q5 : w.heap.size < w2.heap.size := by rw [hw2]; simp; omega
            have HBW : Hid (Below w.heap.size w w2) := by rw [hw2]; exact hbr.alloc (by omega) _
            clear hw2 hpb hbr hsz c0 r0 r1 r2 hbl2
            go_loopw [5] (fun i wq => ∃ j : Nat, N ≤ j ∧ j ≤ 16 ∧ i = .int .i64 j ∧ Hid (Below w2.heap.size w2 wq) ∧ Hid (∀ i, N ≤ i → i < j → p.u.testBit i = false)) (fun i _ => 16 - (intOf i).toNat)
            case atStart => exact ⟨N, Nat.le_refl _, hcl.2, rfl, Below.refl _ _, fun i h1 h2 => absurd h1 (by omega)⟩
            case round =>
              obtain ⟨j, hj1, hj2, rfl, HQ, HZ⟩ := hrel
              have hsq := HQ.out.size
              have s0 := (below_cells HQ.out _ 0 q3).trans q0
              have s1 := (below_cells HQ.out _ 1 q3).trans q1
              have s2 := (below_cells HQ.out _ 2 q3).trans q2
              have s3 := Nat.lt_of_lt_of_le q3 hsq
              have s4 := (below_cells HQ.out _ 0 q5).trans q4
              have s5 := Nat.lt_of_lt_of_le q5 hsq
              have HQW := Hid.mk2 (HBW.out.trans (HQ.out.mono (Nat.le_of_lt q5)))
              by_cases hlt16 : j < 16
              · have hlt3 : (j : Int) < 16 := by omega
                have hha := fun W => rhas_any p (j : Int) W
                have hhe : hasK p (j : Int) = p.u.testBit j := by
                  have hd : decide ((0 : Int) ≤ (j : Int) ∧ (j : Int) < 16) = true := by simp; omega
                  unfold hasK
                  rw [hd, Int.toNat_natCast, Bool.true_and]
                rw [hhe] at hha
                clear hhe
                cases eb : p.u.testBit j
                · rw [eb] at hha
                  have HEB := Hid.mk2 eb
                  clear eb
                  go_wp2_with (go_at_call 53; refine (hha _).mono ?_; rintro e w5 ⟨rfl, hb5⟩)
                  go_roundw
                  case rel => exact ⟨j + 1, by omega, by omega, by go_num, HQ.out.trans (hb5.mono hsq), fun i h1 h2 => by
                    by_cases e : i = j
                    · subst e; exact HEB.out
                    · exact HZ.out i h1 (by omega)⟩
                  case measure => simp [intOf]; omega
                · rw [eb] at hha
                  have hE8 : E = 8 := HP8.out (by
                    rw [HPB.out]
                    simp
                    apply Decidable.byContradiction
                    intro hn
                    have h3 : p.u < 2 ^ j := Nat.lt_of_lt_of_le (by omega) (Nat.pow_le_pow_right (by decide) hj1)
                    rw [Nat.testBit_lt_two_pow h3] at eb
                    cases eb)
                  subst hE8
                  clear eb
                  go_wp2_with (go_at_call 53; refine (hha _).mono ?_; rintro e w5 ⟨rfl, hb5⟩)
                  go_ret
                  exact ⟨rfl, HQW.out.trans (hb5.mono (Nat.le_of_lt s5))⟩
              · have hlt3 : decide ((j : Int) < 16) = false := by simp; omega
                have HPO : Hid (pOk p = true) := by
                  rw [HPB.out]
                  simp
                  apply Nat.lt_pow_two_of_testBit
                  intro i hi
                  by_cases h16 : i < 16
                  · exact HZ.out i hi (by omega)
                  · exact Nat.testBit_lt_two_pow (Nat.lt_of_lt_of_le p.hu (by have : 2 ^ 16 ≤ 2 ^ i := Nat.pow_le_pow_right (by decide) (by omega); simpa using this))
                go_wp2
                go_roundw
                case rel => exact ⟨k + 1, by omega, by go_num, HQW.out, s5, s4, HNX.out HPO.out⟩
                case measure => simp [intOf]; omega
    · have hlt2 : decide ((k : Int) < (ps.length : Int)) = false := by simp; omega
      have hE : E = 0 := by
        rw [HE.out]
        unfold sE sOk
        rw [if_pos]
        rw [all_take (fun i hi => HOK.out i hi (by omega))]
        simp
        omega
      subst hE
      go_wp2
      go_ret
      exact ⟨rfl, hbr⟩
end Go.Proofs.Ytkcgleahbhmggaa
