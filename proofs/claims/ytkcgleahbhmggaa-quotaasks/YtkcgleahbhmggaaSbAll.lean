/-
  Take, Free, New and Owned once more: their answers' slabs, spelt out; and how many chunks are used.
-/
import Derived.Test.YtkcgleahbhmggaaSbTake2
import Derived.Test.YtkcgleahbhmggaaSbFree2
namespace Go.Proofs.Ytkcgleahbhmggaa
open Go.RowKit
set_option linter.unusedSimpArgs false
set_option linter.unusedVariables false
set_option maxRecDepth 100000

theorem take_sb (w : World) (ao : Option Addr) (ps : List Pg) (cap : Nat) (h : Sb w ao ps cap) (t c q E : Int) (R : List Pg) (i k : Nat) (hE : takeE ps t c q = E) (hR : takeR ps t c q = (R, i, k)) :
    Calls Try.prog 26 #[.agg #[.slice ao ps.length cap], .int .i64 t, .int .i64 c, .int .i64 q] w fun e w' => ∃ ro rc, e = .returned (.tuple #[.agg #[.slice ro R.length rc], .int .i64 i, .int .i64 k, .int .i64 E]) ∧ Sb w' ro R rc ∧ FreshS w' w.heap.size (.slice ro R.length rc) R ∧ Below w.heap.size w w' := by
  have hbad : ∀ e : Int, takeE ps t c q = e → ¬ e = 0 → (Calls Try.prog 26 #[.agg #[.slice ao ps.length cap], .int .i64 t, .int .i64 c, .int .i64 q] w fun x w' => x = .returned (.tuple #[.agg #[.slice none 0 0], .int .i64 0, .int .i64 0, .int .i64 e]) ∧ Below w.heap.size w w') →
      Calls Try.prog 26 #[.agg #[.slice ao ps.length cap], .int .i64 t, .int .i64 c, .int .i64 q] w fun e w' => ∃ ro rc, e = .returned (.tuple #[.agg #[.slice ro R.length rc], .int .i64 i, .int .i64 k, .int .i64 E]) ∧ Sb w' ro R rc ∧ FreshS w' w.heap.size (.slice ro R.length rc) R ∧ Below w.heap.size w w' := by
    intro e he hne hc
    have e2 : takeR ps t c q = ([], 0, 0) := by unfold takeR; rw [if_neg (by rw [he]; exact hne)]
    rw [e2] at hR
    cases hR
    rw [he] at hE
    subst hE
    refine hc.mono ?_
    rintro x w' ⟨rfl, hb⟩
    exact ⟨none, 0, rfl, Sb.nil _, FreshS.nil _ _, hb⟩
  cases eO : sOk ps
  · refine hbad 8 (by unfold takeE; rw [if_pos eO]) (by decide) ?_
    have e1 : tE ps t = 8 := by unfold tE; rw [if_pos eO]
    have := take_bad1 w ao ps cap h t c q (by rw [e1]; decide)
    rwa [e1] at this
  cases eT : isT t
  · refine hbad 2 (by unfold takeE; rw [if_neg (by rw [eO]; decide), if_pos eT]) (by decide) ?_
    have e1 : tE ps t = 2 := by unfold tE; rw [if_neg (by rw [eO]; decide), if_pos eT]
    have := take_bad1 w ao ps cap h t c q (by rw [e1]; decide)
    rwa [e1] at this
  have e0 : tE ps t = 0 := by unfold tE; rw [if_neg (by rw [eO]; decide), if_neg (by rw [eT]; decide)]
  cases eC : isC c
  · exact hbad 2 (by unfold takeE; rw [if_neg (by rw [eO]; decide), if_neg (by rw [eT]; decide), if_pos eC]) (by decide) (take_bad2 w ao ps cap h t c q e0 (.inl eC))
  cases eQ : isQ q
  · exact hbad 2 (by unfold takeE; rw [if_neg (by rw [eO]; decide), if_neg (by rw [eT]; decide), if_neg (by rw [eC]; decide), if_pos eQ]) (by decide) (take_bad2 w ao ps cap h t c q e0 (.inr eQ))
  cases eP : place ps t c q with
  | none => exact hbad 9 (by unfold takeE; rw [if_neg (by rw [eO]; decide), if_neg (by rw [eT]; decide), if_neg (by rw [eC]; decide), if_neg (by rw [eQ]; decide), if_pos (by rw [eP]; rfl)]) (by decide) (take_full w ao ps cap h t c q eO eT eC eQ eP)
  | some x =>
    obtain ⟨i', k'⟩ := x
    have e1 : takeE ps t c q = 0 := by unfold takeE; rw [if_neg (by rw [eO]; decide), if_neg (by rw [eT]; decide), if_neg (by rw [eC]; decide), if_neg (by rw [eQ]; decide), if_neg (by rw [eP]; simp)]
    have e2 : takeR ps t c q = (ps.set i' (taken ps t c i' k'), i', k') := by unfold takeR; rw [if_pos e1, eP]
    rw [e2] at hR
    simp only [Prod.mk.injEq] at hR
    obtain ⟨rfl, rfl, rfl⟩ := hR
    rw [e1] at hE
    subst hE
    refine (take_good w ao ps cap h t c q eO eT eC eQ _ _ eP).mono ?_
    rintro x w' ⟨v', rfl, hf, hb⟩
    obtain ⟨ro, rc, rfl, hs⟩ := hf.sb
    exact ⟨ro, rc, rfl, hs, hf, hb⟩
theorem free_sb (w : World) (ao : Option Addr) (ps : List Pg) (cap : Nat) (h : Sb w ao ps cap) (i k E : Int) (R : List Pg) (hE : freeE ps i k = E) (hR : freeR ps i k = R) :
    Calls Try.prog 28 #[.agg #[.slice ao ps.length cap], .int .i64 i, .int .i64 k] w fun e w' => ∃ ro rc, e = .returned (.tuple #[.agg #[.slice ro R.length rc], .int .i64 E]) ∧ Sb w' ro R rc ∧ FreshS w' w.heap.size (.slice ro R.length rc) R ∧ Below w.heap.size w w' := by
  have hbad : ∀ e : Int, freeE ps i k = e → ¬ e = 0 → (Calls Try.prog 28 #[.agg #[.slice ao ps.length cap], .int .i64 i, .int .i64 k] w fun x w' => x = .returned (.tuple #[.agg #[.slice none 0 0], .int .i64 e]) ∧ Below w.heap.size w w') →
      Calls Try.prog 28 #[.agg #[.slice ao ps.length cap], .int .i64 i, .int .i64 k] w fun e w' => ∃ ro rc, e = .returned (.tuple #[.agg #[.slice ro R.length rc], .int .i64 E]) ∧ Sb w' ro R rc ∧ FreshS w' w.heap.size (.slice ro R.length rc) R ∧ Below w.heap.size w w' := by
    intro e he hne hc
    have e2 : freeR ps i k = [] := by unfold freeR; rw [if_neg (by rw [he]; exact hne)]
    rw [e2] at hR
    subst hR
    rw [he] at hE
    subst hE
    refine hc.mono ?_
    rintro x w' ⟨rfl, hb⟩
    exact ⟨none, 0, rfl, Sb.nil _, FreshS.nil _ _, hb⟩
  cases eO : sOk ps
  · exact hbad 8 (by unfold freeE; rw [if_pos eO]) (by decide) (free_bad1 w ao ps cap h i k eO)
  cases eI : inP ps i
  · exact hbad 2 (by unfold freeE; rw [if_neg (by rw [eO]; decide), if_pos eI]) (by decide) (free_bad2 w ao ps cap h i k eO eI)
  have hI : 0 ≤ i ∧ i < (ps.length : Int) := by simpa [inP] using eI
  obtain ⟨I, rfl⟩ : ∃ I : Nat, i = (I : Int) := ⟨i.toNat, by omega⟩
  have hI2 : I < ps.length := by omega
  have eP : pgAt ps I = ps[I] := by unfold pgAt; rw [Int.toNat_natCast, List.getElem?_eq_getElem hI2]; rfl
  cases eK : hasK ps[I] k
  · exact hbad 6 (by unfold freeE; rw [if_neg (by rw [eO]; decide), if_neg (by rw [eI]; decide), if_pos (by rw [eP]; exact eK)]) (by decide) (free_bad3 w ao ps cap h I k eO hI2 eK)
  · have e1 : freeE ps I k = 0 := by unfold freeE; rw [if_neg (by rw [eO]; decide), if_neg (by rw [eI]; decide), if_neg (by rw [eP, eK]; decide)]
    have hk := hasK_lt (sOk_pg eO I hI2) eK
    obtain ⟨K, rfl⟩ : ∃ K : Nat, k = (K : Int) := ⟨k.toNat, by omega⟩
    have e2 : freeR ps I K = ps.set I (given ps[I] K) := by unfold freeR; rw [if_pos e1, eP, Int.toNat_natCast, Int.toNat_natCast]
    rw [e2] at hR
    subst hR
    rw [e1] at hE
    subst hE
    refine (free_good w ao ps cap h I K eO hI2 eK).mono ?_
    rintro x w' ⟨v', rfl, hf, hb⟩
    obtain ⟨ro, rc, rfl, hs⟩ := hf.sb
    exact ⟨ro, rc, rfl, hs, hf, hb⟩
theorem new_sb (n : Nat) (w : World) (hn : 1 ≤ n ∧ n ≤ 16) :
    Calls Try.prog 33 #[.int .i64 n] w fun e w' => ∃ ro rc, e = .returned (.tuple #[.agg #[.slice ro (List.replicate n pz).length rc], .int .i64 0]) ∧ Sb w' ro (List.replicate n pz) rc ∧ FreshS w' w.heap.size (.slice ro (List.replicate n pz).length rc) (List.replicate n pz) ∧ Below w.heap.size w w' := by
  refine (snew_any n w hn).mono ?_
  rintro e w' ⟨g, rfl, hg, hr, hb⟩
  have hF := row_pages hr hg (by simp; omega)
  obtain ⟨ro, rc, e, hs⟩ := hF.sb
  cases e
  rw [List.length_replicate] at *
  exact ⟨_, _, rfl, hs, hF, hb⟩
theorem Owned_any (w : World) (ao : Option Addr) (ps : List Pg) (cap : Nat) (h : Sb w ao ps cap) (ho : sOk ps = true) (t : Int) (ht : isT t = true) :
    Calls Try.prog 25 #[.agg #[.slice ao ps.length cap], .int .i64 t] w fun e w' => e = .returned (.tuple #[.int .i64 (owned ps t), .int .i64 0]) ∧ Below w.heap.size w w' := by
  have HCT := Hid.mk2 (fun W (hb : Below w.heap.size w W) => checkTenant_any W ao ps cap (h.below hb) t)
  rw [show tE ps t = 0 by unfold tE; rw [ho, ht]; rfl] at HCT
  have hlen := sOk_len ho
  have HOW := Hid.mk2 (fun W (hb : Below w.heap.size w W) => owned_any W ao ps cap (h.below hb) (by omega) t)
  have ha : ∀ o, Below w.heap.size w (w.alloc o) := fun o => (Below.refl _ _).alloc (Nat.le_refl _) _
  obtain ⟨O, hO⟩ : ∃ O, O = owned ps t := ⟨_, rfl⟩
  rw [← hO] at HOW ⊢
  clear h ho ht hO
  go_enter Try.func25, Try.ntmps25
  go_wp2_with (first
    | (go_at_call 54; refine (HCT.out _ (ha _)).mono ?_; rintro e w1 ⟨rfl, hb1⟩; have z : w1.cell? ⟨w.heap.size, 0, none⟩ = some (.slice ao ps.length cap) := (below_cells hb1 _ 0 (by simp)).trans (by simp); have hs1 : w.heap.size < w1.heap.size := by (have := hb1.size; simp at this; omega))
    | (go_at_call 55; refine (HOW.out _ (below_alloc hb1)).mono ?_; rintro e w2 ⟨rfl, hb2⟩))
  go_ret2
  exact ⟨rfl, (below_alloc hb1).trans (hb2.mono (by omega))⟩
/-- how many chunks are used -/
def cnt (u n : Nat) : Nat := (List.range n).countP u.testBit
theorem cnt_succ (u n : Nat) : cnt u (n + 1) = cnt u n + (if u.testBit n = true then 1 else 0) := by
  unfold cnt
  rw [List.range_succ, List.countP_append]
  simp [List.countP_cons]
theorem cnt_le (u : Nat) : ∀ n, cnt u n ≤ n
  | 0 => by simp [cnt]
  | n + 1 => by rw [cnt_succ]; have := cnt_le u n; split <;> omega
theorem cnt_all {u : Nat} : ∀ {n : Nat}, (∀ i, i < n → u.testBit i = true) → cnt u n = n
  | 0, _ => by simp [cnt]
  | n + 1, h => by rw [cnt_succ, cnt_all (fun i hi => h i (by omega)), if_pos (h n (by omega))]
theorem cnt_not {u : Nat} : ∀ {n k : Nat}, k < n → u.testBit k = false → cnt u n < n
  | 0, _, h, _ => absurd h (by omega)
  | n + 1, k, h, h1 => by
    rw [cnt_succ]
    by_cases e : k = n
    · subst e; rw [h1]; have := cnt_le u k; simp; omega
    · have := cnt_not (n := n) (by omega) h1; split <;> omega
theorem cnt_high {u m : Nat} (hu : u < 2 ^ m) : ∀ {n : Nat}, m ≤ n → cnt u n = cnt u m
  | 0, h => by have : m = 0 := by omega
               subst this; rfl
  | n + 1, h => by
    by_cases e : m = n + 1
    · subst e; rfl
    · have h3 : u < 2 ^ n := Nat.lt_of_lt_of_le hu (Nat.pow_le_pow_right (by decide) (by omega))
      rw [cnt_succ, Nat.testBit_lt_two_pow h3, cnt_high hu (n := n) (by omega)]
      simp
theorem used_any (p : Pg) (w : World) :
    Calls Try.prog 43 #[.agg #[.int .i64 p.t, .int .i64 p.c, .int .u16 (p.u : Int)]] w fun e w' => e = .returned (.int .i64 (cnt p.u 16)) ∧ Below w.heap.size w w' := by
  obtain ⟨C, hC⟩ : ∃ C, C = cnt p.u 16 := ⟨_, rfl⟩
  rw [← hC]
  have HC := Hid.mk2 hC
  clear hC
  go_enter Try.func43, Try.ntmps43
  go_wp2
  go_loopw [3, 4] (fun m i wr => ∃ k m' : Nat, k ≤ 16 ∧ m = .int .i64 m' ∧ i = .int .i64 k ∧ m' ≤ k ∧ Hid (m' = cnt p.u k) ∧ Hid (Below w.heap.size w wr) ∧ wr.cell? ⟨w.heap.size, 2, none⟩ = some (.int .u16 (p.u : Int)) ∧ w.heap.size < wr.heap.size) (fun _ i _ => 16 - (intOf i).toNat)
  case atStart => exact ⟨0, 0, by omega, rfl, rfl, Nat.le_refl _, rfl, (Below.refl _ _).alloc (Nat.le_refl _) _, by simp, by simp⟩
  case round =>
    obtain ⟨k, m', hk, rfl, rfl, hm, HM, HB, c2, hsz⟩ := hrel
    by_cases hlt : k < 16
    · have hlt2 : (k : Int) < 16 := by omega
      have e1 : ((p.u : Int) / 2 ^ k) = ((p.u / 2 ^ k : Nat) : Int) := by simp
      have hcs := cnt_succ p.u k
      rw [testBit_div] at hcs
      obtain ⟨D, hD⟩ : ∃ D, D = p.u / 2 ^ k := ⟨_, rfl⟩
      rw [← hD] at hcs e1
      have hDm : D % 2 < 2 := Nat.mod_lt _ (by decide)
      have hcs2 : cnt p.u (k + 1) = cnt p.u k + D % 2 := by
        rw [hcs]
        by_cases e : D % 2 = 1
        · simp [e]
        · have : D % 2 = 0 := by omega
          simp [this]
      have HCS := Hid.mk2 hcs2
      clear hcs hcs2 hD
      go_wp2
      go_roundw
      case rel => exact ⟨k + 1, m' + D % 2, by omega, by go_num, by go_num, by omega, by show _ = _; rw [HCS.out, HM.out], HB, c2, hsz⟩
      case measure => simp [intOf]; omega
    · have hlt2 : decide ((k : Int) < 16) = false := by simp; omega
      have hC : C = m' := by
        rw [HC.out, HM.out]
        have : k = 16 := by omega
        rw [this]
      subst hC
      go_wp2
      go_ret
      exact ⟨rfl, HB.out⟩
end Go.Proofs.Ytkcgleahbhmggaa
