/-
  What is given back, in numbers; and two slabs with the same pages.
-/
import Derived.Test.YtkcgleahbhmggaaSbOwns
namespace Go.Proofs.Ytkcgleahbhmggaa
open Go.RowKit
set_option linter.unusedSimpArgs false
set_option linter.unusedVariables false
set_option maxRecDepth 100000

theorem pg_ext {a b : Pg} (h1 : a.t = b.t) (h2 : a.c = b.c) (h3 : a.u = b.u) : a = b := Pg.eq h1 h2 h3
theorem taken_bit {ps : List Pg} {t c : Int} {i k : Nat} (hi : i < ps.length) (hk : k < 16) : (taken ps t c i k).u = ps[i].u ||| 2 ^ k := by
  show ((ps[i]?.getD pz).u ||| 2 ^ k) % 65536 = _
  rw [List.getElem?_eq_getElem hi]
  exact or_mod ps[i].hu hk
/-- what was taken, given back -/
theorem back_eq {ps : List Pg} {t c q : Int} {i k : Nat} (ho : sOk ps = true) (ht : isT t = true) (hc : isC c = true) (hp : place ps t c q = some (i, k)) :
    freeE (ps.set i (taken ps t c i k)) i k = 0 ∧ freeR (ps.set i (taken ps t c i k)) i k = ps := by
  obtain ⟨hi, hk, hbt, hor⟩ := place_lt hc hp
  have hk16 : k < 16 := by have := chunks_le hc; omega
  have hO := taken_ok ho ht hc hi hk hor
  have hu := taken_bit (t := t) (c := c) hi hk16
  have hi2 : i < (ps.set i (taken ps t c i k)).length := by simpa using hi
  have hP : pgAt (ps.set i (taken ps t c i k)) i = taken ps t c i k := by
    unfold pgAt
    rw [Int.toNat_natCast, List.getElem?_eq_getElem hi2]
    simp
  have hb : (taken ps t c i k).u.testBit k = true := by rw [hu, Nat.testBit_or, Nat.testBit_two_pow_self]; simp
  have hK : hasK (taken ps t c i k) k = true := by
    unfold hasK
    rw [Int.toNat_natCast, hb]
    simp
    omega
  have hI : inP (ps.set i (taken ps t c i k)) i = true := by unfold inP; simp; omega
  have hE : freeE (ps.set i (taken ps t c i k)) i k = 0 := by
    unfold freeE
    rw [if_neg (by rw [hO]; decide), if_neg (by rw [hI]; decide), if_neg (by rw [hP, hK]; decide)]
  refine ⟨hE, ?_⟩
  unfold freeR
  rw [if_pos hE, hP, Int.toNat_natCast, Int.toNat_natCast, List.set_set]
  have hg : given (taken ps t c i k) k = ps[i] := by
    have e : (taken ps t c i k).u - 2 ^ k = ps[i].u := by rw [hu, or_add hbt]; omega
    unfold given
    by_cases hz : ps[i].u = 0
    · rw [if_pos (by rw [e]; exact hz)]
      exact (pOk_zero (sOk_pg ho i hi) hz).symm
    · rw [if_neg (by rw [e]; exact hz)]
      rcases hor with h | ⟨h1, h2⟩
      · exact absurd h hz
      · exact pg_ext h1.symm h2.symm e
  rw [hg]
  exact List.set_getElem_self hi
theorem cnt_flip {u k : Nat} (h : u.testBit k = true) : ∀ n, cnt (u ^^^ 2 ^ k) n + (if k < n then 1 else 0) = cnt u n
  | 0 => by simp [cnt]
  | n + 1 => by
    have ih := cnt_flip h n
    rw [cnt_succ, cnt_succ, Nat.testBit_xor, Nat.testBit_two_pow]
    by_cases e : k = n
    · subst e
      simp [h] at ih ⊢
      omega
    · by_cases h2 : k < n
      · rw [if_pos h2] at ih
        simp [e, show k < n + 1 by omega]
        omega
      · rw [if_neg h2] at ih
        simp [e, show ¬ k < n + 1 by omega]
        omega
theorem cnt_zero {u : Nat} : ∀ {n : Nat}, cnt u n = 0 → ∀ i, i < n → u.testBit i = false
  | 0, _, i, hi => absurd hi (by omega)
  | n + 1, h, i, hi => by
    rw [cnt_succ] at h
    by_cases e : i = n
    · subst e
      cases hb : u.testBit i
      · rfl
      · rw [hb] at h; simp at h
    · exact cnt_zero (n := n) (by omega) i (by omega)
theorem cnt_pos {u : Nat} (hu : u < 65536) (hz : u ≠ 0) : 0 < cnt u 16 := by
  apply Decidable.byContradiction
  intro h
  apply hz
  apply Nat.eq_of_testBit_eq
  intro i
  rw [Nat.zero_testBit]
  by_cases hi : i < 16
  · exact cnt_zero (n := 16) (by omega) i hi
  · exact Nat.testBit_lt_two_pow (Nat.lt_of_lt_of_le hu (by have : 2 ^ 16 ≤ 2 ^ i := Nat.pow_le_pow_right (by decide) (by omega); simpa using this))
theorem given_u {p : Pg} {k : Nat} : (given p k).u = p.u - 2 ^ k := by
  unfold given
  split
  · rename_i h; rw [h]; rfl
  · rfl
theorem given_cnt {p : Pg} {k : Nat} (hk : k < 16) (hb : p.u.testBit k = true) : cnt (given p k).u 16 + 1 = cnt p.u 16 := by
  have h := cnt_flip hb 16
  rw [xor_sub hb, if_pos hk] at h
  rw [given_u]
  exact h
theorem given_end {p : Pg} {k : Nat} : 0 < cnt (given p k).u 16 ∨ given p k = pz := by
  by_cases h : p.u - 2 ^ k = 0
  · exact .inr (by unfold given; rw [if_pos h])
  · exact .inl (cnt_pos (given p k).hu (by rw [given_u]; exact h))
theorem given_ok {p : Pg} {k : Nat} (ho : pOk p = true) : pOk (given p k) = true := by
  unfold given
  split
  · rfl
  · rename_i h
    have h1 := pOk_t ho
    have h2 := pOk_c ho
    have h3 := pOk_u ho
    unfold pOk
    rw [if_neg h]
    simp only [h1, h2, Bool.true_and, decide_eq_true_eq]
    exact Nat.lt_of_le_of_lt (Nat.sub_le _ _) h3
theorem given_slab {ps : List Pg} {i k : Nat} (ho : sOk ps = true) (hi : i < ps.length) : sOk (ps.set i (given ps[i] k)) = true := by
  have hlen := sOk_len ho
  unfold sOk
  simp only [Bool.and_eq_true, decide_eq_true_eq, List.length_set]
  refine ⟨hlen, List.all_eq_true.2 fun p hp => ?_⟩
  rcases List.mem_or_eq_of_mem_set hp with h | h
  · obtain ⟨j, hj, rfl⟩ := List.mem_iff_getElem.1 h
    exact sOk_pg ho j hj
  · subst h
    exact given_ok (sOk_pg ho i hi)
/-- two slabs with the same pages -/
theorem same_eq (w : World) (ao ao' : Option Addr) (ps : List Pg) (cap cap' : Nat) (h : Sb w ao ps cap) (h' : Sb w ao' ps cap') (hl : ps.length ≤ 1000) :
    Calls Try.prog 34 #[.agg #[.slice ao ps.length cap], .agg #[.slice ao' ps.length cap']] w fun e w' => e = .returned (.bool true) ∧ Below w.heap.size w w' := by
  have HS := Hid.mk2 h
  have HS' := Hid.mk2 h'
  have hc1 := h.hl
  have hc2 := h'.hl
  clear h h'
  go_enter Try.func34, Try.ntmps34
  go_wp2
  obtain ⟨w0, hw0⟩ : ∃ w0, w0 = (w.alloc (Obj.cells #[Value.slice ao ps.length cap] 33)).alloc (Obj.cells #[Value.slice ao' ps.length cap'] 33) := ⟨_, rfl⟩
  rw [← hw0]
  have a0 : w0.cell? ⟨w.heap.size, 0, none⟩ = some (.slice ao ps.length cap) := by rw [hw0]; simp
  have b0 : w0.cell? ⟨w.heap.size + 1, 0, none⟩ = some (.slice ao' ps.length cap') := by rw [hw0]; simp
  have x0 : w.heap.size + 1 < w0.heap.size := by rw [hw0]; simp
  have HB0 : Hid (Below w.heap.size w w0) := by rw [hw0]; exact ((Below.refl _ _).alloc (Nat.le_refl _) _).alloc (by simp) _
  clear hw0
  go_loopw [5] (fun i wr => ∃ k : Nat, k ≤ ps.length ∧ i = .int .i64 k ∧ Hid (Below w0.heap.size w0 wr)) (fun i _ => ps.length - (intOf i).toNat)
  case atStart => exact ⟨0, Nat.zero_le _, rfl, Below.refl _ _⟩
  case round =>
    obtain ⟨k, hk, rfl, HB⟩ := hrel
    have hs := HB.out.size
    have a1 := (below_cells HB.out _ 0 (Nat.lt_of_succ_lt x0)).trans a0
    have b1 := (below_cells HB.out _ 0 x0).trans b0
    have z0 : w.heap.size < wr.heap.size := by omega
    have z1 : w.heap.size + 1 < wr.heap.size := by omega
    have HBW : Hid (Below w.heap.size w wr) := HB0.out.trans (HB.out.mono (by omega))
    by_cases hlt : k < ps.length
    · have hlt2 : (k : Int) < (ps.length : Int) := by omega
      have hne : ps ≠ [] := by intro e; rw [e] at hlt; simp at hlt
      obtain ⟨b, off, rfl, hbl, hcs⟩ := HS.out.lies hne
      obtain ⟨b', off', rfl, hbl', hcs'⟩ := HS'.out.lies hne
      obtain ⟨r0, r1, r2⟩ := (hcs k hlt).below HBW.out hbl
      obtain ⟨s0, s1, s2⟩ := (hcs' k hlt).below HBW.out hbl'
      have y0 : b < wr.heap.size := by omega
      have y1 : b' < wr.heap.size := by omega
      clear hcs hcs' hne
      go_upto_region 6 with (fail)
      go_big_quiet (fail)
      go_wp2
      go_roundw
      case rel => exact ⟨k + 1, by omega, by go_num, below_drewN HB.out _⟩
      case measure => simp [intOf]; omega
    · have hlt2 : decide ((k : Int) < (ps.length : Int)) = false := by simp; omega
      go_wp2
      go_ret
      exact ⟨rfl, HBW.out⟩
end Go.Proofs.Ytkcgleahbhmggaa
