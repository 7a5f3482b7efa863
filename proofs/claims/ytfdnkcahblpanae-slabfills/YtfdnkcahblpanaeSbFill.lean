/-
  Chunks that are taken one behind the other: the pure part.
-/
import Derived.Test.YtfdnkcahblpanaeSbBack
namespace Go.Proofs.Ytfdnkcahblpanae
open Go.RowKit
set_option linter.unusedSimpArgs false
set_option linter.unusedVariables false
set_option maxRecDepth 100000

theorem fp_lt {v : Nat} (h : v ≤ 16) : 2 ^ v - 1 < 65536 := by have := pow_le16 h; omega
/-- a page whose first v chunks are used -/
def fp (t c : Int) (v : Nat) : Pg := if h : v ≤ 16 ∧ v ≠ 0 then ⟨t, c, 2 ^ v - 1, fp_lt h.1⟩ else pz
theorem fp_zero (t c : Int) : fp t c 0 = pz := by unfold fp; rw [dif_neg (by simp)]
theorem fp_pos {t c : Int} {v : Nat} (h : v ≤ 16) (h0 : v ≠ 0) : (fp t c v).t = t ∧ (fp t c v).c = c ∧ (fp t c v).u = 2 ^ v - 1 := by
  unfold fp
  rw [dif_pos ⟨h, h0⟩]
  exact ⟨rfl, rfl, rfl⟩
theorem pow1_ne {v : Nat} (h0 : v ≠ 0) : 2 ^ v - 1 ≠ 0 := by
  have : 2 ^ 1 ≤ 2 ^ v := Nat.pow_le_pow_right (by decide) (by omega)
  omega
theorem fp_u {t c : Int} {v : Nat} (h : v ≤ 16) : (fp t c v).u = 2 ^ v - 1 := by
  by_cases h0 : v = 0
  · subst h0; rw [fp_zero]; rfl
  · exact (fp_pos h h0).2.2
theorem fp_bit {t c : Int} {v i : Nat} (h : v ≤ 16) : (fp t c v).u.testBit i = decide (i < v) := by
  rw [fp_u h, Nat.testBit_two_pow_sub_one]
theorem fp_uz {t c : Int} {v : Nat} (h : v ≤ 16) : (fp t c v).u = 0 ↔ v = 0 := by
  rw [fp_u h]
  constructor
  · intro e; apply Decidable.byContradiction; intro h0; exact pow1_ne h0 e
  · rintro rfl; rfl
def vAt (n e j : Nat) : Nat := min (n - j * e) e
/-- the slab behind n chunks -/
def stN (P : Nat) (t c : Int) (e n : Nat) : List Pg := (List.range P).map (fun j => fp t c (vAt n e j))
theorem stN_len (P : Nat) (t c : Int) (e n : Nat) : (stN P t c e n).length = P := by simp [stN]
theorem stN_get {P : Nat} {t c : Int} {e n j : Nat} (hj : j < P) : (stN P t c e n)[j]? = some (fp t c (vAt n e j)) := by simp [stN, hj]
theorem stN_get' {P : Nat} {t c : Int} {e n j : Nat} (hj : j < (stN P t c e n).length) : (stN P t c e n)[j] = fp t c (vAt n e j) := by
  have := stN_get (t := t) (c := c) (e := e) (n := n) (j := j) (P := P) (by simpa [stN] using hj)
  rw [List.getElem?_eq_getElem hj] at this
  exact Option.some.inj this
theorem v_lt {n e j : Nat} (he : 0 < e) (h : j < n / e) : vAt n e j = e := by
  have h1 : (n / e) * e ≤ n := Nat.div_mul_le_self n e
  have h2 : (j + 1) * e ≤ (n / e) * e := Nat.mul_le_mul_right e h
  rw [Nat.add_mul] at h2
  unfold vAt
  omega
theorem v_eq {n e : Nat} (he : 0 < e) : vAt n e (n / e) = n % e := by
  have h1 := Nat.div_add_mod n e
  rw [Nat.mul_comm] at h1
  have h2 := Nat.mod_lt n he
  unfold vAt
  omega
theorem v_gt {n e j : Nat} (he : 0 < e) (h : n / e < j) : vAt n e j = 0 := by
  have h1 := Nat.div_add_mod n e
  rw [Nat.mul_comm] at h1
  have h2 := Nat.mod_lt n he
  have h3 : (n / e + 1) * e ≤ j * e := Nat.mul_le_mul_right e h
  rw [Nat.add_mul] at h3
  unfold vAt
  omega
theorem v_le (n e j : Nat) : vAt n e j ≤ e := by unfold vAt; omega
theorem stN_ok {P : Nat} {t c : Int} {n : Nat} (hP : 1 ≤ P ∧ P ≤ 16) (ht : isT t = true) (hc : isC c = true) : sOk (stN P t c (chunks c) n) = true := by
  have hcl := chunks_le hc
  unfold sOk
  simp only [Bool.and_eq_true, decide_eq_true_eq, stN_len]
  refine ⟨hP, List.all_eq_true.2 fun p hp => ?_⟩
  obtain ⟨j, hj, rfl⟩ := List.mem_iff_getElem.1 hp
  rw [stN_get']
  have hv := v_le n (chunks c) j
  by_cases h0 : vAt n (chunks c) j = 0
  · rw [h0, fp_zero]; rfl
  · obtain ⟨h1, h2, h3⟩ := fp_pos (t := t) (c := c) (show vAt n (chunks c) j ≤ 16 by omega) h0
    unfold pOk
    rw [if_neg (by rw [h3]; exact pow1_ne h0), h1, h2, h3, ht, hc]
    simp only [Bool.true_and, decide_eq_true_eq]
    have : 2 ^ vAt n (chunks c) j ≤ 2 ^ chunks c := Nat.pow_le_pow_right (by decide) hv
    have := Nat.two_pow_pos (vAt n (chunks c) j)
    omega
theorem low_fp {t c : Int} {v e : Nat} (h : v < e) (he : e ≤ 16) : lowFree (fp t c v).u e = some v := by
  refine firstN_at h (fun i hi => ?_) ?_
  · unfold freeBit; rw [fp_bit (by omega)]; simp [hi]
  · unfold freeBit; rw [fp_bit (by omega)]; simp
theorem low_full {t c : Int} {e : Nat} (he : e ≤ 16) : lowFree (fp t c e).u e = none := by
  refine firstN_none (fun i hi => ?_)
  unfold freeBit; rw [fp_bit he]; simp [hi]
theorem room_st {P : Nat} {t c : Int} {n : Nat} (hc : isC c = true) (hd : n / chunks c < P) : room (stN P t c (chunks c) n) t c = if n % chunks c = 0 then none else some (n / chunks c, n % chunks c) := by
  have hcl := chunks_le hc
  have hr := Nat.mod_lt n (show 0 < chunks c by omega)
  have hbelow : ∀ i, i < n / chunks c → roomI (stN P t c (chunks c) n) t c i = none := by
    intro i hi
    unfold roomI
    rw [stN_get (by omega), v_lt (by omega) hi]
    simp only [Option.map_eq_none_iff]
    unfold roomP
    split
    · exact low_full hcl.2
    · rfl
  by_cases h0 : n % chunks c = 0
  · rw [if_pos h0]
    refine firstN_none (fun i hi => ?_)
    rw [stN_len] at hi
    by_cases h1 : i < n / chunks c
    · exact hbelow i h1
    · have hv : vAt n (chunks c) i = 0 := by
        by_cases h2 : i = n / chunks c
        · rw [h2, v_eq (by omega), h0]
        · exact v_gt (by omega) (by omega)
      unfold roomI
      rw [stN_get hi, hv, fp_zero]
      rfl
  · rw [if_neg h0]
    refine firstN_at (j := n / chunks c) (by rw [stN_len]; exact hd) hbelow ?_
    unfold roomI
    rw [stN_get hd, v_eq (by omega)]
    obtain ⟨h1, h2, h3⟩ := fp_pos (t := t) (c := c) (show n % chunks c ≤ 16 by omega) h0
    simp only [Option.map_eq_some_iff]
    refine ⟨n % chunks c, ?_, rfl⟩
    unfold roomP
    rw [if_pos ⟨by rw [h3]; exact pow1_ne h0, h1, h2⟩]
    exact low_fp hr hcl.2
theorem room_end {P : Nat} {t c : Int} {n : Nat} (hc : isC c = true) (h0 : n % chunks c = 0) : room (stN P t c (chunks c) n) t c = none := by
  have hcl := chunks_le hc
  refine firstN_none (fun i hi => ?_)
  rw [stN_len] at hi
  unfold roomI
  rw [stN_get hi]
  simp only [Option.map_eq_none_iff]
  unfold roomP
  split
  · rename_i hh
    by_cases h1 : i < n / chunks c
    · rw [v_lt (by omega) h1]; exact low_full hcl.2
    · exfalso
      have hv : vAt n (chunks c) i = 0 := by
        by_cases h2 : i = n / chunks c
        · rw [h2, v_eq (by omega), h0]
        · exact v_gt (by omega) (by omega)
      rw [hv, fp_zero] at hh
      exact hh.1 rfl
  · rfl
theorem count_lt (d : Nat) : ∀ P, (List.range P).countP (fun j => decide (j < d)) = min d P
  | 0 => by simp
  | P + 1 => by
    rw [List.range_succ, List.countP_append, count_lt d P]
    simp [List.countP_cons]
    split <;> omega
theorem owned_st {P : Nat} {t c : Int} {n : Nat} (hc : isC c = true) (h0 : n % chunks c = 0) : owned (stN P t c (chunks c) n) t = min (n / chunks c) P := by
  have hcl := chunks_le hc
  unfold owned stN
  rw [List.countP_map, ← count_lt]
  apply List.countP_congr
  intro j _
  simp only [Function.comp, decide_eq_true_eq]
  by_cases h1 : j < n / chunks c
  · rw [v_lt (by omega) h1]
    obtain ⟨g1, g2, g3⟩ := fp_pos (t := t) (c := c) hcl.2 (show chunks c ≠ 0 by omega)
    simp [isOf, g1, g3, h1, pow1_ne (show chunks c ≠ 0 by omega)]
  · have hv : vAt n (chunks c) j = 0 := by
      by_cases h2 : j = n / chunks c
      · rw [h2, v_eq (by omega), h0]
      · exact v_gt (by omega) (by omega)
    rw [hv, fp_zero]
    simp [isOf, pz, h1]
theorem free_st {P : Nat} {t c : Int} {n : Nat} (hc : isC c = true) (h0 : n % chunks c = 0) (hd : n / chunks c < P) : freeP (stN P t c (chunks c) n) = some (n / chunks c) := by
  have hcl := chunks_le hc
  refine firstN_at (by rw [stN_len]; exact hd) (fun i hi => ?_) ?_
  · unfold freeI
    rw [stN_get (by omega), v_lt (by omega) hi]
    simp only
    rw [if_neg]
    rw [fp_uz hcl.2]
    omega
  · unfold freeI
    rw [stN_get hd, v_eq (by omega), h0, fp_zero]
    rfl
theorem free_end {P : Nat} {t c : Int} (hc : isC c = true) : freeP (stN P t c (chunks c) (P * chunks c)) = none := by
  have hcl := chunks_le hc
  refine firstN_none (fun i hi => ?_)
  rw [stN_len] at hi
  unfold freeI
  rw [stN_get hi, v_lt (by omega) (by rw [Nat.mul_div_cancel _ (by omega)]; exact hi)]
  simp only
  rw [if_neg]
  rw [fp_uz hcl.2]
  omega
theorem place_st {P : Nat} {t c q : Int} {n : Nat} (hc : isC c = true) (hd : n / chunks c < P) (hq : ((n / chunks c : Nat) : Int) < q) : place (stN P t c (chunks c) n) t c q = some (n / chunks c, n % chunks c) := by
  unfold place
  rw [room_st hc hd]
  by_cases h0 : n % chunks c = 0
  · rw [if_pos h0]
    simp only
    rw [owned_st hc h0, Nat.min_eq_left (by omega), if_pos hq, free_st hc h0 hd, h0]
    rfl
  · rw [if_neg h0]
theorem place_end {P Q : Nat} {t c : Int} (hc : isC c = true) : place (stN P t c (chunks c) (min Q P * chunks c)) t c (Q : Int) = none := by
  have hcl := chunks_le hc
  unfold place
  rw [room_end hc (Nat.mul_mod_left _ _)]
  simp only
  rw [owned_st hc (Nat.mul_mod_left _ _), Nat.mul_div_cancel _ (by omega)]
  by_cases h : Q ≤ P
  · rw [if_neg]
    rw [Nat.min_eq_left h, Nat.min_eq_left h]
    omega
  · rw [Nat.min_eq_right (show P ≤ Q by omega), free_end hc]
    split <;> rfl
theorem taken_st {P : Nat} {t c : Int} {n : Nat} (hc : isC c = true) (hd : n / chunks c < P) :
    (stN P t c (chunks c) n).set (n / chunks c) (taken (stN P t c (chunks c) n) t c (n / chunks c) (n % chunks c)) = stN P t c (chunks c) (n + 1) := by
  have hcl := chunks_le hc
  have he : 0 < chunks c := by omega
  have hr := Nat.mod_lt n he
  apply List.ext_getElem?
  intro j
  by_cases hj : j < P
  · rw [stN_get hj]
    have hdm := Nat.div_add_mod n (chunks c)
    rw [Nat.mul_comm] at hdm
    by_cases hjd : j = n / chunks c
    · subst hjd
      rw [List.getElem?_set_self (by rw [stN_len]; exact hd)]
      congr 1
      have hv : vAt (n + 1) (chunks c) (n / chunks c) = n % chunks c + 1 := by unfold vAt; omega
      obtain ⟨g1, g2, g3⟩ := fp_pos (t := t) (c := c) (show n % chunks c + 1 ≤ 16 by omega) (by omega)
      rw [hv]
      have hu : (taken (stN P t c (chunks c) n) t c (n / chunks c) (n % chunks c)).u = 2 ^ (n % chunks c + 1) - 1 := by
        rw [taken_bit (by rw [stN_len]; exact hd) (by omega), stN_get', v_eq he, or_add (by rw [fp_bit (by omega)]; simp), fp_u (by omega), Nat.pow_succ]
        have := Nat.two_pow_pos (n % chunks c)
        omega
      exact pg_ext (by rw [g1]; rfl) (by rw [g2]; rfl) (by rw [hu, g3])
    · rw [List.getElem?_set_ne (fun h => hjd h.symm), stN_get hj]
      congr 2
      by_cases h1 : j < n / chunks c
      · rw [v_lt he h1, v_lt he (Nat.lt_of_lt_of_le h1 (Nat.div_le_div_right (by omega)))]
      · rw [v_gt he (by omega)]
        have h3 : (n / chunks c + 1) * chunks c ≤ j * chunks c := Nat.mul_le_mul_right _ (by omega)
        rw [Nat.add_mul] at h3
        unfold vAt
        omega
  · rw [List.getElem?_eq_none (by simp [stN_len]; omega), List.getElem?_eq_none (by rw [stN_len]; omega)]
theorem stN_zero (P : Nat) (t c : Int) (e : Nat) : stN P t c e 0 = List.replicate P pz := by
  apply List.ext_getElem?
  intro j
  by_cases hj : j < P
  · rw [stN_get hj]
    have : vAt 0 e j = 0 := by unfold vAt; omega
    rw [this, fp_zero]
    simp [hj]
  · rw [List.getElem?_eq_none (by rw [stN_len]; omega), List.getElem?_eq_none (by simp; omega)]
end Go.Proofs.Ytfdnkcahblpanae
