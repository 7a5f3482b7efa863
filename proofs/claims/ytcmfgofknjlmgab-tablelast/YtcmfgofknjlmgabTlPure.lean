/-
  What is put last: calls on many names, as lists.
-/
import Derived.Test.YtcmfgofknjlmgabTbMany
namespace Go.Proofs.Ytcmfgofknjlmgab
open Go.RowKit
set_option linter.unusedSimpArgs false
set_option linter.unusedVariables false
set_option maxRecDepth 100000

/-- the call at a place -/
def at' (cs : List Nat) (i : Nat) : Nat := cs.getD i 0
/-- the names with numbers behind the first so many calls -/
def tt (cs : List Nat) : Nat → List NU
  | 0 => []
  | k + 1 => if at' cs k % 4 = 3 then strike (manyN (at' cs k / 4)) (tt cs k) else (manyN (at' cs k / 4), (k : Int)) :: strike (manyN (at' cs k / 4)) (tt cs k)
theorem tt_len (cs : List Nat) : ∀ k, (tt cs k).length ≤ k
  | 0 => Nat.le_refl _
  | k + 1 => by
    have h := tt_len cs k
    have h2 : (strike (manyN (at' cs k / 4)) (tt cs k)).length ≤ (tt cs k).length := List.length_filter_le _ _
    unfold tt
    split
    · omega
    · rw [List.length_cons]; omega
/-- what is there: the calls that no later one of their name follows, but deletings -/
theorem mem_tt {cs : List Nat} (hc : ∀ i, at' cs i < 65536) : ∀ {k : Nat} {q : NU}, q ∈ tt cs k ↔ ∃ i, i < k ∧ q = (manyN (at' cs i / 4), (i : Int)) ∧ at' cs i % 4 ≠ 3 ∧ ∀ m, i < m → m < k → at' cs m / 4 ≠ at' cs i / 4
  | 0, q => by
    constructor
    · intro h; cases h
    · rintro ⟨i, h, _⟩; omega
  | k + 1, q => by
    have ih := @mem_tt cs hc k
    have inj : ∀ i j, manyN (at' cs i / 4) = manyN (at' cs j / 4) → at' cs i / 4 = at' cs j / 4 := fun i j h => many_inj (by have := hc i; omega) (by have := hc j; omega) h
    have hst : q ∈ strike (manyN (at' cs k / 4)) (tt cs k) ↔ ∃ i, i < k ∧ q = (manyN (at' cs i / 4), (i : Int)) ∧ at' cs i % 4 ≠ 3 ∧ ∀ m, i < m → m < k + 1 → at' cs m / 4 ≠ at' cs i / 4 := by
      rw [mem_strike, ih]
      constructor
      · rintro ⟨⟨i, h1, rfl, h3, h4⟩, h5⟩
        refine ⟨i, h1, rfl, h3, fun m hm1 hm2 => ?_⟩
        by_cases e : m = k
        · subst e
          intro e2
          exact h5 (by show manyN _ = manyN _; rw [e2])
        · exact h4 m hm1 (by omega)
      · rintro ⟨i, h1, rfl, h3, h4⟩
        refine ⟨⟨i, h1, rfl, h3, fun m hm1 hm2 => h4 m hm1 (by omega)⟩, fun e => ?_⟩
        exact h4 k h1 (by omega) (inj i k e).symm
    unfold tt
    by_cases hd : at' cs k % 4 = 3
    · rw [if_pos hd, hst]
      constructor
      · rintro ⟨i, h1, h2⟩; exact ⟨i, by omega, h2⟩
      · rintro ⟨i, h1, h2, h3, h4⟩
        have : i ≠ k := fun e => h3 (by rw [e]; exact hd)
        exact ⟨i, by omega, h2, h3, h4⟩
    · rw [if_neg hd, List.mem_cons, hst]
      constructor
      · rintro (rfl | ⟨i, h1, h2⟩)
        · exact ⟨k, by omega, rfl, hd, fun m h1 h2 => by omega⟩
        · exact ⟨i, by omega, h2⟩
      · rintro ⟨i, h1, h2, h3, h4⟩
        by_cases e : i = k
        · subst e; exact .inl h2
        · exact .inr ⟨i, by omega, h2, h3, h4⟩
/-- last is the last call of i's name -/
def IsLast (cs : List Nat) (n i last : Nat) : Prop := i ≤ last ∧ last < n ∧ at' cs last / 4 = at' cs i / 4 ∧ ∀ m, last < m → m < n → at' cs m / 4 ≠ at' cs i / 4
theorem lk_last {cs : List Nat} (hc : ∀ i, at' cs i < 65536) {n i last : Nat} (hl : IsLast cs n i last) (ha : (tt cs n).Pairwise (fun p q => p.1 ≠ q.1)) :
    lk (tt cs n) (manyN (at' cs i / 4)) = if at' cs last % 4 = 3 then none else some (last : Int) := by
  obtain ⟨h1, h2, h3, h4⟩ := hl
  by_cases hd : at' cs last % 4 = 3
  · rw [if_pos hd]
    refine lk_none fun q hq e => ?_
    obtain ⟨j, hj, rfl, h5, h6⟩ := (mem_tt hc).1 hq
    have e2 := many_inj (by have := hc j; omega) (by have := hc i; omega) e
    by_cases e3 : j = last
    · subst e3; exact h5 hd
    · by_cases h7 : j < last
      · exact h6 last h7 h2 (by rw [h3, e2])
      · exact h4 j (by omega) hj e2
  · rw [if_neg hd, ← h3]
    exact lk_mem ha ((mem_tt hc).2 ⟨last, h2, rfl, hd, fun m hm1 hm2 => by rw [h3]; exact h4 m hm1 hm2⟩)
/-- how many of the first so many calls are there as they were -/
def cntL (T : List NU) (k : Nat) : Nat := T.countP (fun q => decide (q.2 < (k : Int)))
theorem cntL_zero {cs : List Nat} (hc : ∀ i, at' cs i < 65536) (n : Nat) : cntL (tt cs n) 0 = 0 := by
  unfold cntL
  rw [List.countP_eq_zero]
  intro q hq
  obtain ⟨i, _, rfl, _⟩ := (mem_tt hc).1 hq
  simp
theorem cntL_all {cs : List Nat} (hc : ∀ i, at' cs i < 65536) (n : Nat) : cntL (tt cs n) n = (tt cs n).length := by
  unfold cntL
  rw [List.countP_eq_length]
  intro q hq
  obtain ⟨i, h, rfl, _⟩ := (mem_tt hc).1 hq
  simp; omega
theorem cntL_step {cs : List Nat} (hc : ∀ i, at' cs i < 65536) {n i last : Nat} (hi : i < n) (hl : IsLast cs n i last) (ha : (tt cs n).Pairwise (fun p q => p.1 ≠ q.1)) :
    cntL (tt cs n) (i + 1) = cntL (tt cs n) i + (if at' cs last % 4 ≠ 3 ∧ last = i then 1 else 0) := by
  have hnd : (tt cs n).Nodup := ha.imp (fun h e => h (by rw [e]))
  have h1 : cntL (tt cs n) (i + 1) = cntL (tt cs n) i + (tt cs n).count (manyN (at' cs i / 4), (i : Int)) := by
    have key : ∀ L : List NU, (∀ q ∈ L, q.2 = (i : Int) → q = (manyN (at' cs i / 4), (i : Int))) → cntL L (i + 1) = cntL L i + L.count (manyN (at' cs i / 4), (i : Int)) := by
      intro L
      induction L with
      | nil => intro _; rfl
      | cons q L ih =>
        intro h
        have ih2 := ih (fun z hz => h z (List.mem_cons_of_mem _ hz))
        unfold cntL at ih2 ⊢
        rw [List.countP_cons, List.countP_cons, List.count_cons, ih2]
        by_cases e : q.2 = (i : Int)
        · have e2 := h q List.mem_cons_self e
          subst e2
          rw [if_pos (decide_eq_true (show (i : Int) < ((i + 1 : Nat) : Int) by omega)), if_neg (fun h9 => by have := of_decide_eq_true h9; omega), if_pos (by simp)]
          omega
        · have e2 : ¬ q = (manyN (at' cs i / 4), (i : Int)) := fun e3 => e (by rw [e3])
          by_cases h3 : q.2 < (i : Int)
          · have h4 : q.2 < (i : Int) + 1 := by omega
            simp [h3, h4, e2]
            omega
          · have h4 : ¬ q.2 < (i : Int) + 1 := by omega
            simp [h3, h4, e2]
    refine key _ (fun q hq e => ?_)
    obtain ⟨j, hj, rfl, _⟩ := (mem_tt hc).1 hq
    have h9 : (j : Int) = i := e
    have : j = i := by omega
    rw [this]
  rw [h1, hnd.count]
  congr 1
  obtain ⟨g1, g2, g3, g4⟩ := hl
  by_cases hm : (manyN (at' cs i / 4), (i : Int)) ∈ tt cs n
  · rw [if_pos hm]
    obtain ⟨j, hj, e, h5, h6⟩ := (mem_tt hc).1 hm
    have e2 : j = i := by have := congrArg Prod.snd e; simp at this; omega
    subst e2
    have e3 : last = j := by
      refine Classical.byContradiction fun hne => ?_
      exact h6 last (by omega) g2 g3
    subst e3
    rw [if_pos ⟨h5, rfl⟩]
  · rw [if_neg hm, if_neg]
    rintro ⟨h5, rfl⟩
    exact hm ((mem_tt hc).2 ⟨last, g2, rfl, h5, g4⟩)
end Go.Proofs.Ytcmfgofknjlmgab
