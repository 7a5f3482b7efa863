/-
  TableGrows: what the table has behind so many calls.
-/
import Derived.Test.YtcmfgofknjlmgabTbMany
namespace Go.Proofs.Ytcmfgofknjlmgab
open Go.RowKit
set_option linter.unusedSimpArgs false
set_option linter.unusedVariables false
set_option maxRecDepth 100000

/-- behind k puts -/
def gg : Nat → List NU
  | 0 => []
  | k + 1 => (manyN k, (k : Int)) :: gg k
theorem gg_len : ∀ k, (gg k).length = k
  | 0 => rfl
  | k + 1 => by unfold gg; rw [List.length_cons, gg_len k]
theorem mem_gg {q : NU} : ∀ {k : Nat}, q ∈ gg k ↔ ∃ i, i < k ∧ q = (manyN i, (i : Int))
  | 0 => by simp [gg]
  | k + 1 => by
    unfold gg
    rw [List.mem_cons, mem_gg]
    constructor
    · rintro (rfl | ⟨i, hi, rfl⟩)
      · exact ⟨k, by omega, rfl⟩
      · exact ⟨i, by omega, rfl⟩
    · rintro ⟨i, hi, rfl⟩
      by_cases e : i = k
      · subst e; exact .inl rfl
      · exact .inr ⟨i, by omega, rfl⟩
theorem gg_put {k : Nat} (hk : k < 3000) : (manyN k, (k : Int)) :: strike (manyN k) (gg k) = gg (k + 1) := by
  rw [strike_none (fun p hp => ?_)]
  · rfl
  · obtain ⟨i, hi, rfl⟩ := mem_gg.1 hp
    intro e
    have := many_inj (by omega) (by omega) e
    omega
theorem gg_apart : ∀ {k : Nat}, k ≤ 3000 → (gg k).Pairwise (fun p q => p.1 ≠ q.1)
  | 0, _ => List.Pairwise.nil
  | k + 1, h => by
    unfold gg
    refine List.Pairwise.cons (fun q hq => ?_) (gg_apart (by omega))
    obtain ⟨i, hi, rfl⟩ := mem_gg.1 hq
    intro e
    have := many_inj (by omega) (by omega) e
    omega
def kf (back : Bool) (n i : Nat) : Nat := if back then n - 1 - i else i
def pf (back : Bool) (n i : Nat) (x : Int) : Bool := if back then decide (x < (n : Int) - i) else decide ((i : Int) ≤ x)
/-- behind i of n taken out -/
def gr (back : Bool) (n i : Nat) : List NU := (gg n).filter (fun q => pf back n i q.2)
theorem gr_zero (back : Bool) (n : Nat) : gr back n 0 = gg n := by
  unfold gr
  refine List.filter_eq_self.2 (fun q hq => ?_)
  obtain ⟨i, hi, rfl⟩ := mem_gg.1 hq
  unfold pf
  cases back <;> simp <;> omega
theorem gr_end (back : Bool) (n : Nat) : gr back n n = [] := by
  unfold gr
  refine List.filter_eq_nil_iff.2 (fun q hq => ?_)
  obtain ⟨i, hi, rfl⟩ := mem_gg.1 hq
  unfold pf
  cases back <;> simp <;> omega
theorem gr_len (back : Bool) (n i : Nat) : (gr back n i).length ≤ n := by
  have := List.length_filter_le (fun q : NU => pf back n i q.2) (gg n)
  rw [gg_len] at this
  exact this
theorem kf_lt (back : Bool) {n i : Nat} (h : i < n) : kf back n i < n := by
  unfold kf
  cases back <;> simp <;> omega
theorem gr_lk (back : Bool) {n i : Nat} (h : i < n) (hn : n ≤ 3000) : lk (gr back n i) (manyN (kf back n i)) = some (kf back n i : Int) := by
  refine lk_mem ((gg_apart hn).filter _) (List.mem_filter.2 ⟨mem_gg.2 ⟨_, kf_lt back h, rfl⟩, ?_⟩)
  unfold pf kf
  cases back <;> simp <;> omega
theorem gr_strike (back : Bool) {n i : Nat} (h : i < n) (hn : n ≤ 3000) : strike (manyN (kf back n i)) (gr back n i) = gr back n (i + 1) := by
  unfold strike gr
  rw [List.filter_filter]
  refine List.filter_congr (fun q hq => ?_)
  obtain ⟨j, hj, rfl⟩ := mem_gg.1 hq
  have hlt := kf_lt back h
  by_cases e : j = kf back n i
  · subst e
    simp only [ne_eq, not_true_eq_false, decide_false, Bool.false_and]
    unfold pf kf
    cases back <;> simp <;> omega
  · have hne : manyN j ≠ manyN (kf back n i) := fun he => e (many_inj (by omega) (by omega) he)
    simp only [ne_eq, hne, not_false_eq_true, decide_true, Bool.true_and]
    unfold kf at e
    unfold pf
    cases back
    · simp at e ⊢
      omega
    · simp at e ⊢
      omega
end Go.Proofs.Ytcmfgofknjlmgab
