/-
  A clock that goes in steps: what is due by then, in which order.
-/
import Derived.Test.YthcekkahkioibadWhTwo
namespace Go.Proofs.Ythcekkahkioibad
open Go.RowKit
set_option linter.unusedSimpArgs false
set_option linter.unusedVariables false
set_option maxRecDepth 100000

theorem step_len (now : Nat) (H : List NU) (q : NU) : (addedStep now H q).length ≤ H.length + 1 := by
  unfold addedStep
  split
  · simp
  · omega
theorem added_len (now : Nat) (T : List NU) : (addedL now T).length ≤ T.length := by
  unfold addedL
  suffices h : ∀ (T H : List NU), (T.foldl (addedStep now) H).length ≤ H.length + T.length by
    have := h T []
    simpa using this
  intro T
  induction T with
  | nil => intro H; simp
  | cons q T ih =>
    intro H
    have h1 := ih (addedStep now H q)
    have h2 := step_len now H q
    simp only [List.foldl_cons, List.length_cons]
    omega
theorem rest_rest {c t : Nat} (h : c ≤ t) (H : List NU) : restOf t (restOf c H) = restOf t H := by
  unfold restOf
  rw [List.filter_filter]
  congr 1
  funext q
  by_cases h1 : (t : Int) < q.2
  · have h2 : (c : Int) < q.2 := by omega
    simp [h1, h2]
  · simp [h1]
theorem due_step {c t : Nat} (h : c ≤ t) : ∀ H : List NU, (dueOf c H ++ dueOf t (restOf c H)).Perm (dueOf t H)
  | [] => List.Perm.refl _
  | q :: H => by
    have ih := due_step h H
    unfold dueOf restOf at ih ⊢
    by_cases h1 : q.2 ≤ (c : Int)
    · have h2 : q.2 ≤ (t : Int) := by omega
      have h3 : ¬ (c : Int) < q.2 := by omega
      simp only [List.filter_cons, h1, h2, h3, decide_true, decide_false, if_true, Bool.false_eq_true, if_false, List.cons_append]
      exact ih.cons q
    · have h3 : (c : Int) < q.2 := by omega
      by_cases h2 : q.2 ≤ (t : Int)
      · simp only [List.filter_cons, h1, h2, h3, decide_true, decide_false, if_true, Bool.false_eq_true, if_false]
        exact List.perm_middle.trans (ih.cons q)
      · simp only [List.filter_cons, h1, h2, h3, decide_true, decide_false, if_true, Bool.false_eq_true, if_false]
        exact ih
theorem due_rise {c t : Nat} {H D S : List NU} (hD : D.Perm (dueOf c H)) (hS : S.Perm (dueOf t (restOf c H))) (h1 : D.Pairwise tlt) (h2 : S.Pairwise tlt) : (D ++ S).Pairwise tlt := by
  refine List.pairwise_append.2 ⟨h1, h2, fun a ha b hb => .inl ?_⟩
  have g1 := (List.mem_filter.1 (hD.mem_iff.1 ha)).2
  have g2 := (List.mem_filter.1 (List.mem_filter.1 (hS.mem_iff.1 hb)).1).2
  simp at g1 g2
  omega
theorem due_grow {c t : Nat} (h : c ≤ t) {H D S : List NU} (hD : D.Perm (dueOf c H)) (hS : S.Perm (dueOf t (restOf c H))) : (D ++ S).Perm (dueOf t H) :=
  (hD.append hS).trans (due_step h H)
theorem due_none {c : Nat} {H : List NU} (h : ∀ q ∈ H, (c : Int) < q.2) : dueOf c H = [] := List.filter_eq_nil_iff.2 (fun q hq => by have := h q hq; simp; omega)
theorem rest_all {c : Nat} {H : List NU} (h : ∀ q ∈ H, (c : Int) < q.2) : restOf c H = H := List.filter_eq_self.2 (fun q hq => by have := h q hq; simpa using this)
end Go.Proofs.Ythcekkahkioibad
