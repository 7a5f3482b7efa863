/-
  A table's entries, all of them: plain lists.
-/
import Derived.Test.YtlomciinkpecpaaTbFind
namespace Go.Proofs.Ytlomciinkpecpaa
open Go.RowKit
set_option linter.unusedSimpArgs false
set_option linter.unusedVariables false
set_option maxRecDepth 100000

/-- the entries of some rows -/
def rowsOf (n : Nat) (f : Nat → List NU) : List NU := (List.range n).flatMap f
/-- all entries -/
def flat (num : Bool → Nat) (ents : Bool → Nat → List NU) : List NU := rowsOf (num true) (ents true) ++ rowsOf (num false) (ents false)
theorem mem_rowsOf {n : Nat} {f : Nat → List NU} {q : NU} : q ∈ rowsOf n f ↔ ∃ i, i < n ∧ q ∈ f i := by
  unfold rowsOf
  simp [List.mem_flatMap]
theorem mem_flat {num : Bool → Nat} {ents : Bool → Nat → List NU} {q : NU} : q ∈ flat num ents ↔ ∃ b i, i < num b ∧ q ∈ ents b i := by
  unfold flat
  rw [List.mem_append, mem_rowsOf, mem_rowsOf]
  constructor
  · rintro (⟨i, h1, h2⟩ | ⟨i, h1, h2⟩)
    · exact ⟨true, i, h1, h2⟩
    · exact ⟨false, i, h1, h2⟩
  · rintro ⟨b, i, h1, h2⟩
    cases b
    · exact .inr ⟨i, h1, h2⟩
    · exact .inl ⟨i, h1, h2⟩
theorem flatMap_one {f : Nat → List NU} {i : Nat} : ∀ {l : List Nat}, l.Nodup → i ∈ l → ∃ rest, ∀ x, (l.flatMap (fun j => if j = i then x else f j)).Perm (x ++ rest)
  | [], _, h => by cases h
  | a :: l, hn, h => by
    obtain ⟨h1, h2⟩ := List.nodup_cons.1 hn
    by_cases e : a = i
    · subst e
      refine ⟨l.flatMap f, fun x => ?_⟩
      have e2 : l.flatMap (fun j => if j = a then x else f j) = l.flatMap f := by
        rw [List.flatMap_def, List.flatMap_def]
        refine congrArg List.flatten (List.map_congr_left fun j hj => ?_)
        rw [if_neg (fun (e : j = a) => h1 (by rw [← e]; exact hj))]
      rw [List.flatMap_cons, if_pos rfl, e2]
    · obtain ⟨rest, hr⟩ := flatMap_one (f := f) (i := i) h2 ((List.mem_cons.1 h).resolve_left (fun e2 => e e2.symm))
      refine ⟨f a ++ rest, fun x => ?_⟩
      rw [List.flatMap_cons, if_neg e]
      refine ((hr x).append_left (f a)).trans ?_
      rw [← List.append_assoc, ← List.append_assoc]
      exact List.perm_append_comm.append_right rest
theorem rowsOf_one (n : Nat) (f : Nat → List NU) {i : Nat} (hi : i < n) : ∃ rest, ∀ x, (rowsOf n (fun j => if j = i then x else f j)).Perm (x ++ rest) :=
  flatMap_one List.nodup_range (List.mem_range.2 hi)
theorem up2_row (ents : Bool → Nat → List NU) (b : Bool) (i : Nat) (x : List NU) : up2 ents b i x b = fun j => if j = i then x else ents b j := by
  funext j
  simp [up2]
theorem up2_far (ents : Bool → Nat → List NU) {b b' : Bool} (i : Nat) (x : List NU) (h : b' ≠ b) : up2 ents b i x b' = ents b' := by
  funext j
  simp [up2, h]
/-- one row is turned: all others stay -/
theorem flat_one (num : Bool → Nat) (ents : Bool → Nat → List NU) (b : Bool) {i : Nat} (hi : i < num b) : ∃ rest, ∀ x, (flat num (up2 ents b i x)).Perm (x ++ rest) := by
  obtain ⟨r, hr⟩ := rowsOf_one (num b) (ents b) hi
  cases b
  · refine ⟨rowsOf (num true) (ents true) ++ r, fun x => ?_⟩
    unfold flat
    rw [up2_row, up2_far _ _ _ (by simp)]
    refine ((hr x).append_left _).trans ?_
    rw [← List.append_assoc, ← List.append_assoc]
    exact List.perm_append_comm.append_right r
  · refine ⟨r ++ rowsOf (num false) (ents false), fun x => ?_⟩
    unfold flat
    rw [up2_row, up2_far _ _ _ (by simp)]
    refine ((hr x).append_right _).trans ?_
    rw [List.append_assoc]
theorem up2_id (ents : Bool → Nat → List NU) (b : Bool) (i : Nat) : up2 ents b i (ents b i) = ents := by
  funext b' i'
  unfold up2
  split
  · rename_i h
    rw [h.1, h.2]
  · rfl
theorem flat_split (num : Bool → Nat) (ents : Bool → Nat → List NU) (b : Bool) {i : Nat} (hi : i < num b) : ∃ rest, (flat num ents).Perm (ents b i ++ rest) ∧ ∀ x, (flat num (up2 ents b i x)).Perm (x ++ rest) := by
  obtain ⟨rest, hr⟩ := flat_one num ents b hi
  refine ⟨rest, ?_, hr⟩
  have := hr (ents b i)
  rwa [up2_id] at this
theorem row_le (num : Bool → Nat) (ents : Bool → Nat → List NU) (b : Bool) {i : Nat} (hi : i < num b) : (ents b i).length ≤ (flat num ents).length := by
  obtain ⟨rest, h, _⟩ := flat_split num ents b hi
  rw [h.length_eq, List.length_append]
  omega
/-- what holds of a table's entries -/
structure Iv (num : Bool → Nat) (ents : Bool → Nat → List NU) (next many : Nat) : Prop where
  home : ∀ b i, i < num b → ∀ q ∈ ents b i, rix q.1 (num b) = i
  ok : ∀ b i, i < num b → ∀ q ∈ ents b i, q.1.ok
  apart : (flat num ents).Pairwise (fun p q => p.1 ≠ q.1)
  nx : next ≤ num true
  done : ∀ i, i < next → ents true i = []
  cnt : many = (flat num ents).length
theorem apart_perm {A B : List NU} (h : A.Perm B) (ha : B.Pairwise (fun p q => p.1 ≠ q.1)) : A.Pairwise (fun p q => p.1 ≠ q.1) := (h.pairwise_iff (fun h => h.symm)).2 ha
/-- a name that is in none of the rows where it would stand is not there -/
theorem Iv.absent {num : Bool → Nat} {ents : Bool → Nat → List NU} {next many : Nat} (h : Iv num ents next many) {y : Nm} (hr : ∀ b, 0 < num b → ixOf (ents b (rix y (num b))) y = -1) : ∀ q ∈ flat num ents, q.1 ≠ y := by
  intro q hq e
  obtain ⟨b, i, hi, hm⟩ := mem_flat.1 hq
  have h1 := h.home b i hi q hm
  rw [e] at h1
  have h2 := hr b (by omega)
  rw [h1] at h2
  rcases ixOf_ge (ents b i) y with h3 | ⟨k, h3, _⟩
  · have : ∀ q ∈ ents b i, q.1 ≠ y := by
      unfold ixOf at h3
      cases e2 : (ents b i).findIdx? (fun q => decide (q.1 = y)) with
      | none =>
        intro q hq
        have := List.findIdx?_eq_none_iff.1 e2 q hq
        simpa using this
      | some k => rw [e2] at h3; simp at h3
    exact this q hm e
  · rw [h3] at h2; omega
/-- many names stand, one after another, in rows -/
def standAll (n : Nat) (ents : Bool → Nat → List NU) : List NU → (Bool → Nat → List NU)
  | [] => ents
  | x :: xs => standAll n (up2 ents false (rix x.1 n) (ents false (rix x.1 n) ++ [x])) xs
theorem standAll_snoc (n : Nat) (x : NU) : ∀ (xs : List NU) (ents : Bool → Nat → List NU), standAll n ents (xs ++ [x]) = up2 (standAll n ents xs) false (rix x.1 n) (standAll n ents xs false (rix x.1 n) ++ [x])
  | [], ents => rfl
  | z :: xs, ents => by
    show standAll n _ (xs ++ [x]) = _
    rw [standAll_snoc n x xs]
    rfl
theorem standAll_old (n : Nat) : ∀ (xs : List NU) (ents : Bool → Nat → List NU), standAll n ents xs true = ents true
  | [], ents => rfl
  | x :: xs, ents => by
    show standAll n _ xs true = _
    rw [standAll_old n xs, up2_far _ _ _ (by simp)]
theorem standAll_flat (num : Bool → Nat) (hp : 1 ≤ num false) : ∀ (xs : List NU) (ents : Bool → Nat → List NU), (flat num (standAll (num false) ents xs)).Perm (flat num ents ++ xs)
  | [], ents => by show (flat num ents).Perm _; rw [List.append_nil]
  | x :: xs, ents => by
    refine (standAll_flat num hp xs _).trans ?_
    obtain ⟨rest, h1, h2⟩ := flat_split num ents false (rix_lt x.1 hp)
    refine ((h2 _).append_right xs).trans ?_
    refine List.Perm.trans ?_ (h1.symm.append_right (x :: xs))
    rw [List.append_assoc, List.append_assoc, List.append_assoc]
    refine List.Perm.append_left _ ?_
    rw [← List.append_assoc]
    refine List.Perm.trans ?_ (List.perm_middle.symm)
    exact (List.perm_append_comm (l₁ := [x]) (l₂ := rest)).append_right xs |>.trans (by rw [List.append_assoc]; exact List.perm_middle)
theorem standAll_home (num : Bool → Nat) : ∀ (xs : List NU) (ents : Bool → Nat → List NU), (∀ b i, i < num b → ∀ q ∈ ents b i, rix q.1 (num b) = i ∧ q.1.ok) → (∀ x ∈ xs, x.1.ok) → ∀ b i, i < num b → ∀ q ∈ standAll (num false) ents xs b i, rix q.1 (num b) = i ∧ q.1.ok
  | [], ents, h, _ => h
  | x :: xs, ents, h, hx => by
    refine standAll_home num xs _ (fun b i hi q hq => ?_) (fun z hz => hx z (List.mem_cons_of_mem _ hz))
    by_cases e : b = false ∧ i = rix x.1 (num false)
    · obtain ⟨rfl, rfl⟩ := e
      rw [up2_same] at hq
      rcases List.mem_append.1 hq with hm | hm
      · exact h false _ hi q hm
      · rw [List.mem_singleton.1 hm]
        exact ⟨rfl, hx x List.mem_cons_self⟩
    · rw [up2_other e] at hq
      exact h b i hi q hq
end Go.Proofs.Ytlomciinkpecpaa
