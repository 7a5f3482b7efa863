/-
  The document's table as a rising list: finding, putting, taking out.
-/
import Derived.Test.YtlomciinkpecpaaTbOrd
namespace Go.Proofs.Ytlomciinkpecpaa
open Go.RowKit
set_option linter.unusedSimpArgs false
set_option linter.unusedVariables false
set_option maxRecDepth 100000

/-- rising names -/
abbrev Rise (D : List NU) : Prop := D.Pairwise (fun p q => nlt p.1 q.1)
theorem nlt_ne {a b : Nm} (h : nlt a b) : a ≠ b := fun e => nlt_irrefl a (by rw [← e] at h; exact h)
/-- a name's place, or that where it would stand -/
def fpos : List NU → Nm → Nat
  | [], _ => 0
  | q :: D, y => if nlt q.1 y then fpos D y + 1 else 0
/-- is it there? -/
def fis : List NU → Nm → Bool
  | [], _ => false
  | q :: D, y => if nlt q.1 y then fis D y else decide (q.1 = y)
theorem fpos_le : ∀ (D : List NU) (y : Nm), fpos D y ≤ D.length
  | [], _ => Nat.le_refl _
  | q :: D, y => by
    unfold fpos
    have := fpos_le D y
    split
    · simp; exact this
    · simp
theorem fpos_lt : ∀ {D : List NU} {y : Nm} {i : Nat} (hi : i < fpos D y) (hd : i < D.length), nlt D[i].1 y
  | [], _, i, _, hd => by simp at hd
  | q :: D, y, i, hi, hd => by
    unfold fpos at hi
    split at hi
    · rename_i h
      cases i with
      | zero => exact h
      | succ i => exact fpos_lt (D := D) (y := y) (by omega) (by simpa using hd)
    · omega
theorem fpos_stop : ∀ {D : List NU} {y : Nm} (hd : fpos D y < D.length), ¬ nlt D[fpos D y].1 y
  | [], _, hd => by simp at hd
  | q :: D, y, hd => by
    by_cases h : nlt q.1 y
    · have e : fpos (q :: D) y = fpos D y + 1 := by simp [fpos, h]
      have hd2 : fpos D y < D.length := by rw [e] at hd; simpa using hd
      have := fpos_stop hd2
      simpa [e] using this
    · have e : fpos (q :: D) y = 0 := by simp [fpos, h]
      simpa [e] using h
theorem fis_eq : ∀ (D : List NU) (y : Nm), fis D y = (D[fpos D y]?).any (fun q => decide (q.1 = y))
  | [], _ => rfl
  | q :: D, y => by
    by_cases h : nlt q.1 y
    · simp [fpos, fis, h, fis_eq D y]
    · simp [fpos, fis, h]
theorem fis_no : ∀ {D : List NU} {y : Nm}, Rise D → fis D y = false → ∀ q ∈ D, q.1 ≠ y
  | [], _, _, _, q, hq => by cases hq
  | p :: D, y, hr, hf, q, hq => by
    obtain ⟨h1, h2⟩ := List.pairwise_cons.1 hr
    by_cases h : nlt p.1 y
    · simp only [fis, if_pos h] at hf
      rcases List.mem_cons.1 hq with rfl | hq
      · exact nlt_ne h
      · exact fis_no h2 hf q hq
    · simp only [fis, if_neg h] at hf
      have hne : p.1 ≠ y := by simpa using hf
      rcases List.mem_cons.1 hq with rfl | hq
      · exact hne
      · intro e
        have := h1 q hq
        rw [e] at this
        exact h this
/-- what Put leaves -/
def dput (D : List NU) (y : Nm) (x : Int) : List NU := D.take (fpos D y) ++ (y, x) :: D.drop (if fis D y then fpos D y + 1 else fpos D y)
/-- what Del leaves -/
def ddel (D : List NU) (y : Nm) : List NU := D.take (fpos D y) ++ D.drop (fpos D y + 1)
theorem dput_perm : ∀ {D : List NU} {y : Nm} (x : Int), Rise D → (dput D y x).Perm ((y, x) :: strike y D)
  | [], y, x, _ => by simp [dput, fpos, fis, strike]
  | p :: D, y, x, hr => by
    obtain ⟨h1, h2⟩ := List.pairwise_cons.1 hr
    by_cases h : nlt p.1 y
    · have e : dput (p :: D) y x = p :: dput D y x := by
        unfold dput
        simp only [fpos, fis, if_pos h, List.take_succ_cons, List.cons_append]
        split <;> simp
      have es : strike y (p :: D) = p :: strike y D := by simp [strike, nlt_ne h]
      rw [e, es]
      exact ((dput_perm x h2).cons p).trans (List.Perm.swap _ _ _)
    · by_cases hy : p.1 = y
      · have e : dput (p :: D) y x = (y, x) :: D := by simp [dput, fpos, fis, hy, nlt_irrefl y]
        have es : strike y (p :: D) = D := by
          have : strike y (p :: D) = strike y D := by simp [strike, hy]
          rw [this]
          exact strike_none (fun q hq => by rw [← hy]; exact (nlt_ne (h1 q hq)).symm)
        rw [e, es]
      · have e : dput (p :: D) y x = (y, x) :: p :: D := by simp [dput, fpos, fis, h, hy]
        have es : strike y (p :: D) = p :: D := by
          refine strike_none (fun q hq => ?_)
          exact fis_no hr (by simp [fis, h, hy]) q hq
        rw [e, es]
theorem ddel_eq : ∀ {D : List NU} {y : Nm}, Rise D → fis D y = true → ddel D y = strike y D
  | [], _, _, hf => by cases hf
  | p :: D, y, hr, hf => by
    obtain ⟨h1, h2⟩ := List.pairwise_cons.1 hr
    by_cases h : nlt p.1 y
    · simp only [fis, if_pos h] at hf
      have ih := ddel_eq h2 hf
      have es : strike y (p :: D) = p :: strike y D := by simp [strike, nlt_ne h]
      rw [es, ← ih]
      simp [ddel, fpos, h]
    · simp only [fis, if_neg h] at hf
      have hy : p.1 = y := by simpa using hf
      have : strike y (p :: D) = strike y D := by simp [strike, hy]
      rw [this, strike_none (fun q hq => by rw [← hy]; exact (nlt_ne (h1 q hq)).symm)]
      simp [ddel, fpos, h]
theorem strike_rise {D : List NU} (y : Nm) (h : Rise D) : Rise (strike y D) := h.filter _
theorem nlt_gt {a b : Nm} (h : ¬ nlt a b) (hne : a ≠ b) : nlt b a := Classical.byContradiction fun k => hne (nlt_total h k)
theorem dput_rise : ∀ {D : List NU} {y : Nm} (x : Int), Rise D → Rise (dput D y x)
  | [], y, x, _ => by simp [dput, fpos, fis, Rise]
  | p :: D, y, x, hr => by
    obtain ⟨h1, h2⟩ := List.pairwise_cons.1 hr
    by_cases h : nlt p.1 y
    · have e : dput (p :: D) y x = p :: dput D y x := by
        unfold dput
        simp only [fpos, fis, if_pos h, List.take_succ_cons, List.cons_append]
        split <;> simp
      rw [e]
      refine List.pairwise_cons.2 ⟨fun q hq => ?_, dput_rise x h2⟩
      rcases List.mem_cons.1 ((dput_perm x h2).subset hq) with rfl | hq
      · exact h
      · exact h1 q (mem_strike.1 hq).1
    · by_cases hy : p.1 = y
      · have e : dput (p :: D) y x = (y, x) :: D := by simp [dput, fpos, fis, hy, nlt_irrefl y]
        rw [e]
        exact List.pairwise_cons.2 ⟨fun q hq => by rw [← hy]; exact h1 q hq, h2⟩
      · have e : dput (p :: D) y x = (y, x) :: p :: D := by simp [dput, fpos, fis, h, hy]
        rw [e]
        have hyp := nlt_gt h hy
        refine List.pairwise_cons.2 ⟨fun q hq => ?_, hr⟩
        rcases List.mem_cons.1 hq with rfl | hq
        · exact hyp
        · exact nlt_trans hyp (h1 q hq)
/-- two rising lists of the same names are the same -/
theorem rise_unique : ∀ {A B : List Nm}, A.Perm B → A.Pairwise nlt → B.Pairwise nlt → A = B
  | [], B, hp, _, _ => by rw [hp.symm.eq_nil]
  | a :: A, [], hp, _, _ => by have := hp.length_eq; simp at this
  | a :: A, b :: B, hp, ha, hb => by
    obtain ⟨a1, a2⟩ := List.pairwise_cons.1 ha
    obtain ⟨b1, b2⟩ := List.pairwise_cons.1 hb
    have e : a = b := by
      have m1 : a ∈ b :: B := hp.subset (by simp)
      have m2 : b ∈ a :: A := hp.symm.subset (by simp)
      rcases List.mem_cons.1 m1 with h | h
      · exact h
      · rcases List.mem_cons.1 m2 with k | k
        · exact k.symm
        · exact absurd (nlt_trans (a1 b k) (b1 a h)) (nlt_irrefl a)
    subst e
    rw [rise_unique ((List.perm_cons a).1 hp) a2 b2]
end Go.Proofs.Ytlomciinkpecpaa
