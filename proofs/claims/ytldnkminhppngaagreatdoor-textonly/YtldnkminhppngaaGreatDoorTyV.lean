/-
  All requests of bytes, as data; bytes that come in two pieces tell the same.
-/
import Derived.Test.YtldnkminhppngaaGreatDoorTxS
namespace Go.Proofs.YtldnkminhppngaaGreatDoor
open Go.Proofs.YtldnkminhppngaaGreatDoor.It
open Go.RowKit
set_option linter.unusedSimpArgs false
set_option linter.unusedVariables false
set_option maxRecDepth 100000

/-- behind it nothing is read any more -/
def lastR (r : Rq) : Bool := r.close || (r.kind == 5)
def allN : Nat → List UInt8 → List Rq × Nat
  | 0, _ => ([], 0)
  | f + 1, b => if (firstW b).2 = 0 then ([], 0) else if lastR (firstW b).1 = true then ([(firstW b).1], (firstW b).2) else ((firstW b).1 :: (allN f (b.drop (firstW b).2)).1, (firstW b).2 + (allN f (b.drop (firstW b).2)).2)
/-- all requests that are there whole, and how many bytes they have -/
def allW (b : List UInt8) : List Rq × Nat := allN (b.length + 1) b
theorem firstW_le (b : List UInt8) : (firstW b).2 ≤ b.length := (first_only (b := b) (r := (firstW b).1) (n := (firstW b).2) rfl).1
theorem allN_more : ∀ (f g : Nat) (b : List UInt8), b.length < f → b.length < g → allN f b = allN g b
  | 0, _, _, h, _ => by omega
  | _ + 1, 0, _, _, h => by omega
  | f + 1, g + 1, b, hf, hg => by
    have hle := firstW_le b
    by_cases h0 : (firstW b).2 = 0
    · unfold allN; rw [if_pos h0, if_pos h0]
    · have hd : (b.drop (firstW b).2).length < b.length := by rw [List.length_drop]; omega
      have ih := allN_more f g (b.drop (firstW b).2) (by omega) (by omega)
      unfold allN
      rw [ih]
theorem allW_eq (b : List UInt8) : allW b = if (firstW b).2 = 0 then ([], 0) else if lastR (firstW b).1 = true then ([(firstW b).1], (firstW b).2) else ((firstW b).1 :: (allW (b.drop (firstW b).2)).1, (firstW b).2 + (allW (b.drop (firstW b).2)).2) := by
  have hle := firstW_le b
  show allN (b.length + 1) b = _
  unfold allN
  by_cases h0 : (firstW b).2 = 0
  · rw [if_pos h0, if_pos h0]
  · rw [if_neg h0, if_neg h0]
    have hd : (b.drop (firstW b).2).length < b.length := by rw [List.length_drop]; omega
    rw [allN_more b.length ((b.drop (firstW b).2).length + 1) (b.drop (firstW b).2) hd (Nat.lt_succ_self _)]
    rfl
theorem eol_more : ∀ (p q : List UInt8) (e : Nat), eol p = some e → eol (p ++ q) = some e
  | [], _, _, h => by simp [eol] at h
  | [_], _, _, h => by simp [eol] at h
  | a :: b :: l, q, e, h => by
    unfold eol at h
    show eol (a :: b :: (l ++ q)) = _
    unfold eol
    split at h
    · rename_i hc; rw [if_pos hc]; exact h
    · rename_i hc
      rw [if_neg hc]
      obtain ⟨e', he, rfl⟩ := Option.map_eq_some_iff.1 h
      have := eol_more (b :: l) q e' he
      rw [List.cons_append] at this
      rw [this]
      rfl
theorem endW_more (r : Rq) (n : Nat) (l q : List UInt8) (h : (endW r n l).2 ≠ 0) : endW r n (l ++ q) = endW r n l := by
  have hl : ¬ l.length < n + 2 := by
    intro hl
    unfold endW at h
    rw [if_pos hl] at h
    exact h rfl
  have hl2 : ¬ (l ++ q).length < n + 2 := by rw [List.length_append]; omega
  unfold endW
  rw [if_neg hl, if_neg hl2]
  have e1 : ((l ++ q).drop n).take 2 = (l.drop n).take 2 := by
    rw [List.drop_append_of_le_length (by omega), List.take_append_of_le_length (by rw [List.length_drop]; omega)]
  have e2 : (l ++ q).take n = l.take n := List.take_append_of_le_length (by omega)
  rw [e1, e2]
/-- a request that was read stays the first one, whatever comes behind -/
theorem first_more {p q : List UInt8} {r : Rq} {n : Nat} (h : firstW p = (r, n)) (hn : n ≠ 0) (hc : r.close = false) : firstW (p ++ q) = (r, n) := by
  unfold firstW at h
  cases he : eol (p.take 514) with
  | none =>
    rw [he] at h
    dsimp only at h
    by_cases hl : p.length < 514
    · rw [if_pos hl] at h
      simp only [Prod.mk.injEq] at h
      exact absurd h.2.symm hn
    · rw [if_neg hl] at h
      simp only [Prod.mk.injEq] at h
      rw [← h.1] at hc
      cases hc
  | some e =>
    rw [he] at h
    dsimp only at h
    obtain ⟨e1, _⟩ := eol_some _ _ he
    have hpl : e + 2 ≤ p.length := by have : (p.take 514).length ≤ p.length := by simp; omega
                                      omega
    have he2 : eol ((p ++ q).take 514) = some e := by
      rw [List.take_append]
      exact eol_more _ _ _ he
    have ht : (p ++ q).take e = p.take e := List.take_append_of_le_length (by omega)
    have hd : (p ++ q).drop (e + 2) = p.drop (e + 2) ++ q := List.drop_append_of_le_length hpl
    unfold firstW
    rw [he2]
    dsimp only
    rw [ht, hd]
    cases hw : tellW (lw (p.take e)) with
    | none => rw [hw] at h; exact h
    | some d =>
      rw [hw] at h
      dsimp only at h ⊢
      cases hv : d.vl with
      | none => rw [hv] at h; exact h
      | some m =>
        rw [hv] at h
        dsimp only at h ⊢
        have h0 : (endW d.r m (p.drop (e + 2))).2 ≠ 0 := by
          intro h0
          rw [if_pos h0] at h
          simp only [Prod.mk.injEq] at h
          exact hn h.2.symm
        rw [endW_more _ _ _ q h0]
        exact h
theorem close_bad {b : List UInt8} {r : Rq} {n : Nat} (h : firstW b = (r, n)) (hc : r.close = true) : r.kind = 6 := by
  obtain ⟨_, h0, h1⟩ := first_only h
  by_cases hn : n = 0
  · rw [h0 hn] at hc; cases hc
  · rcases h1 hn with ⟨c, rfl⟩ | ⟨_, h2, _⟩
    · rfl
    · have h3 := (wrE_zero h2).1
      unfold Rq.hasLine at h3
      rw [hc] at h3
      simp at h3
/-- how many, and how far -/
theorem allW_le : ∀ (k : Nat) (b : List UInt8), b.length ≤ k → (allW b).2 ≤ b.length ∧ (allW b).1.length ≤ b.length := by
  intro k
  induction k with
  | zero =>
    intro b hb
    have hle := firstW_le b
    rw [allW_eq, if_pos (by omega)]
    simp
  | succ k ih =>
    intro b hb
    have hle := firstW_le b
    rw [allW_eq]
    by_cases h0 : (firstW b).2 = 0
    · rw [if_pos h0]; simp
    · rw [if_neg h0]
      by_cases hL : lastR (firstW b).1 = true
      · rw [if_pos hL]; exact ⟨hle, by simp; omega⟩
      · rw [if_neg hL]
        have hd : (b.drop (firstW b).2).length = b.length - (firstW b).2 := List.length_drop
        obtain ⟨i1, i2⟩ := ih (b.drop (firstW b).2) (by omega)
        dsimp only
        refine ⟨by omega, by rw [List.length_cons]; omega⟩
/-- in two pieces -/
theorem all_pieces : ∀ (k : Nat) (p q : List UInt8), p.length ≤ k →
    (∃ L x, (allW p).1 = L ++ [x] ∧ lastR x = true ∧ (x.close = true ∨ (allW p).1.length ≤ (allW (p ++ q)).1.length))
    ∨ ((∀ x ∈ (allW p).1, lastR x = false) ∧ (allW (p ++ q)).1 = (allW p).1 ++ (allW ((p ++ q).drop (allW p).2)).1 ∧ (allW (p ++ q)).2 = (allW p).2 + (allW ((p ++ q).drop (allW p).2)).2) := by
  intro k
  induction k with
  | zero =>
    intro p q hp
    have hle := firstW_le p
    have e : allW p = ([], 0) := by rw [allW_eq, if_pos (by omega)]
    rw [e]
    exact .inr ⟨by simp, by simp, by simp⟩
  | succ k ih =>
    intro p q hp
    have hle := firstW_le p
    by_cases h0 : (firstW p).2 = 0
    · have e : allW p = ([], 0) := by rw [allW_eq, if_pos h0]
      rw [e]
      exact .inr ⟨by simp, by simp, by simp⟩
    · by_cases hL : lastR (firstW p).1 = true
      · have e : allW p = ([(firstW p).1], (firstW p).2) := by rw [allW_eq, if_neg h0, if_pos hL]
        rw [e]
        refine .inl ⟨[], (firstW p).1, rfl, hL, ?_⟩
        cases hc : (firstW p).1.close with
        | true => exact .inl rfl
        | false =>
          have hm := first_more (q := q) (p := p) (r := (firstW p).1) (n := (firstW p).2) rfl h0 hc
          right
          rw [allW_eq, hm]
          dsimp only
          rw [if_neg h0, if_pos hL]
          simp
      · have hL2 : lastR (firstW p).1 = false := by simpa using hL
        have hc : (firstW p).1.close = false := by
          unfold lastR at hL2
          simp only [Bool.or_eq_false_iff] at hL2
          exact hL2.1
        have hm := first_more (q := q) (p := p) (r := (firstW p).1) (n := (firstW p).2) rfl h0 hc
        have hd : (p.drop (firstW p).2).length = p.length - (firstW p).2 := List.length_drop
        have hdq : (p ++ q).drop (firstW p).2 = p.drop (firstW p).2 ++ q := List.drop_append_of_le_length hle
        have e1 : allW p = ((firstW p).1 :: (allW (p.drop (firstW p).2)).1, (firstW p).2 + (allW (p.drop (firstW p).2)).2) := by rw [allW_eq, if_neg h0, if_neg hL]
        have e2 : allW (p ++ q) = ((firstW p).1 :: (allW (p.drop (firstW p).2 ++ q)).1, (firstW p).2 + (allW (p.drop (firstW p).2 ++ q)).2) := by
          rw [allW_eq, hm]
          dsimp only
          rw [if_neg h0, if_neg hL, hdq]
        rw [e1, e2]
        dsimp only
        rw [← List.drop_drop, hdq]
        rcases ih (p.drop (firstW p).2) q (by omega) with ⟨L, x, h1, h2, h3⟩ | ⟨h1, h2, h3⟩
        · refine .inl ⟨(firstW p).1 :: L, x, by rw [h1]; rfl, h2, ?_⟩
          rcases h3 with h3 | h3
          · exact .inl h3
          · exact .inr (by simp only [List.length_cons]; omega)
        · refine .inr ⟨?_, ?_, ?_⟩
          · intro x hx
            rcases List.mem_cons.1 hx with rfl | hx
            · exact hL2
            · exact h1 x hx
          · rw [h2]; rfl
          · rw [h3]; omega
end Go.Proofs.YtldnkminhppngaaGreatDoor
