/-
  Bytes in pieces and bags as data: what Pieces, Join, Send and Step answer, and that the pieces are the whole.
-/
import Derived.Test.YtgfhjkphdmkmoacMem
namespace Go.Proofs.Ytgfhjkphdmkmoac
set_option linter.unusedSimpArgs false
set_option linter.unusedVariables false

/-- P3.1: places to cut n bytes at, none below f -/
def plOk (n : Nat) : Int → List Int → Bool
  | _, [] => true
  | f, x :: xs => decide (f ≤ x) && decide (x ≤ (n : Int)) && plOk n x xs
/-- the pieces from f on -/
def pcs (b : List UInt8) : Nat → List Int → List (List UInt8)
  | f, [] => [b.drop f]
  | f, x :: xs => (b.take x.toNat).drop f :: pcs b x.toNat xs
def piecesE (b : List UInt8) (at_ : List Int) : Int := if 16384 < b.length then 3 else if 256 < at_.length then 4 else if plOk b.length 0 at_ = false then 2 else 0
def piecesL (b : List UInt8) (at_ : List Int) : List (List UInt8) := if piecesE b at_ = 0 then pcs b 0 at_ else []
def joinE (ls : List (List UInt8)) : Int := if 257 < ls.length then 4 else if 16384 < ls.flatten.length then 3 else 0
def joinB (ls : List (List UInt8)) : List UInt8 := if joinE ls = 0 then ls.flatten else []
/-- P3.2 -/
def sendE (ls : List (List UInt8)) (m : List UInt8) : Int := if 64 < ls.length then 4 else if 65600 < m.length then 3 else if ls.length = 64 then 9 else 0
def sendL (ls : List (List UInt8)) (m : List UInt8) : List (List UInt8) := if sendE ls m = 0 then ls ++ [m] else []
def inL (n : Nat) (at_ : Int) : Bool := decide (0 ≤ at_ ∧ at_ < (n : Int))
def stepE (n : Nat) (kind : Nat) (at_ : Int) : Int := if 64 < n then 4 else if 2 < kind then 2 else if inL n at_ = false then 6 else 0
def stepL (ls : List (List UInt8)) (kind : Nat) (at_ : Int) : List (List UInt8) := if stepE ls.length kind at_ = 0 then (if kind = 1 then ls else ls.take at_.toNat ++ ls.drop (at_.toNat + 1)) else []
def stepO (ls : List (List UInt8)) (kind : Nat) (at_ : Int) : List UInt8 := if stepE ls.length kind at_ = 0 then (if kind = 2 then [] else ls.getD at_.toNat []) else []

theorem plOk_cons {n : Nat} {f x : Int} {xs : List Int} (h : plOk n f (x :: xs) = true) : f ≤ x ∧ x ≤ (n : Int) ∧ plOk n x xs = true := by
  simpa [plOk, and_assoc] using h
theorem plOk_bad {n : Nat} {f x : Int} {xs : List Int} (h : x < f ∨ (n : Int) < x) : plOk n f (x :: xs) = false := by
  simp only [plOk, Bool.and_eq_false_iff, decide_eq_false_iff_not]
  rcases h with h | h
  · exact .inl (.inl (by omega))
  · exact .inl (.inr (by omega))
theorem plOk_good {n : Nat} {f x : Int} {xs : List Int} (h1 : f ≤ x) (h2 : x ≤ (n : Int)) : plOk n f (x :: xs) = plOk n x xs := by
  simp [plOk, h1, h2]
theorem pcs_len (b : List UInt8) : ∀ (f : Nat) (xs : List Int), (pcs b f xs).length = xs.length + 1
  | _, [] => rfl
  | f, x :: xs => by simp [pcs, pcs_len b x.toNat xs]
theorem pcs_flat (b : List UInt8) : ∀ (xs : List Int) (f : Nat), plOk b.length f xs = true → (pcs b f xs).flatten = b.drop f
  | [], f, _ => by simp [pcs]
  | x :: xs, f, h => by
    obtain ⟨h1, h2, h3⟩ := plOk_cons h
    obtain ⟨X, rfl⟩ : ∃ X : Nat, x = (X : Int) := ⟨x.toNat, by omega⟩
    have ih := pcs_flat b xs X h3
    have e : (b.take X).drop f ++ b.drop X = b.drop f := by
      have h4 : (b.take X ++ b.drop X).drop f = (b.take X).drop f ++ b.drop X := by
        rw [List.drop_append_of_le_length (by simp; omega)]
      rw [← h4, List.take_append_drop]
    simp only [pcs, List.flatten_cons, Int.toNat_natCast, ih, e]
theorem flat_take_le (ls : List (List UInt8)) (k : Nat) : (ls.take k).flatten.length ≤ ls.flatten.length := by
  conv => rhs; rw [← List.take_append_drop k ls, List.flatten_append, List.length_append]
  omega
theorem flat_take_succ (ls : List (List UInt8)) (k : Nat) (hk : k < ls.length) : (ls.take (k + 1)).flatten = (ls.take k).flatten ++ ls[k] := by
  rw [List.take_succ_eq_append_getElem hk, List.flatten_append]; simp
theorem whole {b : List UInt8} {at_ : List Int} (h : piecesE b at_ = 0) : joinE (piecesL b at_) = 0 ∧ joinB (piecesL b at_) = b ∧ (piecesL b at_).length = at_.length + 1 := by
  have h0 := h
  unfold piecesE at h0
  split at h0
  · cases h0
  · split at h0
    · cases h0
    · split at h0
      · cases h0
      · rename_i h1 h2 h3
        have h3 : plOk b.length ((0 : Nat) : Int) at_ = true := by simpa using h3
        have e : piecesL b at_ = pcs b 0 at_ := by unfold piecesL; rw [if_pos h]
        have f := pcs_flat b at_ 0 h3
        rw [List.drop_zero] at f
        have l := pcs_len b 0 at_
        have j : joinE (pcs b 0 at_) = 0 := by unfold joinE; rw [if_neg (by omega), if_neg (by rw [f]; omega)]
        rw [e]
        exact ⟨j, by unfold joinB; rw [if_pos j, f], l⟩
end Go.Proofs.Ytgfhjkphdmkmoac
