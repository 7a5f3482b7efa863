/-
  (shaken)
-/
import Derived.Test.YtfjcaofmcjhdpaaRows
import Derived.WalkKit
import Derived.ProofKit
namespace Go.Proofs.Ytfjcaofmcjhdpaa.It
open Go.RowKit
set_option linter.unusedSimpArgs false
set_option linter.unusedVariables false

/-- a digit's byte -/
def dig (d : Nat) : UInt8 := UInt8.ofNat (48 + d)
def isD (b : UInt8) : Bool := decide (48 ≤ b.toNat ∧ b.toNat ≤ 57)
def dv (b : UInt8) : Nat := b.toNat - 48
/-- a number's digits -/
def decL (n : Nat) : List UInt8 := if h : n < 10 then [dig n] else decL (n / 10) ++ [dig (n % 10)]
termination_by n
decreasing_by omega
def valL (l : List UInt8) : Nat := l.foldl (fun n b => 10 * n + dv b) 0
/-- P9: these bytes are a number's text -/
def isNum (l : List UInt8) : Bool :=
  decide (l ≠ []) && decide (l.length ≤ 20) && (decide (l.head? ≠ some 48) || decide (l = [48])) && l.all isD && decide (valL l < 18446744073709551616)
def numV (l : List UInt8) : Nat := if isNum l = true then valL l else 0

theorem head_app {l m : List UInt8} (h : l ≠ []) : (l ++ m).head? = l.head? := by
  cases l with
  | nil => exact absurd rfl h
  | cons a l => rfl
theorem dig_nat {d : Nat} (h : d < 10) : (dig d).toNat = 48 + d := by
  unfold dig
  rw [UInt8.toNat_ofNat']
  omega
theorem dv_dig {d : Nat} (h : d < 10) : dv (dig d) = d := by unfold dv; rw [dig_nat h]; omega
theorem isD_dig {d : Nat} (h : d < 10) : isD (dig d) = true := by unfold isD; rw [dig_nat h]; simp; omega
theorem dig_dv {b : UInt8} (h : isD b = true) : dig (dv b) = b := by
  have h1 : 48 ≤ b.toNat ∧ b.toNat ≤ 57 := by simpa [isD] using h
  apply UInt8.toNat_inj.1
  rw [dig_nat (by unfold dv; omega)]
  unfold dv
  omega
theorem dv_lt {b : UInt8} (h : isD b = true) : dv b < 10 := by
  have h1 : 48 ≤ b.toNat ∧ b.toNat ≤ 57 := by simpa [isD] using h
  unfold dv
  omega
theorem valL_snoc (l : List UInt8) (b : UInt8) : valL (l ++ [b]) = 10 * valL l + dv b := by unfold valL; rw [List.foldl_append]; rfl
theorem valL_one (b : UInt8) : valL [b] = dv b := by simp [valL]
theorem decL_small {n : Nat} (h : n < 10) : decL n = [dig n] := by rw [decL, dif_pos h]
theorem decL_great {n : Nat} (h : ¬ n < 10) : decL n = decL (n / 10) ++ [dig (n % 10)] := by rw [decL, dif_neg h]
theorem decL_ne (n : Nat) : decL n ≠ [] := by
  by_cases h : n < 10
  · rw [decL_small h]; simp
  · rw [decL_great h]; simp
theorem decL_all (n : Nat) : (decL n).all isD = true := by
  induction n using Nat.strongRecOn with
  | ind n ih =>
    by_cases h : n < 10
    · rw [decL_small h]; simp [isD_dig h]
    · rw [decL_great h, List.all_append, ih (n / 10) (by omega)]
      simp [isD_dig (Nat.mod_lt n (by decide : 0 < 10))]
theorem valL_decL (n : Nat) : valL (decL n) = n := by
  induction n using Nat.strongRecOn with
  | ind n ih =>
    by_cases h : n < 10
    · rw [decL_small h, valL_one, dv_dig h]
    · rw [decL_great h, valL_snoc, ih (n / 10) (by omega), dv_dig (Nat.mod_lt n (by decide))]
      omega
theorem decL_len : ∀ (k n : Nat), n < 10 ^ (k + 1) → (decL n).length ≤ k + 1
  | 0, n, h => by rw [decL_small (by simpa using h)]; simp
  | k + 1, n, h => by
    by_cases h1 : n < 10
    · rw [decL_small h1]; simp
    · rw [decL_great h1, List.length_append]
      have := decL_len k (n / 10) (by rw [Nat.pow_succ] at h; omega)
      simp
      exact this
theorem decL_head {n : Nat} (h : 0 < n) : (decL n).head? ≠ some 48 := by
  induction n using Nat.strongRecOn with
  | ind n ih =>
    by_cases h1 : n < 10
    · rw [decL_small h1]
      intro e
      have e2 : dig n = 48 := by simpa using e
      have e3 := congrArg UInt8.toNat e2
      rw [dig_nat h1] at e3
      have : (48 : UInt8).toNat = 48 := rfl
      omega
    · rw [decL_great h1]
      have h2 := ih (n / 10) (by omega) (by omega)
      rw [head_app (decL_ne _)]
      exact h2
theorem decL_zero : decL 0 = [48] := by rw [decL_small (by decide)]; rfl
/-- a number's digits are a number's text -/
theorem isNum_decL {n : Nat} (h : n < 18446744073709551616) : isNum (decL n) = true := by
  unfold isNum
  have h1 := decL_len 19 n (by omega)
  have h2 : (decL n).head? ≠ some 48 ∨ decL n = [48] := by
    rcases Nat.eq_zero_or_pos n with rfl | h0
    · exact .inr decL_zero
    · exact .inl (decL_head h0)
  rw [decide_eq_true (decL_ne n), decide_eq_true h1, decL_all, valL_decL, decide_eq_true h]
  rcases h2 with h2 | h2
  · rw [decide_eq_true h2]; rfl
  · rw [decide_eq_true h2]; simp
theorem numV_decL {n : Nat} (h : n < 18446744073709551616) : numV (decL n) = n := by
  unfold numV
  rw [if_pos (isNum_decL h), valL_decL]
theorem valL_cons_le (b : UInt8) (l : List UInt8) : ∀ m, m * 10 ^ l.length ≤ l.foldl (fun n b => 10 * n + dv b) m := by
  induction l with
  | nil => intro m; simp
  | cons c l ih =>
    intro m
    have := ih (10 * m + dv c)
    simp only [List.foldl_cons, List.length_cons]
    refine Nat.le_trans ?_ this
    rw [Nat.pow_succ, Nat.mul_comm (10 ^ l.length) 10, ← Nat.mul_assoc]
    exact Nat.mul_le_mul_right _ (by omega)
theorem valL_pos {l : List UInt8} (h0 : l ≠ []) (hd : l.all isD = true) (hh : l.head? ≠ some 48) : 0 < valL l := by
  cases l with
  | nil => exact absurd rfl h0
  | cons b l =>
    have h1 : isD b = true := by simp at hd; exact hd.1
    have h2 : dv b ≠ 0 := by
      intro e
      apply hh
      have := dig_dv h1
      rw [e] at this
      simp [← this]
      rfl
    have h3 := valL_cons_le b l (10 * 0 + dv b)
    have h4 : 0 < (10 * 0 + dv b) * 10 ^ l.length := Nat.mul_pos (by omega) (Nat.pow_pos (by decide))
    have h5 : valL (b :: l) = l.foldl (fun n b => 10 * n + dv b) (10 * 0 + dv b) := rfl
    omega
/-- what a text's digits come to, written again, is the text -/
theorem decL_valL : ∀ (k : Nat) (l : List UInt8), l.length = k → l ≠ [] → l.all isD = true → (l.head? ≠ some 48 ∨ l = [48]) → decL (valL l) = l
  | 0, l, hl, h0, _, _ => absurd (List.eq_nil_of_length_eq_zero hl) h0
  | k + 1, l, hl, h0, hd, hh => by
    obtain ⟨l', b, rfl⟩ : ∃ l' b, l = l' ++ [b] := ⟨l.dropLast, l.getLast h0, (List.dropLast_concat_getLast h0).symm⟩
    rw [List.all_append] at hd
    have hb : isD b = true := by simp at hd; exact hd.2
    have hd' : l'.all isD = true := by simp only [Bool.and_eq_true] at hd; exact hd.1
    rw [valL_snoc]
    by_cases hn : l' = []
    · subst hn
      have : valL [] = 0 := rfl
      rw [this, Nat.mul_zero, Nat.zero_add, decL_small (dv_lt hb), dig_dv hb]
      rfl
    · have hh' : l'.head? ≠ some 48 := by
        rcases hh with h | h
        · rwa [head_app hn] at h
        · exfalso
          have := congrArg List.length h
          simp at this
          exact hn this
      have hp := valL_pos hn hd' hh'
      have hv := dv_lt hb
      have ih := decL_valL k l' (by simp at hl; exact hl) hn hd' (.inl hh')
      rw [decL_great (by omega), show (10 * valL l' + dv b) / 10 = valL l' by omega, show (10 * valL l' + dv b) % 10 = dv b by omega, ih, dig_dv hb]
theorem isNum_parts {l : List UInt8} (h : isNum l = true) : l ≠ [] ∧ l.length ≤ 20 ∧ (l.head? ≠ some 48 ∨ l = [48]) ∧ l.all isD = true ∧ valL l < 18446744073709551616 := by
  unfold isNum at h
  simp only [Bool.and_eq_true, Bool.or_eq_true, decide_eq_true_eq] at h
  exact ⟨h.1.1.1.1, h.1.1.1.2, h.1.1.2, h.1.2, h.2⟩
theorem decL_numV {l : List UInt8} (h : isNum l = true) : decL (numV l) = l := by
  obtain ⟨h1, h2, h3, h4, h5⟩ := isNum_parts h
  unfold numV
  rw [if_pos h]
  exact decL_valL _ l rfl h1 h4 h3
theorem numV_lt (l : List UInt8) : numV l < 18446744073709551616 := by
  unfold numV
  split
  · rename_i h; exact (isNum_parts h).2.2.2.2
  · decide
/-- digit by digit -/
theorem valL_take {l : List UInt8} {k : Nat} (h : k < l.length) : valL (l.take (k + 1)) = 10 * valL (l.take k) + dv l[k] := by
  rw [List.take_succ_eq_append_getElem h, valL_snoc]
theorem valL_take_le (l : List UInt8) (k : Nat) : valL (l.take k) ≤ valL l := by
  have h1 : valL l = (l.drop k).foldl (fun n b => 10 * n + dv b) (valL (l.take k)) := by
    unfold valL
    rw [← List.foldl_append, List.take_append_drop]
  have h2 := valL_cons_le 0 (l.drop k) (valL (l.take k))
  rw [← h1] at h2
  exact Nat.le_trans (Nat.le_mul_of_pos_right _ (Nat.pow_pos (by decide))) h2
/-- the test ahead of one digit more -/
theorem room_digit {n d : Nat} (hd : d < 10) : n ≤ (18446744073709551615 - d) / 10 ↔ 10 * n + d < 18446744073709551616 := by omega
/-- twenty digits can't go beyond but at the last one -/
theorem valL_lt : ∀ (l : List UInt8), l.all isD = true → valL l < 10 ^ l.length := by
  intro l
  induction hk : l.length generalizing l with
  | zero => intro _; have := List.eq_nil_of_length_eq_zero hk; subst this; decide
  | succ k ih =>
    intro hd
    have h0 : l ≠ [] := by intro e; rw [e] at hk; simp at hk
    obtain ⟨l', b, rfl⟩ : ∃ l' b, l = l' ++ [b] := ⟨l.dropLast, l.getLast h0, (List.dropLast_concat_getLast h0).symm⟩
    rw [List.all_append] at hd
    have hb : isD b = true := by simp at hd; exact hd.2
    have hd' : l'.all isD = true := by simp only [Bool.and_eq_true] at hd; exact hd.1
    have := ih l' (by simpa using hk) hd'
    have := dv_lt hb
    rw [valL_snoc, Nat.pow_succ]
    omega
end Go.Proofs.Ytfjcaofmcjhdpaa.It
