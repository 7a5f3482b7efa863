/-
  (shaken)
-/
import Derived.Test.YtldnkminhppngaaDoorItPure
import Derived.Test.YtldnkminhppngaaDoorItFn
import Derived.Laws.RangeAny
import Derived.LoopTactic
namespace Go.Proofs.YtldnkminhppngaaDoor.It
open Go.RowKit
set_option linter.unusedSimpArgs false
set_option linter.unusedVariables false
set_option maxRecDepth 100000

/-- a string's bytes -/
def bl (s : ByteArray) : List UInt8 := s.data.toList
theorem bl_mk (l : List UInt8) : bl ⟨l.toArray⟩ = l := by simp [bl]
theorem bl_len (s : ByteArray) : (bl s).length = s.size := Array.length_toList
theorem bl_inj {s t : ByteArray} (h : bl s = bl t) : s = t := by
  cases s; cases t
  simp [bl] at h
  rw [h]
/-- what the loop knows behind k bytes -/
structure Nk (l : List UInt8) (k : Nat) (n : Nat) : Prop where
  le : k ≤ l.length
  dig : (l.take k).all isD = true
  val : n = valL (l.take k)
  lt : n < 18446744073709551616
  head : k ≤ 1 ∨ l.head? ≠ some 48
theorem Nk.start (l : List UInt8) : Nk l 0 0 := ⟨Nat.zero_le _, by simp, by simp [valL], by decide, .inl (by decide)⟩
theorem all_take {l : List UInt8} {k : Nat} (h : k < l.length) (hd : (l.take k).all isD = true) (hb : isD l[k] = true) : (l.take (k + 1)).all isD = true := by
  rw [List.take_add_one, List.getElem?_eq_getElem h, List.all_append, hd]
  simp [hb]
theorem Nk.step {l : List UInt8} {k n : Nat} (h : Nk l k n) (hk : k < l.length) (hb : isD l[k] = true) (h0 : ¬ (0 < k ∧ n = 0)) (hr : 10 * n + dv l[k] < 18446744073709551616) : Nk l (k + 1) (10 * n + dv l[k]) where
  le := hk
  dig := all_take hk h.dig hb
  val := by rw [valL_take hk, ← h.val]
  lt := hr
  head := by
    by_cases hk0 : k = 0
    · left; omega
    · right
      intro he
      apply h0
      refine ⟨by omega, ?_⟩
      rcases h.head with h1 | h1
      · have hk1 : k = 1 := by omega
        subst hk1
        rw [h.val]
        match l, he, hk with
        | a :: l, he, hk =>
          simp at he
          subst he
          simp [valL, dv]
      · exact absurd he h1
/-- a byte that is no digit -/
theorem Nk.not_digit {l : List UInt8} {k : Nat} (hk : k < l.length) (hb : isD l[k] = false) : isNum l = false := by
  cases h : isNum l
  · rfl
  · have := (isNum_parts h).2.2.2.1
    rw [List.all_eq_true] at this
    rw [this _ (List.getElem_mem hk)] at hb
    cases hb
/-- beyond the greatest -/
theorem Nk.beyond {l : List UInt8} {k n : Nat} (h : Nk l k n) (hk : k < l.length) (hr : ¬ 10 * n + dv l[k] < 18446744073709551616) : isNum l = false := by
  cases hi : isNum l
  · rfl
  · obtain ⟨p1, p2, p3, p4, p5⟩ := isNum_parts hi
    have h1 := valL_take hk
    rw [← h.val] at h1
    have h2 := valL_take_le l (k + 1)
    omega
theorem Nk.fin {l : List UInt8} {n : Nat} (h : Nk l l.length n) (hne : l ≠ []) : isNum l = true ∧ numV l = n := by
  have hd := h.dig
  have hv := h.val
  rw [List.take_length] at hd hv
  have hl : l.length ≤ 20 := by
    rcases h.head with h1 | h1
    · omega
    · match l, hne, hd, hv, h1 with
      | a :: l, _, hd, hv, h1 =>
        have ha : isD a = true := by simp at hd; exact hd.1
        have hp : 1 ≤ dv a := by
          have h2 : 48 ≤ a.toNat ∧ a.toNat ≤ 57 := by simpa [isD] using ha
          unfold dv
          have : a.toNat ≠ 48 := by
            intro e
            apply h1
            have : a = 48 := UInt8.toNat_inj.1 e
            rw [this]
            rfl
          omega
        have h3 := valL_cons_le a l (dv a)
        have h4 : valL (a :: l) = l.foldl (fun n b => 10 * n + dv b) (dv a) := by simp [valL]
        rw [← h4, ← hv] at h3
        have hlt := h.lt
        rcases Nat.lt_or_ge l.length 20 with h5 | h5
        · simp; omega
        · have h6 : 10 ^ 20 ≤ 10 ^ l.length := Nat.pow_le_pow_right (by decide) h5
          have h7 : 10 ^ l.length ≤ dv a * 10 ^ l.length := Nat.le_mul_of_pos_left _ hp
          have h8 : (10 : Nat) ^ 20 = 100000000000000000000 := by decide
          omega
  have hi : isNum l = true := by
    unfold isNum
    have hlt := h.lt
    rw [hv] at hlt
    have hh : l.head? ≠ some 48 ∨ l = [48] := by
      rcases h.head with h1 | h1
      · match l, hne, h1 with
        | [a], _, _ =>
          by_cases ha : a = 48
          · right; rw [ha]
          · left; simpa using ha
      · exact .inl h1
    simp only [Bool.and_eq_true, Bool.or_eq_true, decide_eq_true_eq]
    exact ⟨⟨⟨⟨hne, hl⟩, hh⟩, hd⟩, hlt⟩
  exact ⟨hi, by unfold numV; rw [if_pos hi, hv]⟩
theorem numV_not {l : List UInt8} (h : isNum l = false) : numV l = 0 := by unfold numV; rw [h]; rfl

end Go.Proofs.YtldnkminhppngaaDoor.It
