/-
  What Read tells where nothing is there: an empty answer and no bytes.
-/
import Derived.Test.YtfmpbddhejpjaaaDoorWoX
import Derived.Test.YtfmpbddhejpjaaaDoorWpD
namespace Go.Proofs.YtfmpbddhejpjaaaDoor
open Go.Proofs.YtfmpbddhejpjaaaDoor.It
open Go.RowKit
set_option linter.unusedSimpArgs false
set_option linter.unusedVariables false
set_option maxRecDepth 100000
theorem readN_none : ∀ (f : Nat) (L : List Im) (b : List UInt8) (rd : Nat) (of_ : Int) (a : An) (n : Nat) (e : Int), readN f L b rd of_ = (a, n, e) → (n = 0 → a = az) ∧ (e ≠ 0 → n = 0)
  | 0, L, b, rd, of_, a, n, e, h => by
    unfold readN at h
    simp only [Prod.mk.injEq] at h
    exact ⟨fun _ => h.1.symm, fun _ => h.2.1.symm⟩
  | f + 1, L, b, rd, of_, a, n, e, h => by
    unfold readN at h
    by_cases h0 : (cutL b).2.1 = 0
    · rw [if_pos h0] at h
      simp only [Prod.mk.injEq] at h
      exact ⟨fun _ => h.1.symm, fun _ => h.2.1.symm⟩
    rw [if_neg h0] at h
    by_cases hc : (L.length : Int) = mostI of_ ∨ isVal (cutL b).1 = false
    · rw [if_pos hc] at h
      cases hl : lastOf (cutL b).1 of_ L with
      | none =>
        rw [hl] at h
        simp only [Prod.mk.injEq] at h
        exact ⟨fun _ => h.1.symm, fun _ => h.2.1.symm⟩
      | some a2 =>
        rw [hl] at h
        simp only [Prod.mk.injEq] at h
        exact ⟨fun hn => by omega, fun he => absurd h.2.2.symm he⟩
    rw [if_neg hc] at h
    by_cases hi0 : (cutI (cutL b).1 (b.drop (cutL b).2.1)).2.1 = 0
    · rw [if_pos hi0] at h
      simp only [Prod.mk.injEq] at h
      exact ⟨fun _ => h.1.symm, fun _ => h.2.1.symm⟩
    rw [if_neg hi0] at h
    exact readN_none f _ _ _ _ _ _ _ h
theorem readW_none {b : List UInt8} {of_ : Int} {a : An} {n : Nat} {e : Int} (h : readW b of_ = (a, n, e)) : (n = 0 → a = az) ∧ (e ≠ 0 → n = 0) := readN_none _ _ _ _ _ _ _ _ h
theorem az_arr : az.arr (.slice none az.items.length 0) = #[.int .u8 0, .int .u8 0, .int .u8 0, .slice none 0 0, .int .u64 0, .bool false, .string ⟨#[]⟩] := rfl
/-- an answer that may be has a short key, and items' keys -/
theorem emp_size {s : ByteArray} (h : s.toList.isEmpty = true) : s.size = 0 := by
  rw [ByteArray.toList_eq] at h
  have h2 : (bl s).isEmpty = true := h
  rw [← bl_len]
  cases e : bl s with
  | nil => rfl
  | cons a l => rw [e] at h2; simp at h2
theorem may_short {a : An} (hE : a.wrE = 0) (hf : a.Fit) : a.key.size ≤ maxLen ∧ ∀ x ∈ a.items, x.key.size ≤ maxLen := by
  have hm : (512 : Nat) ≤ maxLen := by decide
  obtain ⟨h1, h2⟩ := wrE_parts hE
  refine ⟨?_, fun x hx => ?_⟩
  · unfold An.may at h1
    have key : a.key.size ≤ 32 := by
      split at h1
      · simp only [Bool.and_eq_true] at h1; have := emp_size h1.2; omega
      split at h1
      · simp only [Bool.and_eq_true] at h1; have := emp_size h1.2; omega
      split at h1
      · simp only [Bool.and_eq_true, decide_eq_true_eq] at h1; exact h1.1.1.2
      split at h1
      · simp only [Bool.and_eq_true] at h1; have := emp_size h1.2; omega
      · cases h1
    omega
  · have := ((items_ok h1 h2 hf).1 x hx).key
    unfold wordOk at this
    simp only [Bool.and_eq_true, decide_eq_true_eq] at this
    omega
end Go.Proofs.YtfmpbddhejpjaaaDoor
