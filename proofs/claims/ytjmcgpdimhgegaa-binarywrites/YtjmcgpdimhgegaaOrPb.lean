/-
  (shaken)
-/
import Derived.Test.YtjmcgpdimhgegaaOrPa
import Derived.Test.YtjmcgpdimhgegaaOrLb
import Derived.Test.YtjmcgpdimhgegaaOrRefU
namespace Go.Proofs.Ytjmcgpdimhgegaa
open Go.RowKit Go.Sort Go.Shelf
set_option linter.unusedSimpArgs false
set_option linter.unusedVariables false
set_option maxRecDepth 100000

/-- how many keys: none, one, more -/
def mvN : Fin 3 → Nat
  | 0 => 1
  | 1 => 2
  | 2 => 4
def hv (m : Fin 3) (v f l u y : Bool) : Nat := orIf y (orIf u (orIf l (orIf f (orIf v (mvN m) 8) 16) 32) 64) 128
def mcl (n : Nat) : Fin 3 := if n = 0 then 0 else if n = 1 then 1 else 2
theorem mvN_mcl (n : Nat) : mvN (mcl n) = manyN n := by
  unfold mcl manyN
  by_cases h0 : n = 0
  · rw [if_pos h0, if_pos h0]; rfl
  · rw [if_neg h0, if_neg h0]
    by_cases h1 : n = 1
    · rw [if_pos h1, if_pos h1]; rfl
    · rw [if_neg h1, if_neg h1]; rfl
theorem mcl_0 (n : Nat) : mcl n = 0 ↔ n = 0 := by
  unfold mcl
  by_cases h0 : n = 0
  · simp [h0]
  · rw [if_neg h0]
    by_cases h1 : n = 1
    · simp [h1]
    · simp [h0, h1]
theorem mcl_1 (n : Nat) : mcl n = 1 ↔ n = 1 := by
  unfold mcl
  by_cases h0 : n = 0
  · simp [h0]
  · rw [if_neg h0]
    by_cases h1 : n = 1
    · simp [h1]
    · simp [h0, h1]
theorem bits_6 : ∀ (m : Fin 3) (v f l u y : Bool), (bits BinOp.andNot IntKind.u64 ((hv m v f l u y : Nat) : Int) 6 != 0) = !(decide (m ≠ 0) && !v && !f && !l && !u && !y) := by decide +kernel
theorem bits_58 : ∀ (m : Fin 3) (v f l u y : Bool), (bits BinOp.andNot IntKind.u64 ((hv m v f l u y : Nat) : Int) 58 != 0) = !(decide (m = 1) && !u && !y) := by decide +kernel
theorem bits_122 : ∀ (m : Fin 3) (v f l u y : Bool), (bits BinOp.andNot IntKind.u64 ((hv m v f l u y : Nat) : Int) 122 != 0) = !(decide (m = 1) && !y) := by decide +kernel
theorem bits_130 : ∀ (m : Fin 3) (v f l u y : Bool), (bits BinOp.andNot IntKind.u64 ((hv m v f l u y : Nat) : Int) 130 != 0) = !(decide (m = 1) && !v && !f && !l && !u) := by decide +kernel
theorem bits_10 : ∀ (m : Fin 3) (v f l u y : Bool), (bits BinOp.andNot IntKind.u64 ((hv m v f l u y : Nat) : Int) 10 != 0) = !(decide (m = 1) && !f && !l && !u && !y) := by decide +kernel
theorem bits_34 : ∀ (m : Fin 3) (v f l u y : Bool), (bits BinOp.andNot IntKind.u64 ((hv m v f l u y : Nat) : Int) 34 != 0) = !(decide (m = 1) && !v && !f && !u && !y) := by decide +kernel
theorem bits_1 : ∀ (m : Fin 3) (v f l u y : Bool), (bits BinOp.andNot IntKind.u64 ((hv m v f l u y : Nat) : Int) 1 != 0) = !(decide (m = 0) && !v && !f && !l && !u && !y) := by decide +kernel
theorem bits_0 : ∀ (m : Fin 3) (v f l u y : Bool), (bits BinOp.andNot IntKind.u64 ((hv m v f l u y : Nat) : Int) 0 != 0) = !false := by decide +kernel
/-- its bits, held against those of its kind -/
def Cm.bad (c : Cm) : Bool := bits BinOp.andNot IntKind.u64 ((c.hasN : Nat) : Int) ((mayN c.kind : Nat) : Int) != 0
def keysC (l : List ByteArray) : Bool := decide (l.length ≤ 8) && l.all keyOk && decide l.Nodup
theorem Cm.hasN_hv (c : Cm) : c.hasN = hv (mcl c.keys.length) (!decide (c.value.size = 0)) (!decide (c.flags = 0)) (!decide (c.life = 0)) (!decide (c.unique = 0)) (!decide (c.by_ = 0)) := by
  unfold Cm.hasN hv
  rw [mvN_mcl]
theorem Cm.may_code (c : Cm) : c.may = (!c.bad && tenOk c.tenant && keysC c.keys && decide (c.value.size ≤ 512) && decide (0 ≤ c.life ∧ c.life ≤ 1099511627776)) := by
  unfold Cm.bad
  rw [c.hasN_hv]
  obtain ⟨kind, tenant, keys, value, flags, life, unique, by_⟩ := c
  unfold Cm.may Cm.kOk Cm.vOk Cm.lOk Cm.fOk Cm.bOk Cm.puts keysC
  dsimp only
  have h0 : keys.length = 0 → keys.all keyOk = true ∧ decide keys.Nodup = true := by
    intro e
    have := List.eq_nil_of_length_eq_zero e
    subst this
    exact ⟨rfl, by simp⟩
  have c0 := mcl_0 keys.length
  have c1 := mcl_1 keys.length
  generalize mcl keys.length = m at c0 c1 ⊢
  generalize keys.length = n at h0 c0 c1 ⊢
  generalize keys.all keyOk = A at h0 ⊢
  generalize decide keys.Nodup = N at h0 ⊢
  generalize tenOk tenant = T
  generalize value.size = vs
  by_cases k1 : kind = 1
  · subst k1
    rw [show ((mayN 1 : Nat) : Int) = 6 from rfl, bits_6]
    rw [Bool.eq_iff_iff]
    cases A <;> cases N <;> cases T <;> simp [c0, c1] at h0 ⊢ <;> omega
  by_cases k2 : kind = 2
  · subst k2
    rw [show ((mayN 2 : Nat) : Int) = 58 from rfl, bits_58]
    rw [Bool.eq_iff_iff]
    cases A <;> cases N <;> cases T <;> simp [c0, c1] at h0 ⊢ <;> omega
  by_cases k3 : kind = 3
  · subst k3
    rw [show ((mayN 3 : Nat) : Int) = 58 from rfl, bits_58]
    rw [Bool.eq_iff_iff]
    cases A <;> cases N <;> cases T <;> simp [c0, c1] at h0 ⊢ <;> omega
  by_cases k4 : kind = 4
  · subst k4
    rw [show ((mayN 4 : Nat) : Int) = 58 from rfl, bits_58]
    rw [Bool.eq_iff_iff]
    cases A <;> cases N <;> cases T <;> simp [c0, c1] at h0 ⊢ <;> omega
  by_cases k5 : kind = 5
  · subst k5
    rw [show ((mayN 5 : Nat) : Int) = 122 from rfl, bits_122]
    rw [Bool.eq_iff_iff]
    cases A <;> cases N <;> cases T <;> simp [c0, c1] at h0 ⊢ <;> omega
  by_cases k6 : kind = 6
  · subst k6
    rw [show ((mayN 6 : Nat) : Int) = 130 from rfl, bits_130]
    rw [Bool.eq_iff_iff]
    cases A <;> cases N <;> cases T <;> simp [c0, c1] at h0 ⊢ <;> omega
  by_cases k7 : kind = 7
  · subst k7
    rw [show ((mayN 7 : Nat) : Int) = 130 from rfl, bits_130]
    rw [Bool.eq_iff_iff]
    cases A <;> cases N <;> cases T <;> simp [c0, c1] at h0 ⊢ <;> omega
  by_cases k8 : kind = 8
  · subst k8
    rw [show ((mayN 8 : Nat) : Int) = 10 from rfl, bits_10]
    rw [Bool.eq_iff_iff]
    cases A <;> cases N <;> cases T <;> simp [c0, c1] at h0 ⊢ <;> omega
  by_cases k9 : kind = 9
  · subst k9
    rw [show ((mayN 9 : Nat) : Int) = 34 from rfl, bits_34]
    rw [Bool.eq_iff_iff]
    cases A <;> cases N <;> cases T <;> simp [c0, c1] at h0 ⊢ <;> omega
  by_cases k10 : kind = 10
  · subst k10
    rw [show ((mayN 10 : Nat) : Int) = 6 from rfl, bits_6]
    rw [Bool.eq_iff_iff]
    cases A <;> cases N <;> cases T <;> simp [c0, c1] at h0 ⊢ <;> omega
  by_cases k11 : kind = 11
  · subst k11
    rw [show ((mayN 11 : Nat) : Int) = 1 from rfl, bits_1]
    rw [Bool.eq_iff_iff]
    cases A <;> cases N <;> cases T <;> simp [c0, c1] at h0 ⊢ <;> omega
  have e0 : mayN kind = 0 := by unfold mayN; simp [k1, k2, k3, k4, k5, k6, k7, k8, k9, k10, k11]
  rw [e0, show ((0 : Nat) : Int) = 0 from rfl, bits_0]
  have e1 : ¬ (1 ≤ kind ∧ kind ≤ 11) := by omega
  simp [e1]
end Go.Proofs.Ytjmcgpdimhgegaa
