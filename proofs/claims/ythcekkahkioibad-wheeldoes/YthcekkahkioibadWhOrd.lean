/-
  Names by their moments: the order, as numbers and bytes.
-/
import Derived.Test.YthcekkahkioibadWhTurn
import Derived.Shelf.SlSortCmp.NoneTotal
import Derived.Shelf.SlSortCmp.WholeK
import Derived.Shelf.Small.Strs
import Derived.Lib.Small
namespace Go.Proofs.Ythcekkahkioibad
open Go.RowKit
set_option linter.unusedSimpArgs false
set_option linter.unusedVariables false
set_option maxRecDepth 100000

abbrev cb := Lib.compareBytes
theorem cb_self : ∀ a, cb a a = 0
  | [] => rfl
  | x :: a => by simp [cb, Lib.compareBytes, UInt8.lt_irrefl]; exact cb_self a
theorem cb_swap : ∀ a b, cb b a = - cb a b
  | [], [] => rfl
  | [], _ :: _ => rfl
  | _ :: _, [] => rfl
  | x :: a, y :: b => by
    have ih := cb_swap a b
    simp only [cb, Lib.compareBytes] at ih ⊢
    by_cases h1 : x < y
    · have h2 : ¬ y < x := fun h => UInt8.lt_irrefl x (UInt8.lt_trans h1 h)
      simp [h1, h2]
    · by_cases h2 : y < x
      · simp [h1, h2]
      · simp [h1, h2, ih]
theorem cb_eq : ∀ {a b}, cb a b = 0 → a = b
  | [], [], _ => rfl
  | [], _ :: _, h => by cases h
  | _ :: _, [], h => by cases h
  | x :: a, y :: b, h => by
    simp only [cb, Lib.compareBytes] at h
    by_cases h1 : x < y
    · simp [h1] at h
    · by_cases h2 : y < x
      · simp [h1, h2] at h
      · simp [h1, h2] at h
        have e : x = y := UInt8.le_antisymm (UInt8.not_lt.1 h2) (UInt8.not_lt.1 h1)
        rw [e, cb_eq h]
theorem cb_trans : ∀ {a b c}, cb a b < 0 → cb b c < 0 → cb a c < 0
  | [], [], _, h, _ => by simp [cb, Lib.compareBytes] at h
  | [], _ :: _, [], _, h => by simp [cb, Lib.compareBytes] at h
  | [], _ :: _, _ :: _, _, _ => by simp [cb, Lib.compareBytes]
  | _ :: _, [], _, h, _ => by simp [cb, Lib.compareBytes] at h
  | _ :: _, _ :: _, [], _, h => by simp [cb, Lib.compareBytes] at h
  | x :: a, y :: b, z :: c, h, k => by
    have ih := @cb_trans a b c
    simp only [cb, Lib.compareBytes] at h k ih ⊢
    by_cases h1 : x < y
    · by_cases k1 : y < z
      · simp [UInt8.lt_trans h1 k1]
      · by_cases k2 : z < y
        · simp [k1, k2] at k
        · have e : y = z := UInt8.le_antisymm (UInt8.not_lt.1 k2) (UInt8.not_lt.1 k1)
          rw [← e]; simp [h1]
    · by_cases h2 : y < x
      · simp [h1, h2] at h
      · have e : x = y := UInt8.le_antisymm (UInt8.not_lt.1 h2) (UInt8.not_lt.1 h1)
        subst e
        simp [UInt8.lt_irrefl] at h
        by_cases k1 : x < z
        · simp [k1]
        · by_cases k2 : z < x
          · simp [k1, k2] at k
          · simp [k1, k2] at k ⊢
            exact ih h k
/-- a name is ahead of another one -/
def nlt (a b : Nm) : Prop := a.tenant < b.tenant ∨ (a.tenant = b.tenant ∧ cb a.key.data.toList b.key.data.toList < 0)
instance (a b : Nm) : Decidable (nlt a b) := by unfold nlt; exact inferInstance
/-- by moments, and then rising -/
def tlt (a b : NU) : Prop := a.2 < b.2 ∨ (a.2 = b.2 ∧ nlt a.1 b.1)
instance (a b : NU) : Decidable (tlt a b) := by unfold tlt; exact inferInstance
theorem tlt_irrefl (a : NU) : ¬ tlt a a := by
  unfold tlt nlt
  have := cb_self a.1.key.data.toList
  omega
theorem tlt_trans {a b c : NU} (h : tlt a b) (k : tlt b c) : tlt a c := by
  have ht := @cb_trans a.1.key.data.toList b.1.key.data.toList c.1.key.data.toList
  unfold tlt nlt at h k ⊢
  omega
theorem tlt_ntrans {a b c : NU} (h : ¬ tlt a b) (k : ¬ tlt b c) : ¬ tlt a c := by
  intro hac
  have ht := @cb_trans b.1.key.data.toList a.1.key.data.toList c.1.key.data.toList
  have hs := cb_swap a.1.key.data.toList b.1.key.data.toList
  have he : cb b.1.key.data.toList a.1.key.data.toList = 0 → cb b.1.key.data.toList c.1.key.data.toList = cb a.1.key.data.toList c.1.key.data.toList := fun e => by rw [cb_eq e]
  unfold tlt nlt at h k hac
  omega
theorem tlt_total {a b : NU} (h : ¬ tlt a b) (k : ¬ tlt b a) : a = b := by
  obtain ⟨⟨t, k1⟩, u⟩ := a
  obtain ⟨⟨t', k2⟩, u'⟩ := b
  have hs := cb_swap k1.data.toList k2.data.toList
  unfold tlt nlt at h k
  simp only [] at h k
  have e1 : u = u' := by omega
  have e2 : t = t' := by omega
  have e3 : cb k1.data.toList k2.data.toList = 0 := by omega
  have e4 := cb_eq e3
  have e5 : k1 = k2 := by
    obtain ⟨⟨l1⟩⟩ := k1
    obtain ⟨⟨l2⟩⟩ := k2
    simp only [] at e4
    rw [e4]
  rw [e1, e2, e5]
/-- what byMoment answers -/
def cmpT (x y : NU) : Int :=
  if Lib.compareInt x.2 y.2 ≠ 0 then Lib.compareInt x.2 y.2 else if Lib.compareInt x.1.tenant y.1.tenant ≠ 0 then Lib.compareInt x.1.tenant y.1.tenant else cb x.1.key.data.toList y.1.key.data.toList
theorem cmpT_lt (x y : NU) : ltOf cmpT x y = decide (tlt x y) := by
  unfold ltOf cmpT tlt nlt Lib.compareInt
  by_cases h1 : x.2 < y.2
  · simp [h1]
  · by_cases h2 : y.2 < x.2
    · simp [h1, h2]; omega
    · have e1 : x.2 = y.2 := by omega
      by_cases h3 : x.1.tenant < y.1.tenant
      · simp [e1, h3]
      · by_cases h4 : y.1.tenant < x.1.tenant
        · simp [e1, h3, h4]; omega
        · have e2 : x.1.tenant = y.1.tenant := by omega
          simp [e1, e2]
theorem cmpT_swo : Go.Sort.SWO (ltOf cmpT) where
  irrefl x := by rw [cmpT_lt]; simpa using tlt_irrefl x
  trans x y z h1 h2 := by rw [cmpT_lt] at *; simp at *; exact tlt_trans h1 h2
  ntrans x y z h1 h2 := by rw [cmpT_lt] at *; simp at *; exact tlt_ntrans h1 h2
theorem cmpT_total : ∀ x y, ltOf cmpT x y = false → ltOf cmpT y x = false → x = y := fun x y h1 h2 => by
  rw [cmpT_lt] at h1 h2
  exact tlt_total (by simpa using h1) (by simpa using h2)
end Go.Proofs.Ythcekkahkioibad
