/-
  Names: their order, as numbers and bytes; the document's Less.
-/
import Derived.Test.YtlomciinkpecpaaTbMany
import Derived.Shelf.SlSortCmp.NoneTotal
import Derived.Shelf.SlSortCmp.WholeK
import Derived.Shelf.Small.Strs
import Derived.Lib.Small
namespace Go.Proofs.Ytlomciinkpecpaa
open Go.RowKit
set_option linter.unusedSimpArgs false
set_option linter.unusedVariables false
set_option maxRecDepth 100000

abbrev cb := Lib.compareBytes
theorem cb_self : ∀ a, cb a a = 0
  | [] => rfl
  | x :: a => by simp [cb, Lib.compareBytes, UInt8.lt_irrefl]; exact cb_self a
theorem cb_swap : ∀ a b, cb b a = - cb a b
  | [], [] => rfl
  | [], _ :: _ => rfl
  | _ :: _, [] => rfl
  | x :: a, y :: b => by
    have ih := cb_swap a b
    simp only [cb, Lib.compareBytes] at ih ⊢
    by_cases h1 : x < y
    · have h2 : ¬ y < x := fun h => UInt8.lt_irrefl x (UInt8.lt_trans h1 h)
      simp [h1, h2]
    · by_cases h2 : y < x
      · simp [h1, h2]
      · simp [h1, h2, ih]
theorem cb_eq : ∀ {a b}, cb a b = 0 → a = b
  | [], [], _ => rfl
  | [], _ :: _, h => by cases h
  | _ :: _, [], h => by cases h
  | x :: a, y :: b, h => by
    simp only [cb, Lib.compareBytes] at h
    by_cases h1 : x < y
    · simp [h1] at h
    · by_cases h2 : y < x
      · simp [h1, h2] at h
      · simp [h1, h2] at h
        have e : x = y := UInt8.le_antisymm (UInt8.not_lt.1 h2) (UInt8.not_lt.1 h1)
        rw [e, cb_eq h]
theorem cb_trans : ∀ {a b c}, cb a b < 0 → cb b c < 0 → cb a c < 0
  | [], [], _, h, _ => by simp [cb, Lib.compareBytes] at h
  | [], _ :: _, [], _, h => by simp [cb, Lib.compareBytes] at h
  | [], _ :: _, _ :: _, _, _ => by simp [cb, Lib.compareBytes]
  | _ :: _, [], _, h, _ => by simp [cb, Lib.compareBytes] at h
  | _ :: _, _ :: _, [], _, h => by simp [cb, Lib.compareBytes] at h
  | x :: a, y :: b, z :: c, h, k => by
    have ih := @cb_trans a b c
    simp only [cb, Lib.compareBytes] at h k ih ⊢
    by_cases h1 : x < y
    · by_cases k1 : y < z
      · simp [UInt8.lt_trans h1 k1]
      · by_cases k2 : z < y
        · simp [k1, k2] at k
        · have e : y = z := UInt8.le_antisymm (UInt8.not_lt.1 k2) (UInt8.not_lt.1 k1)
          rw [← e]; simp [h1]
    · by_cases h2 : y < x
      · simp [h1, h2] at h
      · have e : x = y := UInt8.le_antisymm (UInt8.not_lt.1 h2) (UInt8.not_lt.1 h1)
        subst e
        simp [UInt8.lt_irrefl] at h
        by_cases k1 : x < z
        · simp [k1]
        · by_cases k2 : z < x
          · simp [k1, k2] at k
          · simp [k1, k2] at k ⊢
            exact ih h k
/-- a name is ahead of another one -/
def nlt (a b : Nm) : Prop := a.tenant < b.tenant ∨ (a.tenant = b.tenant ∧ cb a.key.data.toList b.key.data.toList < 0)
instance (a b : Nm) : Decidable (nlt a b) := by unfold nlt; exact inferInstance
theorem nlt_irrefl (a : Nm) : ¬ nlt a a := by
  unfold nlt
  have := cb_self a.key.data.toList
  omega
theorem nlt_trans {a b c : Nm} (h : nlt a b) (k : nlt b c) : nlt a c := by
  have ht := @cb_trans a.key.data.toList b.key.data.toList c.key.data.toList
  unfold nlt at h k ⊢
  omega
theorem nlt_ntrans {a b c : Nm} (h : ¬ nlt a b) (k : ¬ nlt b c) : ¬ nlt a c := by
  intro hac
  have ht := @cb_trans b.key.data.toList a.key.data.toList c.key.data.toList
  have hs := cb_swap a.key.data.toList b.key.data.toList
  have he : cb b.key.data.toList a.key.data.toList = 0 → cb b.key.data.toList c.key.data.toList = cb a.key.data.toList c.key.data.toList := fun e => by rw [cb_eq e]
  unfold nlt at h k hac
  omega
theorem nlt_total {a b : Nm} (h : ¬ nlt a b) (k : ¬ nlt b a) : a = b := by
  obtain ⟨t, k1⟩ := a
  obtain ⟨t', k2⟩ := b
  have hs := cb_swap k1.data.toList k2.data.toList
  unfold nlt at h k
  simp only [] at h k
  have e2 : t = t' := by omega
  have e3 : cb k1.data.toList k2.data.toList = 0 := by omega
  have e4 := cb_eq e3
  have e5 : k1 = k2 := by
    obtain ⟨⟨l1⟩⟩ := k1
    obtain ⟨⟨l2⟩⟩ := k2
    simp only [] at e4
    rw [e4]
  rw [e2, e5]
/-- what rising answers -/
def cmpN (x y : Nm) : Int := if Lib.compareInt x.tenant y.tenant ≠ 0 then Lib.compareInt x.tenant y.tenant else cb x.key.data.toList y.key.data.toList
theorem cmpN_lt (x y : Nm) : ltOf cmpN x y = decide (nlt x y) := by
  unfold ltOf cmpN nlt Lib.compareInt
  by_cases h3 : x.tenant < y.tenant
  · simp [h3]
  · by_cases h4 : y.tenant < x.tenant
    · simp [h3, h4]; omega
    · have e2 : x.tenant = y.tenant := by omega
      simp [e2]
theorem cmpN_swo : Go.Sort.SWO (ltOf cmpN) where
  irrefl x := by rw [cmpN_lt]; simpa using nlt_irrefl x
  trans x y z h1 h2 := by rw [cmpN_lt] at *; simp at *; exact nlt_trans h1 h2
  ntrans x y z h1 h2 := by rw [cmpN_lt] at *; simp at *; exact nlt_ntrans h1 h2
theorem cmpN_total : ∀ x y, ltOf cmpN x y = false → ltOf cmpN y x = false → x = y := fun x y h1 h2 => by
  rw [cmpN_lt] at h1 h2
  exact nlt_total (by simpa using h1) (by simpa using h2)
theorem bytes_less : ∀ a b : List UInt8, Op.bytesLess a b = decide (cb a b < 0)
  | [], [] => by simp [Op.bytesLess, cb, Lib.compareBytes]
  | [], _ :: _ => by simp [Op.bytesLess, cb, Lib.compareBytes]
  | _ :: _, [] => by simp [Op.bytesLess, cb, Lib.compareBytes]
  | x :: a, y :: b => by
    have ih := bytes_less a b
    unfold Op.bytesLess
    simp only [cb, Lib.compareBytes] at ih ⊢
    by_cases h1 : x < y
    · simp [h1]
    · by_cases h2 : y < x
      · have h3 : x ≠ y := fun e => by rw [e] at h2; exact UInt8.lt_irrefl y h2
        simp [h1, h2, h3]
      · have e : x = y := UInt8.le_antisymm (UInt8.not_lt.1 h2) (UInt8.not_lt.1 h1)
        subst e
        simp [UInt8.lt_irrefl, ih]
theorem less_any (w : World) (a b : Nm) :
    Calls Try.prog 20 #[.agg #[.int .i64 a.tenant, .string a.key], .agg #[.int .i64 b.tenant, .string b.key]] w fun e w' => e = .returned (.bool (decide (nlt a b))) ∧ Below w.heap.size w w' := by
  obtain ⟨t, k⟩ := a
  obtain ⟨t', k'⟩ := b
  unfold nlt
  simp only []
  have hbb : Below w.heap.size w ((w.alloc (.cells #[.int .i64 t, .string k] 28)).alloc (.cells #[.int .i64 t', .string k'] 28)) := ((Below.refl _ _).alloc (Nat.le_refl _) _).alloc (by simp) _
  by_cases h1 : t < t'
  · go_enter Try.func20, Try.ntmps20
    go_wp2
    go_ret
    exact ⟨by simp [h1], hbb⟩
  · have h1' : decide (t < t') = false := by simpa using h1
    by_cases h2 : t = t'
    · subst h2
      go_enter Try.func20, Try.ntmps20
      go_wp2
      go_ret
      refine ⟨?_, hbb⟩
      show Ending.returned (.bool (Op.bytesLess k.toList k'.toList)) = _
      rw [bytes_less, ByteArray.toList_eq, ByteArray.toList_eq]
    · have h2' : (t == t') = false := by simpa using h2
      go_enter Try.func20, Try.ntmps20
      go_wp2
      go_ret
      exact ⟨by simp [h1, h2], hbb⟩
end Go.Proofs.Ytlomciinkpecpaa
