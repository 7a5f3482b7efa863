/-
  The document's Less: its contract.
-/
import Derived.Test.YthcekkahkioibadWhAddL
namespace Go.Proofs.Ythcekkahkioibad
open Go.RowKit
set_option linter.unusedSimpArgs false
set_option linter.unusedVariables false
set_option maxRecDepth 100000

theorem bytes_less : ∀ a b : List UInt8, Op.bytesLess a b = decide (cb a b < 0)
  | [], [] => by simp [Op.bytesLess, cb, Lib.compareBytes]
  | [], _ :: _ => by simp [Op.bytesLess, cb, Lib.compareBytes]
  | _ :: _, [] => by simp [Op.bytesLess, cb, Lib.compareBytes]
  | x :: a, y :: b => by
    have ih := bytes_less a b
    unfold Op.bytesLess
    simp only [cb, Lib.compareBytes] at ih ⊢
    by_cases h1 : x < y
    · simp [h1]
    · by_cases h2 : y < x
      · have h3 : x ≠ y := fun e => by rw [e] at h2; exact UInt8.lt_irrefl y h2
        simp [h1, h2, h3]
      · have e : x = y := UInt8.le_antisymm (UInt8.not_lt.1 h2) (UInt8.not_lt.1 h1)
        subst e
        simp [UInt8.lt_irrefl, ih]
theorem less_any (w : World) (a b : Nm) :
    Calls Try.prog 21 #[.agg #[.int .i64 a.tenant, .string a.key], .agg #[.int .i64 b.tenant, .string b.key]] w fun e w' => e = .returned (.bool (decide (nlt a b))) ∧ Below w.heap.size w w' := by
  obtain ⟨t, k⟩ := a
  obtain ⟨t', k'⟩ := b
  unfold nlt
  simp only []
  have hbb : Below w.heap.size w ((w.alloc (.cells #[.int .i64 t, .string k] 24)).alloc (.cells #[.int .i64 t', .string k'] 24)) := ((Below.refl _ _).alloc (Nat.le_refl _) _).alloc (by simp) _
  by_cases h1 : t < t'
  · go_enter Try.func21, Try.ntmps21
    go_wp2
    go_ret
    exact ⟨by simp [h1], hbb⟩
  · have h1' : decide (t < t') = false := by simpa using h1
    by_cases h2 : t = t'
    · subst h2
      go_enter Try.func21, Try.ntmps21
      go_wp2
      go_ret
      refine ⟨?_, hbb⟩
      show Ending.returned (.bool (Op.bytesLess k.toList k'.toList)) = _
      rw [bytes_less, ByteArray.toList_eq, ByteArray.toList_eq]
    · have h2' : (t == t') = false := by simpa using h2
      go_enter Try.func21, Try.ntmps21
      go_wp2
      go_ret
      exact ⟨by simp [h1, h2], hbb⟩
end Go.Proofs.Ythcekkahkioibad
