/-
  What a block is behind some writes: the last one's bytes, or as it was.
-/
import Derived.Test.YthdfomcikdjkpabDkPure
namespace Go.Proofs.Ythdfomcikdjkpab
set_option linter.unusedSimpArgs false
set_option linter.unusedVariables false

/-- the bytes of block k -/
def blockOf (L : List UInt8) (k : Nat) : List UInt8 := (L.drop (64 * k)).take 64
theorem blockOf_get (L : List UInt8) (k i : Nat) : (blockOf L k)[i]? = if i < 64 then L[64 * k + i]? else none := by
  unfold blockOf
  rw [List.getElem?_take]
  split
  · rw [List.getElem?_drop]
  · rfl
theorem put1_get {L : List UInt8} {p : Pt} (h : ptE L.length p = 0) (j : Nat) :
    (put1 L p)[j]? = if 64 * p.n.toNat ≤ j ∧ j < 64 * p.n.toNat + 64 then p.data[j - 64 * p.n.toNat]? else L[j]? := by
  obtain ⟨h0, h1, h2⟩ := ptE_zero h
  unfold put1
  rw [h2]
  by_cases c1 : j < 64 * p.n.toNat
  · rw [List.append_assoc, List.getElem?_append_left (by simp; omega), if_neg (by omega), List.getElem?_take, if_pos c1]
  · by_cases c2 : j < 64 * p.n.toNat + 64
    · rw [List.append_assoc, List.getElem?_append_right (by simp; omega), List.getElem?_append_left (by simp; omega), if_pos ⟨by omega, c2⟩]
      congr 1
      simp; omega
    · rw [List.getElem?_append_right (by simp; omega), if_neg (by omega), List.getElem?_drop]
      congr 1
      simp; omega
theorem block_same {L : List UInt8} {p : Pt} (h : ptE L.length p = 0) {k : Nat} (hk : p.n = (k : Int)) : blockOf (put1 L p) k = p.data := by
  obtain ⟨h0, h1, h2⟩ := ptE_zero h
  have hn : p.n.toNat = k := by omega
  apply List.ext_getElem?
  intro i
  rw [blockOf_get]
  by_cases c : i < 64
  · rw [if_pos c, put1_get h, hn, if_pos ⟨by omega, by omega⟩]
    congr 1
    omega
  · rw [if_neg c, List.getElem?_eq_none (by omega)]
theorem block_other {L : List UInt8} {p : Pt} (h : ptE L.length p = 0) {k : Nat} (hk : p.n ≠ (k : Int)) : blockOf (put1 L p) k = blockOf L k := by
  obtain ⟨h0, h1, h2⟩ := ptE_zero h
  apply List.ext_getElem?
  intro i
  rw [blockOf_get, blockOf_get]
  by_cases c : i < 64
  · rw [if_pos c, if_pos c, put1_get h, if_neg (by omega)]
  · rw [if_neg c, if_neg c]
theorem blockOf_len {L : List UInt8} {k : Nat} (h : 64 * k + 64 ≤ L.length) : (blockOf L k).length = 64 := by
  unfold blockOf; simp; omega
end Go.Proofs.Ythdfomcikdjkpab
