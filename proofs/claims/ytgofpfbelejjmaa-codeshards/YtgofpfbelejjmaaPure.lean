/-
  Plain functions on numbers and lists of bytes, without the program: what hashes, small bytes, texts, changes and commands are.
-/
import Derived.Test.YtgofpfbelejjmaaRows
import Derived.WalkKit
import Derived.ProofKit
import Derived.OpenShut
import Derived.WalkSpells
import Derived.WalkLawsBesides
namespace Go.Proofs.Ytgofpfbelejjmaa
open Go.RowKit
set_option linter.unusedSimpArgs false
set_option linter.unusedVariables false

theorem ret_int {k : IntKind} {a b : Int} (h : a = b) : Ending.returned (.int k a) = .returned (.int k b) := by rw [h]
theorem take_snoc (s : ByteArray) (k : Nat) (h : k < s.size) : s.data.toList.take (k + 1) = s.data.toList.take k ++ [s[k]] := by
  rw [List.take_succ_eq_append_getElem (by simpa using h)]; rfl
theorem take_all (s : ByteArray) (k : Nat) (h : s.size ≤ k) : s.data.toList.take k = s.data.toList :=
  List.take_of_length_le (by simpa using h)

/-- one byte more in a hash -/
def hstep (h : Int) (c : UInt8) : Int := IntKind.u64.wrap (bits BinOp.xor IntKind.u64 h (IntKind.u64.wrap ↑c.toNat) * 1099511628211)
def hashL (h : Int) (l : List UInt8) : Int := l.foldl hstep h
theorem hashL_snoc (h : Int) (l : List UInt8) (c : UInt8) : hashL h (l ++ [c]) = hstep (hashL h l) c := by simp [hashL]
theorem hashL_append (h : Int) (l m : List UInt8) : hashL h (l ++ m) = hashL (hashL h l) m := by simp [hashL]

theorem u64_wrap_bounds (n : Int) : 0 ≤ IntKind.u64.wrap n ∧ IntKind.u64.wrap n ≤ 18446744073709551615 := by
  simp [IntKind.wrap, IntKind.bits, IntKind.signed]; omega
theorem hashL_bounds (h : Int) (l : List UInt8) (h0 : 0 ≤ h) (h1 : h ≤ 18446744073709551615) : 0 ≤ hashL h l ∧ hashL h l ≤ 18446744073709551615 := by
  rcases List.eq_nil_or_concat l with rfl | ⟨m, c, rfl⟩
  · exact ⟨h0, h1⟩
  · rw [List.concat_eq_append, hashL_snoc]; exact u64_wrap_bounds _
/-- the text of one byte that a tenant's number is -/
def tenantText (t : Int) : ByteArray := strOfNums [t]
theorem tenantText_size (t : Int) : (tenantText t).size = 1 := by simp [tenantText, strOfNums_size]
def keyOk (s : ByteArray) : Bool := decide (1 ≤ s.size ∧ s.size ≤ 32)
def tenOk (t : Int) : Bool := decide (0 ≤ t ∧ t < 4)
def hash0 (l : List UInt8) : Int := hashL 14695981039346656037 l
theorem hash0_bounds (l : List UInt8) : 0 ≤ hash0 l ∧ hash0 l ≤ 18446744073709551615 := hashL_bounds _ _ (by decide) (by decide)
/-- P1.2: what Shard answers -/
def shardOf (t : Int) (s : ByteArray) (n : Int) : Int × Int :=
  if tenOk t = false then (0, 2) else if keyOk s = false then (0, 3) else if n < 1 ∨ 4 < n then (0, 2) else (hash0 ((tenantText t).data.toList ++ s.data.toList) % n, 0)
theorem mod_form (h n : Int) (h0 : 0 ≤ h) (n0 : 1 ≤ n) (n1 : n ≤ 4) : wrap64 (h.tmod n) = h % n := by
  have e : h.tmod n = h % n := Int.tmod_eq_emod_of_nonneg h0
  have b0 := Int.emod_nonneg h (show n ≠ 0 by omega)
  have b1 := Int.emod_lt_of_pos h (show 0 < n by omega)
  rw [e]
  exact IntWalk.wrap64_in _ ⟨by omega, by omega⟩

end Go.Proofs.Ytgofpfbelejjmaa
