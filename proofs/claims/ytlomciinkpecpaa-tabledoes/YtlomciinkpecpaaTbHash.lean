/-
  In which row a name stands: the contract of rowOf.
-/
import Derived.Test.YtlomciinkpecpaaTbMem
import Derived.Laws.Bits64b
namespace Go.Proofs.Ytlomciinkpecpaa
open Go.RowKit
set_option linter.unusedSimpArgs false
set_option linter.unusedVariables false
set_option maxRecDepth 100000

/-- a name's hash, folded -/
def mixN (y : Nm) : Nat := (hash0 ((tenantText y.tenant).data.toList ++ y.key.data.toList)).toNat ^^^ (hash0 ((tenantText y.tenant).data.toList ++ y.key.data.toList)).toNat / 4294967296
/-- the row of n in which a name stands -/
def rix (y : Nm) (n : Nat) : Nat := mixN y &&& (n - 1)
theorem rix_lt (y : Nm) {n : Nat} (h : 1 ≤ n) : rix y n < n := by
  have : rix y n ≤ n - 1 := Nat.and_le_right
  omega
theorem rix_val (y : Nm) (n : Nat) (hn : 1 ≤ n) (hn2 : n ≤ 1000000) :
    wrap64 (bits BinOp.and IntKind.u64 (bits BinOp.xor IntKind.u64 (hash0 ((tenantText y.tenant).data.toList ++ y.key.data.toList)) (hash0 ((tenantText y.tenant).data.toList ++ y.key.data.toList) / 4294967296)) ((n : Int) - 1)) = (rix y n : Int) := by
  have hlt := rix_lt y hn
  unfold rix mixN at *
  obtain ⟨hb0, hb1⟩ := hash0_bounds ((tenantText y.tenant).data.toList ++ y.key.data.toList)
  obtain ⟨h, hh⟩ : ∃ h : Nat, hash0 ((tenantText y.tenant).data.toList ++ y.key.data.toList) = (h : Int) := ⟨(hash0 ((tenantText y.tenant).data.toList ++ y.key.data.toList)).toNat, by omega⟩
  rw [hh] at hb1 hlt ⊢
  rw [Int.toNat_natCast] at hlt ⊢
  have h1 : h < 18446744073709551616 := by omega
  rw [show ((h : Int) / 4294967296) = ((h / 4294967296 : Nat) : Int) by simp, bits_xor_u64_nat _ _ h1 (by omega), show ((n : Int) - 1) = ((n - 1 : Nat) : Int) by omega, bits_and_u64_nat _ _ (Nat.xor_lt_two_pow (n := 64) h1 (by omega)) (by omega)]
  obtain ⟨x, hx⟩ : ∃ x, x = (h ^^^ h / 4294967296) &&& (n - 1) := ⟨_, rfl⟩
  rw [← hx] at hlt ⊢
  unfold wrap64
  omega
theorem rowOf_any (w : World) (y : Nm) (hy : y.ok) (n : Nat) (hn : 1 ≤ n) (hn2 : n ≤ 1000000) :
    Calls Try.prog 35 #[.agg #[.int .i64 y.tenant, .string y.key], .int .i64 n] w fun e w' => e = .returned (.int .i64 (rix y n)) ∧ Below w.heap.size w w' := by
  have HV := Hid.mk2 (rix_val y n hn hn2)
  obtain ⟨t, k⟩ := y
  obtain ⟨h0, h1, h2, h3⟩ := hy
  simp only [] at h0 h1 h2 h3 HV ⊢
  have hcv := conv_one t (w.alloc (Obj.cells #[.int .i64 t, .string k] 28))
  rw [show (w.alloc (Obj.cells #[.int .i64 t, .string k] 28)).heap.size = w.heap.size + 1 by simp] at hcv
  have hsz : (tenantText t ++ k).size ≤ maxLen := by rw [ByteArray.size_append, tenantText_size]; unfold maxLen; omega
  have hs2 : ¬ 9223372036854775807 < (tenantText t).size + k.size := by rw [tenantText_size]; omega
  go_enter Try.func35, Try.ntmps35
  go_wp2_with (go_at_call 47; refine (hash_any _ _ hsz).mono ?_; rintro e w' ⟨rfl, rfl⟩)
  go_ret
  exact ⟨by rw [← HV.out]; rfl, ((Below.refl _ _).alloc (Nat.le_refl _) _).alloc (by simp) _⟩
end Go.Proofs.Ytlomciinkpecpaa
