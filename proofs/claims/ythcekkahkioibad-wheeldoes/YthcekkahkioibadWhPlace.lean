/-
  Where a moment stands: the contract of place.
-/
import Derived.Test.YthcekkahkioibadWhPure
import Derived.Test.YthcekkahkioibadWhMap
namespace Go.Proofs.Ythcekkahkioibad
open Go.RowKit
set_option linter.unusedSimpArgs false
set_option linter.unusedVariables false
set_option maxRecDepth 100000

theorem i64_xor_nat (a b : Nat) (ha : a < 9223372036854775808) (hb : b < 9223372036854775808) : bits .xor .i64 (a : Int) (b : Int) = ((a ^^^ b : Nat) : Int) := by
  have hx : a ^^^ b < 2 ^ 63 := Nat.xor_lt_two_pow (by omega) (by omega)
  show IntKind.i64.wrap ((BitVec.ofInt 64 (a : Int) ^^^ BitVec.ofInt 64 (b : Int)).toNat : Int) = _
  rw [BitVec.toNat_xor, ofInt_u64 a (by omega), ofInt_u64 b (by omega), IntKind.wrap_i64]
  omega
theorem i64_and63 (a : Nat) (ha : a < 9223372036854775808) : bits .and .i64 (a : Int) 63 = ((a % 64 : Nat) : Int) := by
  have hx : a &&& 63 = a % 64 := Nat.and_two_pow_sub_one_eq_mod a 6
  show IntKind.i64.wrap ((BitVec.ofInt 64 (a : Int) &&& BitVec.ofInt 64 ((63 : Nat) : Int)).toNat : Int) = _
  rw [BitVec.toNat_and, ofInt_u64 a (by omega), ofInt_u64 63 (by omega), hx, IntKind.wrap_i64]
  omega

theorem and_digit (b k : Nat) (hb : b < 9223372036854775808) : bits .and .i64 ((b : Int) / 2 ^ (k * 6)) 63 = ((b / 64 ^ k % 64 : Nat) : Int) := by
  have e : (b : Int) / 2 ^ (k * 6) = ((b / 64 ^ k : Nat) : Int) := by
    rw [pow64, Nat.mul_comm k 6]
    simp
  rw [e]
  exact i64_and63 _ (Nat.lt_of_le_of_lt (Nat.div_le_self _ _) hb)
set_option maxHeartbeats 400000 in
theorem place_any (a b : Nat) (w : World) (ha : a ≤ 1099511627776) (hb : b ≤ 1099511627776) :
    Calls Try.prog 59 #[.int .i64 a, .int .i64 b] w fun e w' => e = .returned (.tuple #[.int .i64 (ring a b), .int .i64 (slot a b)]) ∧ Below w.heap.size w w' := by
  have hx := i64_xor_nat a b (by omega) (by omega)
  go_enter Try.func59, Try.ntmps59
  go_wp2
  obtain ⟨x, hxd⟩ : ∃ x, x = a ^^^ b := ⟨_, rfl⟩
  rw [← hxd] at hx
  have hx1 : x < 1099511627776 * 2 := by rw [hxd]; exact Nat.xor_lt_two_pow (n := 41) (by omega) (by omega)
  go_loopw [4, 6] (fun r d wr => ∃ (k e : Nat), r = .int .i64 k ∧ d = .int .i64 ((e / 64 : Nat) : Int) ∧ ringD x = k + ringD e ∧ e ≤ x ∧ k ≤ 64 ∧ wr = w) (fun _ d _ => (intOf d).toNat)
  case atStart =>
    exact ⟨0, x, rfl, by rw [hxd]; simp, by simp, by omega, by omega, rfl⟩
  case round =>
    obtain ⟨k, e, rfl, rfl, hr, hex, hk, rfl⟩ := hrel
    have hrl : ringD x ≤ 6 := by have := ring_le ha hb; unfold ring at this; rw [hxd]; exact this
    by_cases hz : e / 64 = 0
    · rw [hz]
      have HR : ring a b = k := by unfold ring; rw [← hxd, hr, ringD_zero hz]; rfl
      have hk6 : k ≤ 6 := by omega
      have hs : slot a b = b / 64 ^ k % 64 := by unfold slot; rw [HR]
      have HH : Hid (ring a b = k ∧ slot a b = b / 64 ^ k % 64) := ⟨HR, hs⟩
      clear HR hs
      go_wp2
      go_region
      go_wp2
      go_ret2
      obtain ⟨h1, h2⟩ := HH.out
      rw [h1, h2, and_digit b k (by omega)]
      exact ⟨rfl, (Below.refl _ _).drew⟩
    · have hz2 : ¬ ((e / 64 : Nat) : Int) = 0 := by omega
      have hs := ringD_succ hz
      go_wp2
      go_roundw
      case rel => exact ⟨k + 1, e / 64, by go_num, by simp, by omega, by omega, by omega, trivial⟩
      case measure => simp [intOf]; omega
end Go.Proofs.Ythcekkahkioibad
