/-
  Contracts of the document's Hash, Tenant, Key, Shard.
-/
import Derived.Test.YtpnmokmadbapoaaHash
namespace Go.Proofs.Ytpnmokmadbapoaa
open Go.RowKit
set_option linter.unusedSimpArgs false
set_option linter.unusedVariables false

theorem refHash_any (s : ByteArray) (w : World) (hs : s.size ≤ maxLen) :
    Calls Try.prog 106 #[.string s] w fun e w' => e = .returned (.int .u64 (hash0 s.data.toList)) ∧ w = w' := by
  unfold maxLen at hs
  go_enter Try.func106, Try.ntmps106
  go_wp2
  go_loop [3, 4] (fun t i => ∃ k : Nat, k ≤ s.size ∧ i = .int .i64 k ∧ t = .int .u64 (hash0 (s.data.toList.take k))) (fun _ i => s.size - (intOf i).toNat)
  case atStart => exact ⟨0, Nat.zero_le _, rfl, rfl⟩
  case round =>
    obtain ⟨k, hk, rfl, rfl⟩ := hrel
    by_cases hlt : k < s.size
    · have HS : Hid (hash0 (s.data.toList.take (k + 1)) = hstep (hash0 (s.data.toList.take k)) s[k]) := by rw [take_snoc s k hlt]; exact hashL_snoc _ _ _
      go_wp2
      go_round
      case rel => exact ⟨k + 1, by omega, by go_num, by rw [HS.out]; rfl⟩
      case measure => simp [intOf]; omega
    · go_wp2
      go_ret
      exact ⟨ret_int (by rw [take_all s k (by omega)]), rfl⟩

theorem refTenant_any (t : Int) (w : World) :
    Calls Try.prog 104 #[.int .i64 t] w fun e w' => e = .returned (.bool (tenOk t)) ∧ w = w' := by
  by_cases h0 : 0 ≤ t
  all_goals
    by_cases h1 : t < 4
    all_goals
      go_enter Try.func104, Try.ntmps104
      go_wp2
      go_ret
      exact ⟨by simp [tenOk, *], rfl⟩

theorem refKey_any (s : ByteArray) (w : World) :
    Calls Try.prog 105 #[.string s] w fun e w' => e = .returned (.bool (keyOk s)) ∧ w = w' := by
  by_cases h0 : 1 ≤ s.size
  · have e0 : (1 : Int) ≤ (s.size : Int) := by omega
    by_cases h1 : s.size ≤ 32
    · have e1 : (s.size : Int) ≤ 32 := by omega
      go_enter Try.func105, Try.ntmps105
      go_wp2
      go_ret
      exact ⟨by simp [keyOk, h0, h1], rfl⟩
    · have e1 : ¬ (s.size : Int) ≤ 32 := by omega
      have hd : decide ((s.size : Int) ≤ 32) = false := by simpa using e1
      go_enter Try.func105, Try.ntmps105
      go_wp2
      go_ret
      exact ⟨by simp [keyOk, h1], rfl⟩
  · have e0 : ¬ (1 : Int) ≤ (s.size : Int) := by omega
    have hd : decide ((1 : Int) ≤ (s.size : Int)) = false := by simpa using e0
    go_enter Try.func105, Try.ntmps105
    go_wp2
    go_ret
    exact ⟨by simp [keyOk, h0], rfl⟩

theorem refShard_any (t : Int) (s : ByteArray) (n : Int) (w : World) (hs : s.size ≤ maxLen) :
    Calls Try.prog 96 #[.int .i64 t, .string s, .int .i64 n] w fun e w' =>
      e = .returned (.tuple #[.int .i64 (shardOf t s n).1, .int .i64 (shardOf t s n).2]) ∧ Below w.heap.size w w' := by
  have hcv := fun w => conv_one t w
  by_cases ht : tenOk t = true
  · by_cases hk : keyOk s = true
    · have hk2 : s.size ≤ 32 := by have : 1 ≤ s.size ∧ s.size ≤ 32 := by simpa [keyOk] using hk
                                   exact this.2
      have hb : (tenantText t ++ s).size ≤ maxLen := by rw [ByteArray.size_append, tenantText_size]; unfold maxLen; omega
      by_cases hn : 1 ≤ n ∧ n ≤ 4
      · obtain ⟨hn0, hn1⟩ := hn
        have hnd : decide (n < 1) = false := by simp; omega
        have hnd2 : decide (4 < n) = false := by simp; omega
        have ht2 : 0 ≤ t ∧ t < 4 := by simpa [tenOk] using ht
        obtain ⟨ht0, ht1⟩ := ht2
        have hsum : ¬ 9223372036854775807 < (tenantText t).size + s.size := by rw [tenantText_size]; omega
        go_enter Try.func96, Try.ntmps96
        go_wp2_with (first
          | (go_at_call 104; refine (refTenant_any _ _).mono ?_; rintro e w' ⟨rfl, rfl⟩)
          | (go_at_call 105; refine (refKey_any _ _).mono ?_; rintro e w' ⟨rfl, rfl⟩)
          | (go_at_call 106; refine (refHash_any _ _ hb).mono ?_; rintro e w' ⟨rfl, rfl⟩))
        go_ret2
        refine ⟨?_, (Below.refl _ _).alloc (Nat.le_refl _) _⟩
        rw [mod_form _ _ (hash0_bounds _).1 hn0 hn1]
        have e : ¬ (n < 1 ∨ 4 < n) := by omega
        simp [shardOf, ht, hk, e]
      · have e : n < 1 ∨ 4 < n := by omega
        have ht2 : 0 ≤ t ∧ t < 4 := by simpa [tenOk] using ht
        rcases e with e | e
        · have hnd : decide (n < 1) = true := by simp; omega
          go_enter Try.func96, Try.ntmps96
          go_wp2_with (first
            | (go_at_call 104; refine (refTenant_any _ _).mono ?_; rintro e w' ⟨rfl, rfl⟩)
            | (go_at_call 105; refine (refKey_any _ _).mono ?_; rintro e w' ⟨rfl, rfl⟩))
          go_ret2
          exact ⟨by simp [shardOf, ht, hk, e], Below.refl _ _⟩
        · have hnd : decide (n < 1) = false := by simp; omega
          have hnd2 : decide (4 < n) = true := by simp; omega
          go_enter Try.func96, Try.ntmps96
          go_wp2_with (first
            | (go_at_call 104; refine (refTenant_any _ _).mono ?_; rintro e w' ⟨rfl, rfl⟩)
            | (go_at_call 105; refine (refKey_any _ _).mono ?_; rintro e w' ⟨rfl, rfl⟩))
          go_ret2
          exact ⟨by simp [shardOf, ht, hk, e], Below.refl _ _⟩
    · have hkf : keyOk s = false := by simpa using hk
      clear hk
      go_enter Try.func96, Try.ntmps96
      go_wp2_with (first
        | (go_at_call 104; refine (refTenant_any _ _).mono ?_; rintro e w' ⟨rfl, rfl⟩)
        | (go_at_call 105; refine (refKey_any _ _).mono ?_; rintro e w' ⟨rfl, rfl⟩))
      go_ret2
      exact ⟨by simp [shardOf, ht, hkf], Below.refl _ _⟩
  · have htf : tenOk t = false := by simpa using ht
    clear ht
    go_enter Try.func96, Try.ntmps96
    go_wp2_with (first
      | (go_at_call 104; refine (refTenant_any _ _).mono ?_; rintro e w' ⟨rfl, rfl⟩))
    go_ret2
    exact ⟨by simp [shardOf, htf], Below.refl _ _⟩
end Go.Proofs.Ytpnmokmadbapoaa
