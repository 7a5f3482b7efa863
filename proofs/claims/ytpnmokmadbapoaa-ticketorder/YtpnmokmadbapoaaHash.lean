/-
  Contracts of hashOn, Hash, tenantMayBe, keyMayBe, Shard.
-/
import Derived.Test.YtpnmokmadbapoaaPure
namespace Go.Proofs.Ytpnmokmadbapoaa
open Go.RowKit
set_option linter.unusedSimpArgs false
set_option linter.unusedVariables false

theorem hashOn_any (h : Int) (s : ByteArray) (w : World) (hs : s.size ≤ maxLen) :
    Calls Try.prog 99 #[.int .u64 h, .string s] w fun e w' => e = .returned (.int .u64 (hashL h s.data.toList)) ∧ w = w' := by
  unfold maxLen at hs
  go_enter Try.func99, Try.ntmps99
  go_wp2
  go_loop [0, 8] (fun t i => ∃ k : Nat, k ≤ s.size ∧ i = .int .i64 k ∧ t = .int .u64 (hashL h (s.data.toList.take k))) (fun _ i => s.size - (intOf i).toNat)
  case atStart => exact ⟨0, Nat.zero_le _, rfl, rfl⟩
  case round =>
    obtain ⟨k, hk, rfl, rfl⟩ := hrel
    by_cases hlt : k < s.size
    · have HS : Hid (hashL h (s.data.toList.take (k + 1)) = hstep (hashL h (s.data.toList.take k)) s[k]) := by rw [take_snoc s k hlt, hashL_snoc]; exact rfl
      go_wp2
      go_round
      case rel => exact ⟨k + 1, by omega, by go_num, by rw [HS.out]; rfl⟩
      case measure => simp [intOf]; omega
    · go_wp2
      go_ret
      exact ⟨ret_int (by rw [take_all s k (by omega)]), rfl⟩

theorem hash_any (s : ByteArray) (w : World) (hs : s.size ≤ maxLen) :
    Calls Try.prog 100 #[.string s] w fun e w' => e = .returned (.int .u64 (hash0 s.data.toList)) ∧ w = w' := by
  go_enter Try.func100, Try.ntmps100
  go_wp2_with (go_at_call 99; refine (hashOn_any _ _ _ hs).mono ?_; rintro e w' ⟨rfl, rfl⟩)
  go_ret
  exact ⟨rfl, rfl⟩

theorem tenantMayBe_any (t : Int) (w : World) :
    Calls Try.prog 97 #[.int .i64 t] w fun e w' => e = .returned (.bool (tenOk t)) ∧ w = w' := by
  by_cases h0 : 0 ≤ t
  all_goals
    by_cases h1 : t < 4
    all_goals
      go_enter Try.func97, Try.ntmps97
      go_wp2
      go_ret
      exact ⟨by simp [tenOk, *], rfl⟩

theorem keyMayBe_any (s : ByteArray) (w : World) :
    Calls Try.prog 98 #[.string s] w fun e w' => e = .returned (.bool (keyOk s)) ∧ w = w' := by
  by_cases h0 : 1 ≤ s.size
  · have e0 : (1 : Int) ≤ (s.size : Int) := by omega
    by_cases h1 : s.size ≤ 32
    · have e1 : (s.size : Int) ≤ 32 := by omega
      go_enter Try.func98, Try.ntmps98
      go_wp2
      go_ret
      exact ⟨by simp [keyOk, h0, h1], rfl⟩
    · have e1 : ¬ (s.size : Int) ≤ 32 := by omega
      have hd : decide ((s.size : Int) ≤ 32) = false := by simpa using e1
      go_enter Try.func98, Try.ntmps98
      go_wp2
      go_ret
      exact ⟨by simp [keyOk, h1], rfl⟩
  · have e0 : ¬ (1 : Int) ≤ (s.size : Int) := by omega
    have hd : decide ((1 : Int) ≤ (s.size : Int)) = false := by simpa using e0
    go_enter Try.func98, Try.ntmps98
    go_wp2
    go_ret
    exact ⟨by simp [keyOk, h0], rfl⟩


theorem conv_one (t : Int) (w : World) : (convert 93 9 (.slice (some ⟨w.heap.size, 0, none⟩) 1 1)).run Try.prog (w.alloc (.cells #[.int .u8 t] 5)) =
    .ok (.string (tenantText t)) (w.alloc (.cells #[.int .u8 t] 5)) := by
  have h := run_convert_bytes_arg (P := Try.prog) (w.alloc (.cells #[.int .u8 t] 5)) 93 5 Try.underlying93 Try.underlying5 w.heap.size 0 1 1 [t] rfl
    (fun i hi => by
      have : i = 0 := by omega
      subst this
      simp) 9 Try.underlying9
  exact h

theorem shard_any (t : Int) (s : ByteArray) (n : Int) (w : World) (hs : s.size ≤ maxLen) :
    Calls Try.prog 86 #[.int .i64 t, .string s, .int .i64 n] w fun e w' =>
      e = .returned (.tuple #[.int .i64 (shardOf t s n).1, .int .i64 (shardOf t s n).2]) ∧ Below w.heap.size w w' := by
  have hcv := fun w => conv_one t w
  by_cases ht : tenOk t = true
  · by_cases hk : keyOk s = true
    · by_cases hn : 1 ≤ n ∧ n ≤ 4
      · obtain ⟨hn0, hn1⟩ := hn
        have hnd : decide (n < 1) = false := by simp; omega
        have hnd2 : decide (4 < n) = false := by simp; omega
        have ht2 : 0 ≤ t ∧ t < 4 := by simpa [tenOk] using ht
        obtain ⟨ht0, ht1⟩ := ht2
        go_enter Try.func86, Try.ntmps86
        go_wp2_with (first
          | (go_at_call 97; refine (tenantMayBe_any _ _).mono ?_; rintro e w' ⟨rfl, rfl⟩)
          | (go_at_call 98; refine (keyMayBe_any _ _).mono ?_; rintro e w' ⟨rfl, rfl⟩)
          | (go_at_call 100; refine (hash_any _ _ (by rw [tenantText_size]; decide)).mono ?_; rintro e w' ⟨rfl, rfl⟩)
          | (go_at_call 99; refine (hashOn_any _ _ _ hs).mono ?_; rintro e w' ⟨rfl, rfl⟩))
        go_ret2
        refine ⟨?_, (Below.refl _ _).alloc (Nat.le_refl _) _⟩
        rw [show hashL (hash0 (tenantText t).data.toList) s.data.toList = hash0 ((tenantText t).data.toList ++ s.data.toList) from (hashL_append _ _ _).symm, mod_form _ _ (hash0_bounds _).1 hn0 hn1]
        have e : ¬ (n < 1 ∨ 4 < n) := by omega
        simp [shardOf, ht, hk, e]
      · have e : n < 1 ∨ 4 < n := by omega
        have ht2 : 0 ≤ t ∧ t < 4 := by simpa [tenOk] using ht
        rcases e with e | e
        · have hnd : decide (n < 1) = true := by simp; omega
          go_enter Try.func86, Try.ntmps86
          go_wp2_with (first
            | (go_at_call 97; refine (tenantMayBe_any _ _).mono ?_; rintro e w' ⟨rfl, rfl⟩)
            | (go_at_call 98; refine (keyMayBe_any _ _).mono ?_; rintro e w' ⟨rfl, rfl⟩))
          go_ret2
          exact ⟨by simp [shardOf, ht, hk, e], Below.refl _ _⟩
        · have hnd : decide (n < 1) = false := by simp; omega
          have hnd2 : decide (4 < n) = true := by simp; omega
          go_enter Try.func86, Try.ntmps86
          go_wp2_with (first
            | (go_at_call 97; refine (tenantMayBe_any _ _).mono ?_; rintro e w' ⟨rfl, rfl⟩)
            | (go_at_call 98; refine (keyMayBe_any _ _).mono ?_; rintro e w' ⟨rfl, rfl⟩))
          go_ret2
          exact ⟨by simp [shardOf, ht, hk, e], Below.refl _ _⟩
    · have hkf : keyOk s = false := by simpa using hk
      clear hk
      go_enter Try.func86, Try.ntmps86
      go_wp2_with (first
        | (go_at_call 97; refine (tenantMayBe_any _ _).mono ?_; rintro e w' ⟨rfl, rfl⟩)
        | (go_at_call 98; refine (keyMayBe_any _ _).mono ?_; rintro e w' ⟨rfl, rfl⟩))
      go_ret2
      exact ⟨by simp [shardOf, ht, hkf], Below.refl _ _⟩
  · have htf : tenOk t = false := by simpa using ht
    clear ht
    go_enter Try.func86, Try.ntmps86
    go_wp2_with (first
      | (go_at_call 97; refine (tenantMayBe_any _ _).mono ?_; rintro e w' ⟨rfl, rfl⟩))
    go_ret2
    exact ⟨by simp [shardOf, htf], Below.refl _ _⟩
end Go.Proofs.Ytpnmokmadbapoaa
