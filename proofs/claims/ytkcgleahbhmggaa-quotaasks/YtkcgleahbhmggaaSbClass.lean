/-
  Contracts of Class, Size and Chunks, and of the document's.
-/
import Derived.Test.YtkcgleahbhmggaaSbSmall
namespace Go.Proofs.Ytkcgleahbhmggaa
open Go.RowKit
set_option linter.unusedSimpArgs false
set_option linter.unusedVariables false
set_option maxRecDepth 100000

/-- the least class whose chunks have room -/
def clsN (n : Int) : Nat := if n ≤ 16 then 0 else if n ≤ 32 then 1 else if n ≤ 64 then 2 else if n ≤ 128 then 3 else 4
theorem cls_le (n : Int) : clsN n ≤ 4 := by
  unfold clsN
  repeat' split
  all_goals omega
theorem cls_lt {n : Int} {k : Nat} (hn : 1 ≤ n ∧ n ≤ 256) (hk : k ≤ clsN n) : (16 * 2 ^ k : Int) < n ↔ k < clsN n := by
  have h4 := cls_le n
  have h5 : k = 0 ∨ k = 1 ∨ k = 2 ∨ k = 3 ∨ k = 4 := by omega
  rcases h5 with rfl | rfl | rfl | rfl | rfl <;> (unfold clsN at *; repeat' split) <;> simp_all <;> omega
theorem rsize_any (c : Int) (w : World) (hc : isC c = true) :
    Calls Try.prog 69 #[.int .i64 c] w fun e w' => e = .returned (.int .i64 (16 * 2 ^ c.toNat)) ∧ w' = w := by
  rcases isC_cases hc with rfl | rfl | rfl | rfl | rfl <;>
  · go_enter Try.func69, Try.ntmps69
    go_wp2
    go_ret
    exact ⟨by rfl, rfl⟩
theorem rchunks_any (c : Int) (w : World) (hc : isC c = true) :
    Calls Try.prog 52 #[.int .i64 c] w fun e w' => e = .returned (.int .i64 (chunks c)) ∧ w' = w := by
  rcases isC_cases hc with rfl | rfl | rfl | rfl | rfl <;>
  · go_enter Try.func52, Try.ntmps52
    go_wp2_with (go_at_call 69; refine (rsize_any _ _ hc).mono ?_; rintro e w1 ⟨rfl, rfl⟩)
    go_ret
    exact ⟨by rfl, rfl⟩
theorem risClass_any (t : Int) (w : World) :
    Calls Try.prog 51 #[.int .i64 t] w fun e w' => e = .returned (.bool (isC t)) ∧ w' = w := by
  by_cases h : 0 ≤ t
  · have h2 : decide (0 ≤ t) = true := by simp [h]
    go_enter Try.func51, Try.ntmps51
    go_wp2
    go_ret
    exact ⟨by simp [isC, h], rfl⟩
  · have h2 : decide (0 ≤ t) = false := by simp; omega
    go_enter Try.func51, Try.ntmps51
    go_wp2
    go_ret
    exact ⟨by simp [isC]; omega, rfl⟩
theorem scls_bad (n : Int) (w : World) (hn : ¬ (1 ≤ n ∧ n ≤ 256)) :
    Calls Try.prog 30 #[.int .i64 n] w fun e w' => e = .returned (.tuple #[.int .i64 0, .int .i64 2]) ∧ w' = w := by
  by_cases h : n < 1
  · have h2 : decide (n < 1) = true := by simp [h]
    clear hn
    go_enter Try.func30, Try.ntmps30
    go_wp2
    go_ret2
    exact ⟨rfl, rfl⟩
  · have h1 : decide (n < 1) = false := by simp; omega
    have h2 : decide (256 < n) = true := by simp; omega
    clear hn h
    go_enter Try.func30, Try.ntmps30
    go_wp2
    go_ret2
    exact ⟨rfl, rfl⟩
theorem scls_good (n : Int) (w : World) (hn : 1 ≤ n ∧ n ≤ 256) :
    Calls Try.prog 30 #[.int .i64 n] w fun e w' => e = .returned (.tuple #[.int .i64 (clsN n), .int .i64 0]) ∧ w' = w := by
  have h1 : decide (n < 1) = false := by simp; omega
  have h2 : decide (256 < n) = false := by simp; omega
  obtain ⟨C, hC⟩ : ∃ C, C = clsN n := ⟨_, rfl⟩
  rw [← hC]
  have HL := Hid.mk2 (fun k (hk : k ≤ clsN n) => cls_lt hn hk)
  have HC4 : Hid (C ≤ 4) := by rw [hC]; exact cls_le n
  rw [← hC] at HL
  clear hC
  go_enter Try.func30, Try.ntmps30
  go_wp2
  go_loopw [4] (fun i wr => ∃ k : Nat, k ≤ C ∧ i = .int .i64 k ∧ wr = w) (fun i _ => C - (intOf i).toNat)
  case atStart => exact ⟨0, Nat.zero_le _, rfl, rfl⟩
  case round =>
    obtain ⟨k, hk, rfl, hw⟩ := hrel
    subst hw
    have hs := fun W => ssize_any (k : Int) W (by have := HC4.out; simp [isC]; omega)
    rw [Int.toNat_natCast] at hs
    have hlt := HL.out k hk
    obtain ⟨S, hS⟩ : ∃ S : Int, S = 16 * 2 ^ k := ⟨_, rfl⟩
    rw [← hS] at hs hlt
    clear hS
    have hC4 := HC4.out
    by_cases hkC : k < C
    · have g : decide (S < n) = true := by simp; exact hlt.2 hkC
      have HLT := Hid.mk2 hlt
      clear hlt
      go_wp2_with (go_at_call 65; refine (hs _).mono ?_; rintro e w2 ⟨rfl, hwq⟩; obtain rfl := hwq)
      go_roundw
      case rel => exact ⟨k + 1, by omega, by go_num, by first | rfl | trivial⟩
      case measure => simp [intOf]; omega
    · have g : decide (S < n) = false := by simp; have := mt hlt.1 hkC; omega
      have e : k = C := by omega
      subst e
      have HLT := Hid.mk2 hlt
      clear hlt
      go_wp2_with (go_at_call 65; refine (hs _).mono ?_; rintro e w2 ⟨rfl, hwq⟩; obtain rfl := hwq)
      go_ret2
      exact ⟨rfl, rfl⟩
theorem sSize_any (c : Int) (w : World) :
    Calls Try.prog 31 #[.int .i64 c] w fun e w' => e = .returned (.tuple #[.int .i64 (if isC c = true then 16 * 2 ^ c.toNat else 0), .int .i64 (if isC c = true then 0 else 2)]) ∧ w' = w := by
  have hi := fun W => isClass_any c W
  cases e : isC c
  · rw [e] at hi
    rw [if_neg (by decide), if_neg (by decide)]
    clear e
    go_enter Try.func31, Try.ntmps31
    go_wp2_with (go_at_call 56; refine (hi _).mono ?_; rintro e w2 ⟨rfl, hwq⟩; obtain rfl := hwq)
    go_ret2
    exact ⟨rfl, rfl⟩
  · have hs := fun W => ssize_any c W e
    rw [e] at hi
    rw [if_pos rfl, if_pos rfl]
    obtain ⟨S, hS⟩ : ∃ S : Int, S = 16 * 2 ^ c.toNat := ⟨_, rfl⟩
    rw [← hS] at hs ⊢
    clear e hS
    go_enter Try.func31, Try.ntmps31
    go_wp2_with (first
      | (go_at_call 56; refine (hi _).mono ?_; rintro e w2 ⟨rfl, hwq⟩; obtain rfl := hwq)
      | (go_at_call 65; refine (hs _).mono ?_; rintro e w2 ⟨rfl, hwq⟩; obtain rfl := hwq))
    go_ret2
    exact ⟨rfl, rfl⟩
theorem sChunks_any (c : Int) (w : World) :
    Calls Try.prog 32 #[.int .i64 c] w fun e w' => e = .returned (.tuple #[.int .i64 (if isC c = true then (chunks c : Int) else 0), .int .i64 (if isC c = true then 0 else 2)]) ∧ w' = w := by
  have hi := fun W => isClass_any c W
  cases e : isC c
  · rw [e] at hi
    rw [if_neg (by decide), if_neg (by decide)]
    clear e
    go_enter Try.func32, Try.ntmps32
    go_wp2_with (go_at_call 56; refine (hi _).mono ?_; rintro e w2 ⟨rfl, hwq⟩; obtain rfl := hwq)
    go_ret2
    exact ⟨rfl, rfl⟩
  · have hs := fun W => chunksOf_any c W e
    rw [e] at hi
    rw [if_pos rfl, if_pos rfl]
    obtain ⟨S, hS⟩ : ∃ S : Int, S = (chunks c : Int) := ⟨_, rfl⟩
    rw [← hS] at hs ⊢
    clear e hS
    go_enter Try.func32, Try.ntmps32
    go_wp2_with (first
      | (go_at_call 56; refine (hi _).mono ?_; rintro e w2 ⟨rfl, hwq⟩; obtain rfl := hwq)
      | (go_at_call 62; refine (hs _).mono ?_; rintro e w2 ⟨rfl, hwq⟩; obtain rfl := hwq))
    go_ret2
    exact ⟨rfl, rfl⟩
end Go.Proofs.Ytkcgleahbhmggaa
