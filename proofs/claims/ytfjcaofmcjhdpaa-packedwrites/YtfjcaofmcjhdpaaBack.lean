/-
  (shaken)
-/
import Derived.Test.YtfjcaofmcjhdpaaPure
namespace Go.Proofs.Ytfjcaofmcjhdpaa
open Go.RowKit
set_option linter.unusedSimpArgs false
set_option linter.unusedVariables false

theorem byte_on (n : Nat) : (UInt8.ofNat (n % 128 + 128)).toNat = n % 128 + 128 := by simp; omega
theorem byte_last (n : Nat) (h : n < 128) : (UInt8.ofNat n).toNat = n := by simp; omega
theorem smallF_spec : ∀ (f n : Nat), n < 128 ^ (f + 1) → ∀ r : List UInt8,
    lead (smallF f n ++ r) = (smallF f n).length - 1 ∧ val (smallF f n) = n ∧ ((smallF f n ++ r).getD ((smallF f n).length - 1) 0).toNat = n / 128 ^ ((smallF f n).length - 1) ∧ (1 < (smallF f n).length → 128 ^ ((smallF f n).length - 1) ≤ n)
  | 0, n, h, r => by
    have hn : n < 128 := by simpa using h
    have hb := byte_last n hn
    have hl : ¬ 128 ≤ (UInt8.ofNat n).toNat := by omega
    refine ⟨by simp only [smallF, List.singleton_append, lead, if_neg hl, List.length_singleton], by simp only [smallF, val, hb]; omega, ?_, by simp [smallF]⟩
    simp only [smallF, List.length_singleton, Nat.sub_self, Nat.pow_zero, Nat.div_one, List.singleton_append, List.getD_cons_zero]
    exact hb
  | f + 1, n, h, r => by
    by_cases hn : n < 128
    · have hb := byte_last n hn
      have hl : ¬ 128 ≤ (UInt8.ofNat n).toNat := by omega
      have e : smallF (f + 1) n = [UInt8.ofNat n] := by rw [smallF, if_pos hn]
      rw [e]
      refine ⟨by simp only [List.singleton_append, lead, if_neg hl, List.length_singleton], by simp only [val, hb]; omega, ?_, by simp⟩
      simp only [List.length_singleton, Nat.sub_self, Nat.pow_zero, Nat.div_one, List.singleton_append, List.getD_cons_zero]
      exact hb
    · have e : smallF (f + 1) n = UInt8.ofNat (n % 128 + 128) :: smallF f (n / 128) := by rw [smallF, if_neg hn]
      have hlt : n / 128 < 128 ^ (f + 1) := by rw [Nat.div_lt_iff_lt_mul (by decide)]; rw [Nat.pow_succ] at h; exact h
      obtain ⟨h1, h2, h3, h4⟩ := smallF_spec f (n / 128) hlt r
      have hp := smallF_pos f (n / 128)
      have hb := byte_on n
      rw [e]
      obtain ⟨L, hL⟩ : ∃ L, L = smallF f (n / 128) := ⟨_, rfl⟩
      rw [← hL] at h1 h2 h3 h4 hp ⊢
      obtain ⟨m, hm⟩ : ∃ m, L.length = m + 1 := ⟨L.length - 1, by omega⟩
      rw [hm] at h1 h3 h4
      simp only [Nat.add_sub_cancel] at h1 h3 h4
      refine ⟨?_, ?_, ?_, ?_⟩
      · simp only [List.cons_append, lead]
        rw [if_pos (by omega), h1]
        simp only [List.length_cons, hm]; omega
      · simp only [val, hb, h2]; omega
      · simp only [List.cons_append, List.length_cons, hm, Nat.add_sub_cancel, List.getD_cons_succ]
        rw [h3, Nat.div_div_eq_div_mul, Nat.pow_succ, Nat.mul_comm]
      · intro _
        simp only [List.length_cons, hm, Nat.add_sub_cancel]
        rw [Nat.pow_succ]
        by_cases h0 : m = 0
        · subst h0; simp; omega
        · have := h4 (by omega)
          have h5 : 128 ^ m * 128 ≤ (n / 128) * 128 := Nat.mul_le_mul_right _ this
          omega
/-- P1.6: a number's bytes are read back, whatever stands behind -/
theorem read_small (n : Nat) (hn : Fits n) (r : List UInt8) : readL (small n ++ r) = some (n, (small n).length) := by
  have hn' : n < 18446744073709551616 := hn
  have hlt : n < 128 ^ (9 + 1) := by
    have : (128 : Nat) ^ (9 + 1) = 1180591620717411303424 := by decide
    omega
  obtain ⟨h1, h2, h3, h4⟩ := smallF_spec 9 n hlt r
  have hp := small_pos n
  have hl := small_len n
  have e : smallF 9 n = small n := rfl
  rw [e] at h1 h2 h3 h4
  obtain ⟨m, hm⟩ : ∃ m, (small n).length = m + 1 := ⟨(small n).length - 1, by omega⟩
  rw [hm] at h1 h3 h4
  simp only [Nat.add_sub_cancel] at h1 h3 h4
  unfold readL
  rw [h1, if_pos]
  · have ht : (small n ++ r).take (m + 1) = small n := by rw [← hm]; exact List.take_left
    rw [ht, h2, hm]
  · refine ⟨by simp [hm]; omega, by omega, ?_, ?_⟩
    · rintro ⟨h9, hx⟩
      rw [h9] at h3
      have hq : n / 128 ^ 9 ≤ 1 := by
        have : (128 : Nat) ^ 9 = 9223372036854775808 := by decide
        rw [this]; omega
      omega
    · rintro ⟨h0, hx⟩
      have := h4 (by omega)
      have h6 : 0 < n / 128 ^ m := Nat.div_pos this (Nat.pow_pos (by decide))
      omega
theorem sSmall_back (most n : Nat) (hn : Fits n) (hm : n ≤ most) (r : List UInt8) (b : Bool) : sSmall most ⟨small n ++ r, b⟩ = (n, ⟨r, b⟩) := by
  rw [sSmall_ok (s := ⟨small n ++ r, b⟩) (read_small n hn r) hm]
  simp
theorem sText_back (t r : List UInt8) (b : Bool) (ht : Fits t.length) : sText ⟨text t ++ r, b⟩ = (t, ⟨r, b⟩) := by
  have h : t.length < 18446744073709551616 := ht
  unfold sText text
  rw [List.append_assoc, sSmall_back _ _ ht (by omega)]
  rw [if_neg (by simp)]
  simp
theorem cut_text (t r : List UInt8) (ht : Fits t.length) : cutT (text t ++ r) = t ∧ cutR (text t ++ r) = r ∧ cutE (text t ++ r) = 0 := by
  unfold cutT cutR cutE
  rw [sText_back t r false ht]
  simp
/-- how many bytes a number still has behind its first -/
def more (y : Nat) : Nat := if y = 0 then 0 else (small y).length
theorem more_start (n : Nat) (hn : Fits n) : 1 + more (n / 128) = (small n).length := by
  have hn' : n < 18446744073709551616 := hn
  unfold more
  by_cases h : n < 128
  · rw [small_lt h, if_pos (by omega)]; rfl
  · rw [small_ge (by omega) hn', if_neg (by omega)]; simp; omega
theorem more_step (y : Nat) (hy : Fits y) (h0 : 0 < y) : more y = 1 + more (y / 128) := by
  rw [more_start y hy]
  unfold more
  rw [if_neg (by omega)]
end Go.Proofs.Ytfjcaofmcjhdpaa
