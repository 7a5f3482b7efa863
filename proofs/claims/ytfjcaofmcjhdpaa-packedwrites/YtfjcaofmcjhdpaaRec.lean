/-
  (shaken)
-/
import Derived.Test.YtfjcaofmcjhdpaaBack
namespace Go.Proofs.Ytfjcaofmcjhdpaa
open Go.RowKit
set_option linter.unusedSimpArgs false
set_option linter.unusedVariables false

theorem canon (l : List UInt8) : ∀ f, lead l < l.length → lead l ≤ f → ((l.getD (lead l) 0).toNat ≠ 0 ∨ lead l = 0) →
    smallF f (val (l.take (lead l + 1))) = l.take (lead l + 1) ∧ ((l.getD (lead l) 0).toNat ≠ 0 → 0 < val (l.take (lead l + 1))) := by
  induction l with
  | nil => intro f h; simp at h
  | cons x l ih =>
    intro f h hf hz
    by_cases hx : 128 ≤ x.toNat
    · have e : lead (x :: l) = lead l + 1 := by simp [lead, hx]
      rw [e] at h hf hz ⊢
      have hgd : (x :: l).getD (lead l + 1) 0 = l.getD (lead l) 0 := by simp
      rw [hgd] at hz ⊢
      have hz' : (l.getD (lead l) 0).toNat ≠ 0 := by rcases hz with h | h <;> omega
      obtain ⟨g, rfl⟩ : ∃ g, f = g + 1 := ⟨f - 1, by omega⟩
      obtain ⟨h1, h2⟩ := ih g (by simpa using h) (by omega) (.inl hz')
      have h3 := h2 hz'
      have hx2 : x.toNat < 256 := UInt8.toNat_lt _
      have ht : (x :: l).take (lead l + 1 + 1) = x :: l.take (lead l + 1) := rfl
      rw [ht]
      obtain ⟨q, hq⟩ : ∃ q, q = l.take (lead l + 1) := ⟨_, rfl⟩
      rw [← hq] at h1 h3 ⊢
      have hv : val (x :: q) = x.toNat % 128 + 128 * val q := rfl
      refine ⟨?_, fun _ => by omega⟩
      rw [smallF, if_neg (by omega)]
      have e1 : val (x :: q) / 128 = val q := by omega
      have e2 : UInt8.ofNat (val (x :: q) % 128 + 128) = x := by
        rw [show val (x :: q) % 128 + 128 = x.toNat by omega]
        simp
      rw [e1, h1, e2]
    · have e : lead (x :: l) = 0 := by simp [lead, hx]
      rw [e]
      have ht : (x :: l).take (0 + 1) = [x] := rfl
      rw [ht]
      have hv : val [x] = x.toNat := by simp [val]; omega
      rw [hv]
      refine ⟨?_, fun h => by simp at h; omega⟩
      cases f with
      | zero => simp [smallF]
      | succ f => rw [smallF, if_pos (by omega)]; simp
/-- P1.6: what is read as a number was written so -/
theorem read_inv {l : List UInt8} {n k : Nat} (h : readL l = some (n, k)) : Fits n ∧ l = small n ++ l.drop k := by
  have hf := (readL_le h).2.2
  unfold readL at h
  split at h
  · next hc =>
    have e : val (l.take (lead l + 1)) = n ∧ lead l + 1 = k := by simpa using h
    obtain ⟨rfl, rfl⟩ := e
    have := (canon l 9 hc.1 (by omega) (by
      by_cases h0 : lead l = 0
      · exact .inr h0
      · exact .inl (fun e => hc.2.2.2 ⟨by omega, e⟩))).1
    refine ⟨hf, ?_⟩
    unfold small
    rw [this, List.take_append_drop]
  · cases h
theorem sSmall_inv {most : Nat} {s : St} (h : (sSmall most s).2.bad = false) : s.bad = false ∧ s.l = small (sSmall most s).1 ++ (sSmall most s).2.l ∧ Fits (sSmall most s).1 ∧ (sSmall most s).1 ≤ most := by
  rcases hr : readL s.l with _ | ⟨n, k⟩
  · rw [sSmall_none hr] at h; cases h
  · by_cases hn : n ≤ most
    · rw [sSmall_ok hr hn] at h ⊢
      obtain ⟨h1, h2⟩ := read_inv hr
      exact ⟨h, h2, h1, hn⟩
    · rw [sSmall_much hr hn] at h; cases h
theorem sSingle_inv {s : St} (h : (sSingle s).2.bad = false) : s.bad = false ∧ s.l = (sSingle s).1 :: (sSingle s).2.l := by
  obtain ⟨l, b⟩ := s
  cases l with
  | nil => simp [sSingle, St.fail] at h
  | cons x r => exact ⟨h, rfl⟩
theorem sText_inv {s : St} (h : (sText s).2.bad = false) : s.bad = false ∧ s.l = text (sText s).1 ++ (sText s).2.l := by
  unfold sText at h ⊢
  split at h
  · cases h
  · next hc =>
    rw [if_neg hc]
    obtain ⟨h1, h2, h3, h4⟩ := sSmall_inv h
    refine ⟨h1, ?_⟩
    obtain ⟨p, hp⟩ : ∃ p, p = sSmall 18446744073709551615 s := ⟨_, rfl⟩
    rw [← hp] at h2 hc ⊢
    have hl : (p.2.l.take p.1).length = p.1 := by simp; omega
    unfold text
    simp only []
    rw [hl, List.append_assoc, List.take_append_drop]
    exact h2
end Go.Proofs.Ytfjcaofmcjhdpaa
