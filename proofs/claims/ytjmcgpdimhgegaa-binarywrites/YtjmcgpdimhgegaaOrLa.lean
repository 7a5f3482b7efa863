/-
  (shaken)
-/
import Derived.Test.YtjmcgpdimhgegaaOrC
namespace Go.Proofs.Ytjmcgpdimhgegaa
open Go.RowKit
set_option linter.unusedSimpArgs false
set_option linter.unusedVariables false
set_option maxRecDepth 100000

instance : LawfulBEq ByteArray where
  eq_of_beq {a b} h := by
    have h' : a.data == b.data := h
    cases a; cases b
    simpa using h'
  rfl {a} := by
    show (a.data == a.data) = true
    simp
/-- where a text stands first, or -1 -/
def ixS (L : List ByteArray) (x : ByteArray) : Int := if x ∈ L then (L.idxOf x : Nat) else -1
theorem ixS_hit {L : List ByteArray} {x : ByteArray} {k : Nat} (hk : k < L.length) (h : L[k] = x) (ha : ∀ j (hj : j < L.length), j < k → ¬ L[j] = x) : ixS L x = (k : Int) := by
  have hm : x ∈ L := by rw [← h]; exact List.getElem_mem hk
  unfold ixS
  rw [if_pos hm]
  have h1 : L.idxOf x < L.length := List.idxOf_lt_length_of_mem hm
  have h2 : L[L.idxOf x] = x := List.getElem_idxOf h1
  have h3 : ¬ L.idxOf x < k := fun hl => ha _ h1 hl h2
  have h4 : ¬ k < L.idxOf x := fun hl => by
    have := List.not_of_lt_findIdx (p := fun y => y == x) (xs := L) (i := k) hl
    simp [h] at this
  omega
theorem ixS_miss {L : List ByteArray} {x : ByteArray} (ha : ∀ j (hj : j < L.length), ¬ L[j] = x) : ixS L x = -1 := by
  unfold ixS
  rw [if_neg]
  intro hm
  obtain ⟨j, hj, e⟩ := List.getElem_of_mem hm
  exact ha j hj e
theorem ixS_mem (L : List ByteArray) (x : ByteArray) : decide (0 ≤ ixS L x) = decide (x ∈ L) := by
  unfold ixS
  by_cases h : x ∈ L
  · rw [if_pos h]; simp [h]
  · rw [if_neg h]; simp [h]
theorem indexS_any (L : List ByteArray) (ao : Option Addr) (cap m : Nat) (hm : m = L.length) (x : ByteArray) (w : World) (h : GRd ES w ao L cap) :
    Calls Try.prog 46 #[.slice ao m cap, .string x] w fun e w' => e = .returned (.int .i64 (ixS L x)) ∧ w' = w := by
  subst hm
  have hlen := h.len
  have HR := Hid.mk2 h
  have HH := Hid.mk2 (fun k hk => @ixS_hit L x k hk)
  have HM := Hid.mk2 (@ixS_miss L x)
  obtain ⟨R, hR⟩ : ∃ R, R = ixS L x := ⟨_, rfl⟩
  rw [← hR] at HH HM ⊢
  clear hR h
  go_enter Try.func46, Try.ntmps46
  go_wp2
  go_loopw [5, 8] (fun _ i wr => ∃ k : Nat, k ≤ L.length ∧ i = .int .i64 k ∧ wr = w ∧ Hid (∀ j (hj : j < L.length), j < k → ¬ L[j] = x)) (fun _ i _ => L.length - (intOf i).toNat)
  case atStart => exact ⟨0, Nat.zero_le _, rfl, rfl, fun _ _ h => absurd h (by omega)⟩
  case round =>
    obtain ⟨k, hk, rfl, rfl, HA⟩ := hrel
    by_cases hkl : k < L.length
    · have hkl2 : (k : Int) < (L.length : Int) := by omega
      have hne : L ≠ [] := by intro e; rw [e] at hkl; simp at hkl
      obtain ⟨b, off, rfl, hbl, hcs⟩ := HR.out.str hne
      have r0 := hcs k hkl
      obtain ⟨p, hpe⟩ : ∃ p, p = L[k] := ⟨_, rfl⟩
      rw [← hpe] at r0
      by_cases hp : p = x
      · have e := HH.out k hkl (by rw [← hpe]; exact hp) HA.out
        subst e
        have hp1 : (x.toList == p.toList) = true := ba_eq hp.symm
        clear HH HM HA hcs hne hpe hp
        go_wp2
        go_ret
        exact ⟨rfl, rfl⟩
      · have hp1 : (x.toList == p.toList) = false := ba_ne (fun e => hp e.symm)
        have HA2 : Hid (∀ j (hj : j < L.length), j < k + 1 → ¬ L[j] = x) := by
          intro j hj hjk
          by_cases e : j = k
          · subst e; rw [← hpe]; exact hp
          · exact HA.out j hj (by omega)
        clear HA hcs hne hpe hp
        go_wp2
        go_roundw
        case rel => exact ⟨k + 1, by omega, by go_num, by first | rfl | trivial, HA2⟩
        case measure => simp [intOf]; omega
    · have e := HM.out (fun j hj => HA.out j hj (by omega))
      subst e
      have hkl2 : ¬ (k : Int) < (L.length : Int) := by omega
      clear HH HM HA
      go_wp2
      go_ret
      exact ⟨rfl, rfl⟩
theorem containsS_any (L : List ByteArray) (ao : Option Addr) (cap m : Nat) (hm : m = L.length) (x : ByteArray) (w : World) (h : GRd ES w ao L cap) :
    Calls Try.prog 45 #[.slice ao m cap, .string x] w fun e w' => e = .returned (.bool (decide (x ∈ L))) ∧ w' = w := by
  subst hm
  have HI := Hid.mk2 (indexS_any L ao cap L.length rfl x w h)
  rw [← ixS_mem]
  obtain ⟨R, hR⟩ : ∃ R, R = ixS L x := ⟨_, rfl⟩
  rw [← hR] at HI ⊢
  clear hR h
  go_enter Try.func45, Try.ntmps45
  go_wp2_with (go_at_call 46; refine HI.out.mono ?_; rintro e w1 ⟨rfl, rfl⟩)
  go_ret
  exact ⟨rfl, rfl⟩
end Go.Proofs.Ytjmcgpdimhgegaa
