/-
  slices.Equal of numbers, and of texts.
-/
import Derived.Test.YtpnmokmadbapoaaOrLa
namespace Go.Proofs.Ytpnmokmadbapoaa
open Go.RowKit
set_option linter.unusedSimpArgs false
set_option linter.unusedVariables false
set_option maxRecDepth 100000

theorem lists_ne {α : Type} [DecidableEq α] {L M : List α} {k : Nat} (h1 : k < L.length) (h2 : k < M.length) (h : ¬ L[k] = M[k]) : decide (L = M) = false := by
  rw [decide_eq_false_iff_not]
  intro e
  subst e
  exact h rfl
theorem lists_eq {α : Type} [DecidableEq α] {L M : List α} (hl : L.length = M.length) (h : ∀ j (h1 : j < L.length) (h2 : j < M.length), L[j] = M[j]) : decide (L = M) = true := by
  rw [decide_eq_true_iff]
  exact List.ext_getElem hl h
theorem lists_len {α : Type} [DecidableEq α] {L M : List α} (hl : ¬ L.length = M.length) : decide (L = M) = false := by
  rw [decide_eq_false_iff_not]
  intro e
  exact hl (by rw [e])
set_option maxHeartbeats 1000000 in
theorem eqI_any (L M : List Int) (ao bo : Option Addr) (ca cb m m' : Nat) (hm : m = L.length) (hm' : m' = M.length) (w : World) (h : GRd EI w ao L ca) (h' : GRd EI w bo M cb) :
    Calls Try.prog 91 #[.slice ao m ca, .slice bo m' cb] w fun e w' => e = .returned (.bool (decide (L = M))) ∧ ∃ n, w' = w.drewN n := by
  subst hm hm'
  have hlen := h.len
  have HR := Hid.mk2 h
  have HR' := Hid.mk2 h'
  have HN := Hid.mk2 (fun k => @lists_ne Int _ L M k)
  have HE := Hid.mk2 (@lists_eq Int _ L M)
  have HL := Hid.mk2 (@lists_len Int _ L M)
  obtain ⟨R, hR⟩ : ∃ R, R = decide (L = M) := ⟨_, rfl⟩
  rw [← hR] at HN HE HL ⊢
  clear hR h h'
  by_cases hl : L.length = M.length
  · obtain ⟨m, hm⟩ : ∃ m, m = L.length := ⟨_, rfl⟩
    have hm' : m = M.length := by omega
    rw [← hm] at hlen
    rw [← hm, ← hm']
    have hl' : ((m : Int) != (m : Int)) = false := by simp
    have HM := Hid.mk2 hm
    have HM' := Hid.mk2 hm'
    clear hm hm' hl HL
    go_enter Try.func91, Try.ntmps91
    go_wp2
    go_loopw [5, 13] (fun _ i wr => ∃ k n : Nat, k ≤ m ∧ i = .int .i64 k ∧ wr = w.drewN n ∧ Hid (∀ j (h1 : j < L.length) (h2 : j < M.length), j < k → L[j] = M[j])) (fun _ i _ => m - (intOf i).toNat)
    case atStart => exact ⟨0, 0, Nat.zero_le _, rfl, rfl, fun _ _ _ h => absurd h (by omega)⟩
    case round =>
      obtain ⟨k, n, hk, rfl, rfl, HA⟩ := hrel
      by_cases hkl : k < m
      · have hkl2 : (k : Int) < (m : Int) := by omega
        have hk1 : k < L.length := by rw [← HM.out]; exact hkl
        have hk2 : k < M.length := by rw [← HM'.out]; exact hkl
        have hne : L ≠ [] := by intro e; rw [e] at hk1; simp at hk1
        have hne' : M ≠ [] := by intro e; rw [e] at hk2; simp at hk2
        obtain ⟨b, off, rfl, hbl, hcs⟩ := HR.out.int hne
        obtain ⟨b', off', rfl, hbl', hcs'⟩ := HR'.out.int hne'
        have r0 := hcs k hk1
        have r1 := hcs' k hk2
        have HNK := Hid.mk2 (HN.out k hk1 hk2)
        have HAK : Hid (L[k] = M[k] → ∀ j (h1 : j < L.length) (h2 : j < M.length), j < k + 1 → L[j] = M[j]) := by
          intro e j h1 h2 hjk
          by_cases ej : j = k
          · subst ej; exact e
          · exact HA.out j h1 h2 (by omega)
        obtain ⟨p, hpe⟩ : ∃ p, p = L[k] := ⟨_, rfl⟩
        obtain ⟨q, hqe⟩ : ∃ q, q = M[k] := ⟨_, rfl⟩
        rw [← hpe] at r0
        rw [← hqe] at r1
        rw [← hpe, ← hqe] at HNK HAK
        clear hcs hcs' hne hne' hpe hqe HA HN hk1 hk2
        by_cases hp : p = q
        · have HA2 := Hid.mk2 (HAK.out hp)
          have hp1 : (p != q) = false := by subst hp; simp
          clear HAK HNK hp
          go_wp2
          go_quiet (fail)
          go_wp2
          go_roundw
          case rel => exact ⟨k + 1, _, by omega, by go_num, by first | rfl | exact World.drewN_drewN _ _ _, HA2⟩
          case measure => simp [intOf]; omega
        · have e := HNK.out hp
          subst e
          have hp1 : (p != q) = true := by simpa using hp
          clear HAK HNK hp HE
          go_wp2
          go_quiet (fail)
          go_wp2
          go_ret
          exact ⟨rfl, _, by first | rfl | exact World.drewN_drewN _ _ _⟩
      · have e := HE.out (by rw [← HM.out, ← HM'.out]) (fun j h1 h2 => HA.out j h1 h2 (by have := HM.out; omega))
        subst e
        have hkl2 : ¬ (k : Int) < (m : Int) := by omega
        clear HE HN HA
        go_wp2
        go_ret
        exact ⟨rfl, n, rfl⟩
  · have e := HL.out hl
    subst e
    have hl' : ((L.length : Int) != (M.length : Int)) = true := by
      rw [bne_iff_ne]
      omega
    clear HL HE HN hl
    go_enter Try.func91, Try.ntmps91
    go_wp2
    go_ret
    exact ⟨rfl, 0, rfl⟩
set_option maxHeartbeats 1000000 in
theorem eqS_any (L M : List ByteArray) (ao bo : Option Addr) (ca cb m m' : Nat) (hm : m = L.length) (hm' : m' = M.length) (w : World) (h : GRd ES w ao L ca) (h' : GRd ES w bo M cb) :
    Calls Try.prog 107 #[.slice ao m ca, .slice bo m' cb] w fun e w' => e = .returned (.bool (decide (L = M))) ∧ ∃ n, w' = w.drewN n := by
  subst hm hm'
  have hlen := h.len
  have HR := Hid.mk2 h
  have HR' := Hid.mk2 h'
  have HN := Hid.mk2 (fun k => @lists_ne ByteArray _ L M k)
  have HE := Hid.mk2 (@lists_eq ByteArray _ L M)
  have HL := Hid.mk2 (@lists_len ByteArray _ L M)
  obtain ⟨R, hR⟩ : ∃ R, R = decide (L = M) := ⟨_, rfl⟩
  rw [← hR] at HN HE HL ⊢
  clear hR h h'
  by_cases hl : L.length = M.length
  · obtain ⟨m, hm⟩ : ∃ m, m = L.length := ⟨_, rfl⟩
    have hm' : m = M.length := by omega
    rw [← hm] at hlen
    rw [← hm, ← hm']
    have hl' : ((m : Int) != (m : Int)) = false := by simp
    have HM := Hid.mk2 hm
    have HM' := Hid.mk2 hm'
    clear hm hm' hl HL
    go_enter Try.func107, Try.ntmps107
    go_wp2
    go_loopw [5, 13] (fun _ i wr => ∃ k n : Nat, k ≤ m ∧ i = .int .i64 k ∧ wr = w.drewN n ∧ Hid (∀ j (h1 : j < L.length) (h2 : j < M.length), j < k → L[j] = M[j])) (fun _ i _ => m - (intOf i).toNat)
    case atStart => exact ⟨0, 0, Nat.zero_le _, rfl, rfl, fun _ _ _ h => absurd h (by omega)⟩
    case round =>
      obtain ⟨k, n, hk, rfl, rfl, HA⟩ := hrel
      by_cases hkl : k < m
      · have hkl2 : (k : Int) < (m : Int) := by omega
        have hk1 : k < L.length := by rw [← HM.out]; exact hkl
        have hk2 : k < M.length := by rw [← HM'.out]; exact hkl
        have hne : L ≠ [] := by intro e; rw [e] at hk1; simp at hk1
        have hne' : M ≠ [] := by intro e; rw [e] at hk2; simp at hk2
        obtain ⟨b, off, rfl, hbl, hcs⟩ := HR.out.str hne
        obtain ⟨b', off', rfl, hbl', hcs'⟩ := HR'.out.str hne'
        have r0 := hcs k hk1
        have r1 := hcs' k hk2
        have HNK := Hid.mk2 (HN.out k hk1 hk2)
        have HAK : Hid (L[k] = M[k] → ∀ j (h1 : j < L.length) (h2 : j < M.length), j < k + 1 → L[j] = M[j]) := by
          intro e j h1 h2 hjk
          by_cases ej : j = k
          · subst ej; exact e
          · exact HA.out j h1 h2 (by omega)
        obtain ⟨p, hpe⟩ : ∃ p, p = L[k] := ⟨_, rfl⟩
        obtain ⟨q, hqe⟩ : ∃ q, q = M[k] := ⟨_, rfl⟩
        rw [← hpe] at r0
        rw [← hqe] at r1
        rw [← hpe, ← hqe] at HNK HAK
        clear hcs hcs' hne hne' hpe hqe HA HN hk1 hk2
        by_cases hp : p = q
        · have HA2 := Hid.mk2 (HAK.out hp)
          have hp1 : (!(p.toList == q.toList)) = false := by rw [ba_eq hp]; rfl
          clear HAK HNK hp
          go_wp2
          go_quiet (fail)
          go_wp2
          go_roundw
          case rel => exact ⟨k + 1, _, by omega, by go_num, by first | rfl | exact World.drewN_drewN _ _ _, HA2⟩
          case measure => simp [intOf]; omega
        · have e := HNK.out hp
          subst e
          have hp1 : (!(p.toList == q.toList)) = true := by rw [ba_ne hp]; rfl
          clear HAK HNK hp HE
          go_wp2
          go_quiet (fail)
          go_wp2
          go_ret
          exact ⟨rfl, _, by first | rfl | exact World.drewN_drewN _ _ _⟩
      · have e := HE.out (by rw [← HM.out, ← HM'.out]) (fun j h1 h2 => HA.out j h1 h2 (by have := HM.out; omega))
        subst e
        have hkl2 : ¬ (k : Int) < (m : Int) := by omega
        clear HE HN HA
        go_wp2
        go_ret
        exact ⟨rfl, n, rfl⟩
  · have e := HL.out hl
    subst e
    have hl' : ((L.length : Int) != (M.length : Int)) = true := by
      rw [bne_iff_ne]
      omega
    clear HL HE HN hl
    go_enter Try.func107, Try.ntmps107
    go_wp2
    go_ret
    exact ⟨rfl, 0, rfl⟩
end Go.Proofs.Ytpnmokmadbapoaa
