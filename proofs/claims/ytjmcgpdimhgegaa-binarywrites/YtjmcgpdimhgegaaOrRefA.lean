/-
  (shaken)
-/
import Derived.Test.YtjmcgpdimhgegaaOrC
import Derived.LoopTactic
namespace Go.Proofs.Ytjmcgpdimhgegaa
open Go.RowKit
set_option linter.unusedSimpArgs false
set_option linter.unusedVariables false
set_option maxRecDepth 100000

theorem twice_any (l : List ByteArray) (ao : Option Addr) (cap : Nat) (w : World) (h : GRd ES w ao l cap) :
    Calls Try.prog 43 #[.slice ao l.length cap] w fun e w' => e = .returned (.bool (!decide l.Nodup)) ∧ ∃ n, w' = w.drewN n := by
  obtain ⟨B, hB⟩ : ∃ B, B = !decide l.Nodup := ⟨_, rfl⟩
  rw [← hB]
  have HB := Hid.mk2 hB
  have HR := Hid.mk2 h
  have hlen := h.len
  clear hB h
  go_enter Try.func43, Try.ntmps43
  go_wp2
  go_loopw [3] (fun i wr => ∃ k n : Nat, k ≤ l.length ∧ i = .int .i64 k ∧ wr = w.drewN n ∧ Hid (∀ j (hj : j < l.length), j < k → l[j] ∉ l.take j)) (fun i _ => l.length - (intOf i).toNat)
  case atStart => exact ⟨0, 0, Nat.zero_le _, rfl, rfl, fun _ _ h => absurd h (by omega)⟩
  case round =>
    obtain ⟨k, n, hk, rfl, rfl, HA⟩ := hrel
    by_cases hlt : k < l.length
    · have hlt2 : (k : Int) < (l.length : Int) := by omega
      have hne : l ≠ [] := by intro e; rw [e] at hlt; simp at hlt
      obtain ⟨b, off, rfl, hbl, hcs⟩ := HR.out.str hne
      have r0 := hcs k hlt
      obtain ⟨p, hpe⟩ : ∃ p, p = l[k] := ⟨_, rfl⟩
      rw [← hpe] at r0
      have HP := Hid.mk2 hpe
      have HC := Hid.mk2 hcs
      clear hpe hcs hne
      go_wp2
      go_loopw [4] (fun i wr => ∃ j n : Nat, j ≤ k ∧ i = .int .i64 j ∧ wr = w.drewN n ∧ Hid (p ∉ l.take j)) (fun i _ => k - (intOf i).toNat)
      case atStart => exact ⟨0, n, Nat.zero_le _, rfl, rfl, by show _ ∉ _; simp⟩
      case round =>
        obtain ⟨j, n, hj, rfl, rfl, HN⟩ := hrel
        by_cases hjk : j < k
        · have hjl : j < l.length := by omega
          have hj2 : (j : Int) < (l.length : Int) := by omega
          have hj3 : (j : Int) < (k : Int) := by omega
          have r1 := HC.out j hjl
          obtain ⟨q, hqe⟩ : ∃ q, q = l[j] := ⟨_, rfl⟩
          rw [← hqe] at r1
          by_cases hpq : p = q
          · have e1 : B = true := by
              rw [HB.out]
              have : ¬ l.Nodup := by
                intro hn
                refine takes_of_nodup hn k hlt ?_
                rw [← HP.out, hpq, hqe, List.mem_take_iff_getElem]
                exact ⟨j, by omega, rfl⟩
              simp [this]
            have hs := ba_eq hpq
            subst e1
            clear HB HA HN HP HC hqe hpq
            go_wp2
            go_quiet (fail)
            go_wp2
            go_ret
            exact ⟨rfl, _, World.drewN_drewN _ _ _⟩
          · have hs := ba_ne hpq
            have HN2 : Hid (p ∉ l.take (j + 1)) := by
              show p ∉ _
              rw [List.take_add_one, List.getElem?_eq_getElem hjl]
              simp only [Option.toList_some, List.mem_append, List.mem_singleton, not_or]
              exact ⟨HN.out, by rw [← hqe]; exact hpq⟩
            clear HN hqe hpq
            go_wp2
            go_quiet (fail)
            go_wp2
            go_roundw
            case rel => exact ⟨j + 1, _, by omega, by go_num, rfl, HN2⟩
            case measure => simp [intOf]; omega
        · have ej : j = k := by omega
          subst ej
          have HA2 : Hid (∀ i (hi : i < l.length), i < j + 1 → l[i] ∉ l.take i) := by
            intro i hi hik
            by_cases e : i = j
            · subst e
              have := HN.out
              rw [HP.out] at this
              exact this
            · exact HA.out i hi (by omega)
          clear HN HA HC HP
          go_wp2
          go_roundw
          case rel => exact ⟨j + 1, n, by omega, by go_num, rfl, HA2⟩
          case measure => simp [intOf]; omega
    · have ek : k = l.length := by omega
      have e1 : B = false := by
        rw [HB.out]
        have : l.Nodup := nodup_of_takes fun j hj => HA.out j hj (by omega)
        simp [this]
      subst e1
      clear HB HA
      go_wp2
      go_ret
      exact ⟨rfl, n, rfl⟩
end Go.Proofs.Ytjmcgpdimhgegaa
