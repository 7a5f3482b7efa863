/-
  Package lru: many, half, indexOf; what the walk asks of an order in memory.
-/
import Derived.Test.YtmdlampmoeiihaaLrLib3
import Derived.Shelf.SlSortCmp.QuietGrown
namespace Go.Proofs.Ytmdlampmoeiihaa
open Go.RowKit Go.Shelf Go.Lib Go.Sort
set_option linter.unusedSimpArgs false
set_option linter.unusedVariables false
set_option maxRecDepth 100000

theorem ba_beq (a b : ByteArray) : (a.toList == b.toList) = decide (a = b) := by
  obtain ⟨⟨a⟩⟩ := a
  obtain ⟨⟨b⟩⟩ := b
  rw [Bool.eq_iff_iff]
  simp [ByteArray.toList_mk]
theorem ret_int {k : IntKind} {a b : Int} (h : a = b) : Ending.returned (.int k a) = .returned (.int k b) := by rw [h]
theorem ba_eq {a b : ByteArray} (h : a = b) : (a.toList == b.toList) = true := by rw [ba_beq]; simp [h]
theorem ba_ne {a b : ByteArray} (h : a ≠ b) : (a.toList == b.toList) = false := by rw [ba_beq]; simp [h]
/-- an order's value -/
def ov (aT : Option Addr) (n cT : Nat) (aK : Option Addr) (m cK : Nat) : Value := .agg #[.slice aT n cT, .slice aK m cK]
theorem many_any (aT aK : Option Addr) (n cT m cK : Nat) (w : World) (hn : n ≤ 1000) (hm : m ≤ 1000) :
    Calls Try.prog 37 #[.agg #[.slice aT n cT, .slice aK m cK]] w fun e w' => e = .returned (.int .i64 ((n : Int) + (m : Int))) ∧ w' = w.alloc (.cells #[.slice aT n cT, .slice aK m cK] 24) := by
  have b1 : (n : Int) ≤ 1000 := by omega
  have b2 : (m : Int) ≤ 1000 := by omega
  go_enter Try.func37, Try.ntmps37
  go_wp2
  go_ret
  exact ⟨rfl, rfl⟩
theorem half_any (n : Nat) (w : World) (hn : n ≤ 2000) :
    Calls Try.prog 39 #[.int .i64 n] w fun e w' => e = .returned (.int .i64 (((n + 1) / 2 : Nat) : Int)) ∧ w' = w := by
  have b1 : (n : Int) ≤ 2000 := by omega
  go_enter Try.func39, Try.ntmps39
  go_wp2
  go_ret
  exact ⟨ret_int (by omega), rfl⟩
/-- where a key stands; -1: nowhere -/
structure Ix (ks : List ByteArray) (key : ByteArray) (i : Int) : Prop where
  is : key ∈ ks → ∃ j : Nat, i = j ∧ j < ks.length ∧ ks.eraseIdx j = ks.erase key
  no : key ∉ ks → i = -1
theorem indexOf_any (ao : Option Addr) (ks : List ByteArray) (cap : Nat) (key : ByteArray) (w : World) (h : Tl w ao ks cap) :
    Calls Try.prog 36 #[.slice ao ks.length cap, .string key] w fun e w' => ∃ i : Int, e = .returned (.int .i64 i) ∧ Ix ks key i ∧ w' = w := by
  have hm : ks.length ≤ 9223372036854775807 := Nat.le_trans h.hl h.hc
  have HT := Hid.mk2 h.at_
  clear h
  go_enter Try.func36, Try.ntmps36
  go_wp2
  go_loop [9] (fun i => ∃ k : Nat, k ≤ ks.length ∧ i = .int .i64 k ∧ Hid (∀ j (hj : j < ks.length), j < k → ks[j] ≠ key)) (fun i => ks.length - (intOf i).toNat)
  case atStart => exact ⟨0, Nat.zero_le _, rfl, fun j hj h => by omega⟩
  case round =>
    obtain ⟨k, hk, rfl, HA⟩ := hrel
    by_cases hlt : k < ks.length
    · have hlt2 : (k : Int) < (ks.length : Int) := by omega
      rcases HT.out with h | ⟨b, off, rfl, hb, hc⟩
      · rw [h] at hlt; simp at hlt
      have hx := hc k hlt
      obtain ⟨s, hs⟩ : ∃ s, s = ks[k] := ⟨_, rfl⟩
      have HS := Hid.mk2 hs
      rw [← hs] at hx
      clear hs hc
      by_cases e : s = key
      · have e2 := ba_eq e
        go_wp2
        go_ret
        refine ⟨k, rfl, ⟨fun _ => ⟨k, rfl, hlt, ?_⟩, fun hno => absurd ?_ hno⟩, rfl⟩
        · have hk1 : ks[k] = key := HS.out.symm.trans e
          have hidx : ks.idxOf key = k := by
            have h1 : ks.idxOf key ≤ k := by
              refine Classical.byContradiction fun hc => ?_
              have := List.not_of_lt_findIdx (p := (· == key)) (xs := ks) (i := k) (by unfold List.idxOf at hc; omega)
              simp [hk1] at this
            have h2 : ks.idxOf key < ks.length := by omega
            refine Nat.le_antisymm h1 (Nat.le_of_not_lt fun hc => ?_)
            exact HA.out _ h2 hc (List.getElem_idxOf h2)
          rw [List.erase_eq_eraseIdx_of_idxOf hidx]
        · rw [← e, HS.out]
          exact List.getElem_mem hlt
      · have e2 := ba_ne e
        go_wp2
        go_round
        case rel => exact ⟨k + 1, by omega, by go_num, fun j hj hjk => by
          by_cases ej : j = k
          · subst ej; rw [← HS.out]; exact e
          · exact HA.out j hj (by omega)⟩
        case measure => simp [intOf]; omega
    · have hlt2 : ¬ (k : Int) < (ks.length : Int) := by omega
      have hno : key ∉ ks := fun hm2 => by
        obtain ⟨j, hj, e⟩ := List.getElem_of_mem hm2
        exact HA.out j hj (by omega) e
      have HN := Hid.mk2 hno
      clear hno
      go_wp2
      go_ret
      exact ⟨-1, rfl, ⟨fun h => absurd h HN.out, fun _ => rfl⟩, rfl⟩
end Go.Proofs.Ytmdlampmoeiihaa
