/-
  Contract of the document's Heavy, of writes: it only reads; where it says no, there are 5,000 at most.
-/
import Derived.Test.YtgfhjkphdmkmoabDkPts
namespace Go.Proofs.Ytgfhjkphdmkmoab
open Go.RowKit
set_option linter.unusedSimpArgs false
set_option linter.unusedVariables false
set_option maxRecDepth 100000

structure HeavyB (e : Ending) (L : Nat) : Prop where
  ex : ∃ h : Bool, e = .returned (.bool h) ∧ (h = false → L ≤ 5000)
theorem min1 (m a : Nat) : ∃ m' : Nat, ((m : Int) + (if (100000 : Int) < (a : Int) then 100000 else (a : Int))) = (m' : Int) ∧ m' ≤ m + 100000 := by
  refine ⟨((m : Int) + (if (100000 : Int) < (a : Int) then 100000 else (a : Int))).toNat, ?_, ?_⟩ <;> (split <;> omega)

set_option maxHeartbeats 2000000 in
theorem heavyP_row (w : World) (B : Nat) (b off : Nat) (ps : List Pt) (cap : Nat) (hm : ps.length ≤ 9223372036854775807) (hc : ∀ i (hi : i < ps.length), PtLies w B b (off + i * 2) ps[i]) :
    Calls Try.prog 32 #[.slice (some ⟨b, off, none⟩) ps.length cap] w fun e w' => HeavyB e ps.length ∧ w = w' := by
  have HC : Hid (∀ i (hi : i < ps.length), PtLies w B b (off + i * 2) ps[i]) := hc
  clear hc
  go_enter Try.func32, Try.ntmps32
  go_wp2
  go_loop [3, 4] (fun n i => ∃ k m : Nat, k ≤ ps.length ∧ k ≤ 10000 ∧ m ≤ 100000 * k ∧ i = .int .i64 k ∧ n = .int .i64 m) (fun _ i => ps.length - (intOf i).toNat)
  case atStart => exact ⟨0, 0, by omega, by omega, by omega, rfl, rfl⟩
  case round =>
    obtain ⟨k, m, hk, hk1, hmb, rfl, rfl⟩ := hrel
    by_cases hlt : k < ps.length
    · have hlt2 : (k : Int) < (ps.length : Int) := by omega
      by_cases h1 : k < 10000
      · have h12 : (k : Int) < 10000 := by omega
        obtain ⟨p, hpe⟩ : ∃ p, p = ps[k] := ⟨_, rfl⟩
        have hL := HC.out k hlt
        rw [← hpe] at hL
        clear hpe
        obtain ⟨q0, v, q1, a1, c1, rfl, -, -, -, -⟩ := hL
        obtain ⟨m', em, hm'⟩ := min1 m p.data.length
        have EM : Hid (((m : Int) + (if (100000 : Int) < (p.data.length : Int) then 100000 else (p.data.length : Int))) = (m' : Int)) := em
        clear em q0
        go_wp2
        go_round
        case rel => exact ⟨k + 1, m', by omega, by omega, by omega, by go_num, by rw [EM.out]⟩
        case measure => simp [intOf]; omega
      · have h12 : decide ((k : Int) < 10000) = false := by simp; omega
        by_cases g1 : (5000 : Int) < (ps.length : Int)
        · go_wp2
          all_goals
            go_ret
            exact ⟨⟨_, rfl, by intro h; simp at h⟩, rfl⟩
        · have g2 : decide ((5000 : Int) < (ps.length : Int)) = false := by simp; omega
          go_wp2
          all_goals
            go_ret
            exact ⟨⟨_, rfl, fun _ => by omega⟩, rfl⟩
    · have hlt2 : decide ((k : Int) < (ps.length : Int)) = false := by simp; omega
      by_cases g1 : (5000 : Int) < (ps.length : Int)
      · go_wp2
        all_goals
          go_ret
          exact ⟨⟨_, rfl, by intro h; simp at h⟩, rfl⟩
      · have g2 : decide ((5000 : Int) < (ps.length : Int)) = false := by simp; omega
        go_wp2
        all_goals
          go_ret
          exact ⟨⟨_, rfl, fun _ => by omega⟩, rfl⟩
theorem heavyP_none (w : World) (ao : Option Addr) (cap : Nat) :
    Calls Try.prog 32 #[.slice ao 0 cap] w fun e w' => HeavyB e 0 ∧ w = w' := by
  go_enter Try.func32, Try.ntmps32
  go_wp2
  refine wp_loop_rounds 1 ?_
  rw [rounds_succ]
  go_wp2
  go_ret
  exact ⟨⟨_, rfl, fun _ => by omega⟩, rfl⟩
theorem heavyP_any (w : World) (B : Nat) (ao : Option Addr) (ps : List Pt) (cap : Nat) (hm : ps.length ≤ 9223372036854775807) (h : PtAt w B ao ps) :
    Calls Try.prog 32 #[.slice ao ps.length cap] w fun e w' => HeavyB e ps.length ∧ w = w' := by
  rcases h with rfl | ⟨b, off, rfl, hb, hc⟩
  · exact heavyP_none w ao cap
  · exact heavyP_row w B b off ps cap hm hc
end Go.Proofs.Ytgfhjkphdmkmoab
