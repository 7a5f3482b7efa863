/-
  Contract of the document's Heavy: it only reads.
-/
import Derived.Test.YtlhlleokehkolaaAlive
namespace Go.Proofs.Ytlhlleokehkolaa
open Go.RowKit
set_option linter.unusedSimpArgs false
set_option linter.unusedVariables false
set_option maxRecDepth 100000

/-- some bool comes back -/
structure SomeBool (e : Ending) : Prop where
  ex : ∃ h : Bool, e = .returned (.bool h)
theorem min3 (m a b c : Nat) : ∃ m' : Nat, ((m : Int) + (if (100000 : Int) < (a : Int) then 100000 else (a : Int)) + (if (100000 : Int) < (b : Int) then 100000 else (b : Int)) + (if (100000 : Int) < (c : Int) then 100000 else (c : Int))) = (m' : Int) ∧ m' ≤ m + 300000 := by
  refine ⟨((m : Int) + (if (100000 : Int) < (a : Int) then 100000 else (a : Int)) + (if (100000 : Int) < (b : Int) then 100000 else (b : Int)) + (if (100000 : Int) < (c : Int) then 100000 else (c : Int))).toNat, ?_, ?_⟩ <;> (split <;> split <;> split <;> omega)

set_option maxHeartbeats 2000000 in
theorem heavy_row (w : World) (b off : Nat) (cs : List Chg) (cap : Nat) (hm : cs.length ≤ maxLen) (hc : ∀ i (hi : i < cs.length) j (hj : j < 11), w.cell? ⟨b, off + i * 11 + j, none⟩ = some (cs[i].cells[j]'(by rw [cells_len]; exact hj))) :
    Calls Try.prog 26 #[.slice (some ⟨b, off, none⟩) cs.length cap] w fun e w' => SomeBool e ∧ ∃ n, w' = w.drewN n := by
  unfold maxLen at hm
  have HC : Hid (∀ i (hi : i < cs.length) j (hj : j < 11), w.cell? ⟨b, off + i * 11 + j, none⟩ = some (cs[i].cells[j]'(by rw [cells_len]; exact hj))) := hc
  clear hc
  go_enter Try.func26, Try.ntmps26
  go_wp2
  go_loopw [3, 4] (fun n i wr => ∃ k m q : Nat, k ≤ cs.length ∧ k ≤ 10000 ∧ m ≤ 300000 * k ∧ i = .int .i64 k ∧ n = .int .i64 m ∧ wr = w.drewN q) (fun _ i _ => cs.length - (intOf i).toNat)
  case atStart => exact ⟨0, 0, 0, by omega, by omega, by omega, rfl, rfl, rfl⟩
  case round =>
    obtain ⟨k, m, q, hk, hk1, hmb, rfl, rfl, rfl⟩ := hrel
    by_cases hlt : k < cs.length
    · have hlt2 : (k : Int) < (cs.length : Int) := by omega
      by_cases h1 : k < 10000
      · have h12 : (k : Int) < 10000 := by omega
        obtain ⟨c, hce⟩ : ∃ c, c = cs[k] := ⟨_, rfl⟩
        have hL := lies_of HC.out k hlt
        rw [← hce] at hL
        clear hce
        obtain ⟨q0, q1, q2, q3, q4, q5, q6, q7, q8, q9, q10⟩ := hL
        clear q0 q1 q4 q5 q6 q8 q9 q10
        obtain ⟨m', em, hm'⟩ := min3 m c.item.key.size c.item.value.size c.key.size
        have EM : Hid (((m : Int) + (if (100000 : Int) < (c.item.key.size : Int) then 100000 else (c.item.key.size : Int)) + (if (100000 : Int) < (c.item.value.size : Int) then 100000 else (c.item.value.size : Int)) + (if (100000 : Int) < (c.key.size : Int) then 100000 else (c.key.size : Int))) = (m' : Int)) := em
        clear em
        go_wp2
        go_quiet (fail)
        go_wp2
        go_roundw
        case rel => exact ⟨k + 1, m', _, by omega, by omega, by omega, by go_num, by rw [EM.out], rfl⟩
        case measure => simp [intOf]; omega
      · have h12 : decide ((k : Int) < 10000) = false := by simp; omega
        by_cases g1 : (5000 : Int) < (cs.length : Int)
        · go_wp2
          all_goals
            go_ret
            exact ⟨⟨_, rfl⟩, q, rfl⟩
        · have g2 : decide ((5000 : Int) < (cs.length : Int)) = false := by simp; omega
          go_wp2
          all_goals
            go_ret
            exact ⟨⟨_, rfl⟩, q, rfl⟩
    · have hlt2 : decide ((k : Int) < (cs.length : Int)) = false := by simp; omega
      by_cases g1 : (5000 : Int) < (cs.length : Int)
      · go_wp2
        all_goals
          go_ret
          exact ⟨⟨_, rfl⟩, q, rfl⟩
      · have g2 : decide ((5000 : Int) < (cs.length : Int)) = false := by simp; omega
        go_wp2
        all_goals
          go_ret
          exact ⟨⟨_, rfl⟩, q, rfl⟩
theorem heavy_none (w : World) (ao : Option Addr) (cap : Nat) :
    Calls Try.prog 26 #[.slice ao 0 cap] w fun e w' => SomeBool e ∧ ∃ n, w' = w.drewN n := by
  go_enter Try.func26, Try.ntmps26
  go_wp2
  refine wp_loop_rounds 1 ?_
  rw [rounds_succ]
  go_wp2
  go_ret
  exact ⟨⟨_, rfl⟩, 0, rfl⟩
theorem heavy_any (w : World) (B : Nat) (ao : Option Addr) (cs : List Chg) (cap : Nat) (hm : cs.length ≤ maxLen) (h : ChAt w B ao cs) :
    Calls Try.prog 26 #[.slice ao cs.length cap] w fun e w' => SomeBool e ∧ ∃ n, w' = w.drewN n := by
  rcases h with rfl | ⟨b, off, rfl, hb, hc⟩
  · exact heavy_none w ao cap
  · exact heavy_row w b off cs cap hm hc
end Go.Proofs.Ytlhlleokehkolaa
