/-
  The statements' own comparison of lists of bytes: a list is the same as itself.
-/
import Derived.Test.YtgfhjkphdmkmoacBgMem
import Derived.Test.YtgfhjkphdmkmoacQuiet
namespace Go.Proofs.Ytgfhjkphdmkmoac
open Go.RowKit
set_option linter.unusedSimpArgs false
set_option linter.unusedVariables false
set_option maxRecDepth 100000

theorem lsame_row (w : World) (B B' b off b' off' : Nat) (ls : List (List UInt8)) (cap cap' : Nat) (hm : ls.length ≤ 9223372036854775807) (hc : ∀ i (hi : i < ls.length), ∃ v, w.cell? ⟨b, off + i, none⟩ = some v ∧ DtAt w B v ls[i]) (hc' : ∀ i (hi : i < ls.length), ∃ v, w.cell? ⟨b', off' + i, none⟩ = some v ∧ DtAt w B' v ls[i]) :
    Calls Try.prog 19 #[.slice (some ⟨b, off, none⟩) ls.length cap, .slice (some ⟨b', off', none⟩) ls.length cap'] w fun e w' => e = .returned (.bool true) ∧ ∃ n, w' = w.drewN n := by
  have HC : Hid (∀ i (hi : i < ls.length), ∃ v, w.cell? ⟨b, off + i, none⟩ = some v ∧ DtAt w B v ls[i]) := hc
  have HD : Hid (∀ i (hi : i < ls.length), ∃ v, w.cell? ⟨b', off' + i, none⟩ = some v ∧ DtAt w B' v ls[i]) := hc'
  clear hc hc'
  go_enter Try.func19, Try.ntmps19
  go_wp2
  go_loopw [5] (fun i wr => ∃ k n : Nat, k ≤ ls.length ∧ i = .int .i64 k ∧ wr = w.drewN n) (fun i _ => ls.length - (intOf i).toNat)
  case atStart => exact ⟨0, 0, Nat.zero_le _, rfl, rfl⟩
  case round =>
    obtain ⟨k, n, hk, rfl, rfl⟩ := hrel
    by_cases hlt : k < ls.length
    · have hlt2 : (k : Int) < (ls.length : Int) := by omega
      obtain ⟨p, hpe⟩ : ∃ p, p = ls[k] := ⟨_, rfl⟩
      have hL := HC.out k hlt
      have hM := HD.out k hlt
      rw [← hpe] at hL hM
      clear hpe
      obtain ⟨v, q1, a1, c1, rfl, -, -, -, hbs⟩ := hL
      obtain ⟨u, r1, a2, c2, rfl, -, -, -, hbs'⟩ := hM
      have s1 : ∀ N, (convert 22 9 (.slice a1 p.length c1)).run Try.prog (w.drewN N) = .ok (.string ⟨p.toArray⟩) (w.drewN N) := fun N => conv_bytes (w.drewN N) B a1 p c1 (hbs.below (below_drewN2 (Below.refl _ _) N) (Nat.le_refl _))
      have s2 : ∀ N, (convert 22 9 (.slice a2 p.length c2)).run Try.prog (w.drewN N) = .ok (.string ⟨p.toArray⟩) (w.drewN N) := fun N => conv_bytes (w.drewN N) B' a2 p c2 (hbs'.below (below_drewN2 (Below.refl _ _) N) (Nat.le_refl _))
      clear hbs hbs'
      go_wp2
      go_quiet (fail)
      go_wp2
      go_roundw
      case rel => exact ⟨k + 1, _, by omega, by go_num, rfl⟩
      case measure => simp [intOf]; omega
    · go_wp2
      go_ret
      exact ⟨rfl, n, rfl⟩
theorem lsame_none (w : World) (ao ao' : Option Addr) (cap cap' : Nat) :
    Calls Try.prog 19 #[.slice ao 0 cap, .slice ao' 0 cap'] w fun e w' => e = .returned (.bool true) ∧ ∃ n, w' = w.drewN n := by
  go_enter Try.func19, Try.ntmps19
  go_wp2
  refine wp_loop_rounds 1 ?_
  rw [rounds_succ]
  go_wp2
  go_ret
  exact ⟨rfl, 0, rfl⟩
theorem lsame_q (w : World) (ao ao' : Option Addr) (ls : List (List UInt8)) (cap cap' : Nat) (h : Ll w ao ls cap) (h' : Ll w ao' ls cap') :
    Calls Try.prog 19 #[.slice ao ls.length cap, .slice ao' ls.length cap'] w fun e w' => e = .returned (.bool true) ∧ ∃ n, w' = w.drewN n := by
  rcases h.at_ with rfl | ⟨b, off, rfl, hb, hc⟩
  · exact lsame_none w ao ao' cap cap'
  · rcases h'.at_ with rfl | ⟨b', off', rfl, hb', hc'⟩
    · exact lsame_none w _ _ cap cap'
    · exact lsame_row w _ _ b off b' off' ls cap cap' (Nat.le_trans h.hl h.hc) hc hc'
/-- a list is the same as itself, wherever it lies -/
theorem lsame_sl (w : World) (ao ao' : Option Addr) (ls : List (List UInt8)) (cap cap' : Nat) (h : Ll w ao ls cap) (h' : Ll w ao' ls cap') :
    Calls Try.prog 19 #[.slice ao ls.length cap, .slice ao' ls.length cap'] w fun e w' => e = .returned (.bool true) ∧ Below w.heap.size w w' := by
  refine (lsame_q w ao ao' ls cap cap' h h').mono ?_
  rintro e w' ⟨rfl, n, rfl⟩
  exact ⟨rfl, below_drewN2 (Below.refl _ _) n⟩
end Go.Proofs.Ytgfhjkphdmkmoac
