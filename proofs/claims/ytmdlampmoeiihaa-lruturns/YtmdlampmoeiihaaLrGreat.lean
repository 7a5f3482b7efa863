/-
  Which orders the statements go through: Great, exactly.
-/
import Derived.Test.YtmdlampmoeiihaaLrHas
namespace Go.Proofs.Ytmdlampmoeiihaa
open Go.RowKit Go.Shelf Go.Lib Go.Sort
set_option linter.unusedSimpArgs false
set_option linter.unusedVariables false
set_option maxRecDepth 100000

def sm (l : List ByteArray) : Nat := (l.map fun k => min k.size 100000).sum
def great (T K : List ByteArray) : Bool := decide (300 < T.length ∨ 300 < K.length ∨ 100000 < sm T + sm K)
theorem sm_succ (l : List ByteArray) (k : Nat) (h : k < l.length) : sm (l.take (k + 1)) = sm (l.take k) + min l[k].size 100000 := by
  unfold sm
  rw [List.take_succ_eq_append_getElem h, List.map_append, List.sum_append]
  simp
theorem great_len {T K : List ByteArray} (h : great T K = false) : T.length ≤ 300 ∧ K.length ≤ 300 := by
  simp [great] at h
  omega
set_option maxHeartbeats 1000000 in
theorem great_sum (T K : List ByteArray) (aT aK : Option Addr) (cT cK : Nat) (w : World) (hTl : Tl w aT T cT) (hKl : Tl w aK K cK) (hT : T.length ≤ 300) (hK : K.length ≤ 300) :
    Calls Try.prog 19 #[.agg #[.slice aT T.length cT, .slice aK K.length cK]] w fun e w' => e = .returned (.bool (great T K)) ∧ Below w.heap.size w w' := by
  have g1 : decide ((300 : Int) < (T.length : Int)) = false := by simp; omega
  have g2 : ¬ (300 : Int) < (K.length : Int) := by omega
  obtain ⟨W, hW⟩ : ∃ W, W = w.alloc (Obj.cells #[.slice aT T.length cT, .slice aK K.length cK] 24) := ⟨_, rfl⟩
  have HB : Hid (Below w.heap.size w W) := by rw [hW]; exact (Below.refl _ _).alloc (Nat.le_refl _) _
  have HOB : Hid (OB W w.heap.size (.slice aT T.length cT) (.slice aK K.length cK)) := by rw [hW]; exact OB.made _ _ _
  have HTW := Hid.mk2 (hTl.below HB.out)
  have HKW := Hid.mk2 (hKl.below HB.out)
  have HTL := Hid.mk2 hT
  have HKL := Hid.mk2 hK
  have HG : Hid (great T K = decide (100000 < sm T + sm K)) := by
    show _ = _
    unfold great
    rw [decide_eq_decide]
    omega
  clear hTl hKl
  go_enter Try.func19, Try.ntmps19
  go_upto_region 1 with (fail)
  rw [← hW]
  clear hW
  obtain ⟨c0, c1, f0, f1, l0⟩ := HOB.out
  go_wp2
  go_loop [3, 4] (fun n i => ∃ (k m : Nat), k ≤ T.length ∧ i = .int .i64 k ∧ n = .int .i64 m ∧ m ≤ k * 100000 ∧ Hid (m = sm (T.take k))) (fun _ i => T.length - (intOf i).toNat)
  case atStart => exact ⟨0, 0, Nat.zero_le _, rfl, rfl, by omega, rfl⟩
  case round =>
    obtain ⟨k, m, hk, rfl, rfl, hm1, HM⟩ := hrel
    by_cases hlt : k < T.length
    · have hlt2 : (k : Int) < (T.length : Int) := by omega
      obtain ⟨b, off, rfl, hb, hc⟩ := at_of HTW.out hlt
      have hss := sm_succ T k hlt
      obtain ⟨s, hs⟩ : ∃ s, s = T[k] := ⟨_, rfl⟩
      rw [← hs] at hc hss
      have HSS := Hid.mk2 hss
      clear hs hss
      have hm2 : (m : Int) ≤ 100000000 := by omega
      go_wp2
      go_round
      case rel => exact ⟨k + 1, m + min s.size 100000, by omega, by go_num, by congr 1; omega, by omega, by show _ = _; rw [HSS.out, HM.out]⟩
      case measure => simp [intOf]; omega
    · have hlt2 : ¬ (k : Int) < (T.length : Int) := by omega
      have hm3 : m ≤ 100000000 := by omega
      have HM2 : Hid (m = sm T) := by show m = _; rw [HM.out, List.take_of_length_le (by omega)]
      clear hm1 HM
      go_wp2
      go_loop [3, 5] (fun n i => ∃ (k' m' : Nat), k' ≤ K.length ∧ i = .int .i64 k' ∧ n = .int .i64 m' ∧ m' ≤ 100000000 + k' * 100000 ∧ Hid (m' = m + sm (K.take k'))) (fun _ i => K.length - (intOf i).toNat)
      case atStart => exact ⟨0, m, Nat.zero_le _, rfl, rfl, by omega, rfl⟩
      case round =>
        obtain ⟨k', m', hk', rfl, rfl, hm1', HM'⟩ := hrel
        by_cases hlt' : k' < K.length
        · have hlt2' : (k' : Int) < (K.length : Int) := by omega
          obtain ⟨b, off, rfl, hb, hc⟩ := at_of HKW.out hlt'
          have hss := sm_succ K k' hlt'
          obtain ⟨s, hs⟩ : ∃ s, s = K[k'] := ⟨_, rfl⟩
          rw [← hs] at hc hss
          have HSS := Hid.mk2 hss
          clear hs hss
          have hm2' : (m' : Int) ≤ 1000000000 := by omega
          go_wp2
          go_round
          case rel => exact ⟨k' + 1, m' + min s.size 100000, by omega, by go_num, by congr 1; omega, by omega, by show _ = _; rw [HSS.out, HM'.out]; omega⟩
          case measure => simp [intOf]; omega
        · have hlt2' : ¬ (k' : Int) < (K.length : Int) := by omega
          have HR : Hid (great T K = decide (100000 < m')) := by show _ = _; rw [HG.out, HM'.out, List.take_of_length_le (by omega), HM2.out]
          clear HM' HM2
          go_wp2
          go_ret
          refine ⟨?_, HB.out⟩
          rw [HR.out]
          show Ending.returned (.bool _) = _
          congr 2
          rw [decide_eq_decide]
          omega
theorem great_is (T K : List ByteArray) (aT aK : Option Addr) (cT cK : Nat) (w : World) (hTl : Tl w aT T cT) (hKl : Tl w aK K cK) :
    Calls Try.prog 19 #[.agg #[.slice aT T.length cT, .slice aK K.length cK]] w fun e w' => e = .returned (.bool (great T K)) ∧ Below w.heap.size w w' := by
  by_cases h : 300 < T.length ∨ 300 < K.length
  · rw [show great T K = true by unfold great; rw [decide_eq_true_iff]; omega]
    exact great_long T K aT aK cT cK w (Nat.le_trans hTl.hl hTl.hc) (Nat.le_trans hKl.hl hKl.hc) h
  · exact great_sum T K aT aK cT cK w hTl hKl (by omega) (by omega)
end Go.Proofs.Ytmdlampmoeiihaa
