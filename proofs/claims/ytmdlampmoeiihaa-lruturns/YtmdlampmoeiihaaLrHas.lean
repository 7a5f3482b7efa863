/-
  The statements' helpers over orders: SameTexts, Great, has, keeps.
-/
import Derived.Test.YtmdlampmoeiihaaLrAdd2
namespace Go.Proofs.Ytmdlampmoeiihaa
open Go.RowKit Go.Shelf Go.Lib Go.Sort
set_option linter.unusedSimpArgs false
set_option linter.unusedVariables false
set_option maxRecDepth 100000

theorem sameTexts_row (w : World) (b off b' off' : Nat) (ks : List ByteArray) (cap cap' : Nat) (hm : ks.length ≤ 9223372036854775807) (hc : ∀ j (hj : j < ks.length), w.cell? ⟨b, off + j, none⟩ = some (.string ks[j])) (hc' : ∀ j (hj : j < ks.length), w.cell? ⟨b', off' + j, none⟩ = some (.string ks[j])) :
    Calls Try.prog 16 #[.slice (some ⟨b, off, none⟩) ks.length cap, .slice (some ⟨b', off', none⟩) ks.length cap'] w fun e w' => e = .returned (.bool true) ∧ ∃ n, w' = w.drewN n := by
  have HC : Hid (∀ j (hj : j < ks.length), w.cell? ⟨b, off + j, none⟩ = some (.string ks[j])) := hc
  have HD : Hid (∀ j (hj : j < ks.length), w.cell? ⟨b', off' + j, none⟩ = some (.string ks[j])) := hc'
  clear hc hc'
  go_enter Try.func16, Try.ntmps16
  go_wp2
  go_loopw [5] (fun i wr => ∃ k n : Nat, k ≤ ks.length ∧ i = .int .i64 k ∧ wr = w.drewN n) (fun i _ => ks.length - (intOf i).toNat)
  case atStart => exact ⟨0, 0, Nat.zero_le _, rfl, rfl⟩
  case round =>
    obtain ⟨k, n, hk, rfl, rfl⟩ := hrel
    by_cases hlt : k < ks.length
    · have hlt2 : (k : Int) < (ks.length : Int) := by omega
      obtain ⟨p, hpe⟩ : ∃ p, p = ks[k] := ⟨_, rfl⟩
      have hL := HC.out k hlt
      have hM := HD.out k hlt
      rw [← hpe] at hL hM
      clear hpe
      go_wp2
      go_big_quiet (fail)
      go_wp2
      go_roundw
      case rel => exact ⟨k + 1, _, by omega, by go_num, rfl⟩
      case measure => simp [intOf]; omega
    · go_wp2
      go_ret
      exact ⟨rfl, n, rfl⟩
theorem sameTexts_none (w : World) (ao ao' : Option Addr) (cap cap' : Nat) :
    Calls Try.prog 16 #[.slice ao 0 cap, .slice ao' 0 cap'] w fun e w' => e = .returned (.bool true) ∧ ∃ n, w' = w.drewN n := by
  go_enter Try.func16, Try.ntmps16
  go_wp2
  refine wp_loop_rounds 1 ?_
  rw [rounds_succ]
  go_wp2
  go_ret
  exact ⟨rfl, 0, rfl⟩
theorem sameTexts_tl (w : World) (ao ao' : Option Addr) (ks : List ByteArray) (cap cap' : Nat) (h : Tl w ao ks cap) (h' : Tl w ao' ks cap') :
    Calls Try.prog 16 #[.slice ao ks.length cap, .slice ao' ks.length cap'] w fun e w' => e = .returned (.bool true) ∧ Below w.heap.size w w' := by
  have key : Calls Try.prog 16 #[.slice ao ks.length cap, .slice ao' ks.length cap'] w fun e w' => e = .returned (.bool true) ∧ ∃ n, w' = w.drewN n := by
    rcases h.at_ with rfl | ⟨b, off, rfl, hb, hc⟩
    · exact sameTexts_none w ao ao' cap cap'
    · rcases h'.at_ with rfl | ⟨b', off', rfl, hb', hc'⟩
      · exact sameTexts_none w _ _ cap cap'
      · exact sameTexts_row w b off b' off' ks cap cap' (Nat.le_trans h.hl h.hc) hc hc'
  refine key.mono ?_
  rintro e w' ⟨rfl, n, rfl⟩
  exact ⟨rfl, below_drewN w n⟩
structure IsB (e : Ending) : Prop where
  is : ∃ b : Bool, e = .returned (.bool b)
/-- what Great answers -/
structure GrE (T K : List ByteArray) (e : Ending) : Prop where
  is : ∃ b : Bool, e = .returned (.bool b) ∧ (b = false → T.length ≤ 300 ∧ K.length ≤ 300)
theorem great_long (T K : List ByteArray) (aT aK : Option Addr) (cT cK : Nat) (w : World) (hT : T.length ≤ 9223372036854775807) (hK : K.length ≤ 9223372036854775807) (h : 300 < T.length ∨ 300 < K.length) :
    Calls Try.prog 19 #[.agg #[.slice aT T.length cT, .slice aK K.length cK]] w fun e w' => e = .returned (.bool true) ∧ Below w.heap.size w w' := by
  by_cases h1 : 300 < T.length
  · have g1 : decide ((300 : Int) < (T.length : Int)) = true := by simp; omega
    clear h h1
    go_enter Try.func19, Try.ntmps19
    go_wp2
    go_ret
    exact ⟨rfl, (Below.refl _ _).alloc (Nat.le_refl _) _⟩
  · have g1 : decide ((300 : Int) < (T.length : Int)) = false := by simp; omega
    have g2 : (300 : Int) < (K.length : Int) := by omega
    clear h h1
    go_enter Try.func19, Try.ntmps19
    go_wp2
    go_ret
    exact ⟨rfl, (Below.refl _ _).alloc (Nat.le_refl _) _⟩
set_option maxHeartbeats 1000000 in
theorem great_short (T K : List ByteArray) (aT aK : Option Addr) (cT cK : Nat) (w : World) (hTl : Tl w aT T cT) (hKl : Tl w aK K cK) (hT : T.length ≤ 300) (hK : K.length ≤ 300) :
    Calls Try.prog 19 #[.agg #[.slice aT T.length cT, .slice aK K.length cK]] w fun e w' => IsB e ∧ Below w.heap.size w w' := by
  have g1 : decide ((300 : Int) < (T.length : Int)) = false := by simp; omega
  have g2 : ¬ (300 : Int) < (K.length : Int) := by omega
  obtain ⟨W, hW⟩ : ∃ W, W = w.alloc (Obj.cells #[.slice aT T.length cT, .slice aK K.length cK] 24) := ⟨_, rfl⟩
  have HB : Hid (Below w.heap.size w W) := by rw [hW]; exact (Below.refl _ _).alloc (Nat.le_refl _) _
  have HOB : Hid (OB W w.heap.size (.slice aT T.length cT) (.slice aK K.length cK)) := by rw [hW]; exact OB.made _ _ _
  have HTW := Hid.mk2 (hTl.below HB.out)
  have HKW := Hid.mk2 (hKl.below HB.out)
  have HTL := Hid.mk2 hT
  have HKL := Hid.mk2 hK
  clear hTl hKl
  go_enter Try.func19, Try.ntmps19
  go_upto_region 1 with (fail)
  rw [← hW]
  clear hW
  obtain ⟨c0, c1, f0, f1, l0⟩ := HOB.out
  go_wp2
  go_loop [3, 4] (fun n i => ∃ (k : Nat) (m : Int), k ≤ T.length ∧ i = .int .i64 k ∧ n = .int .i64 m ∧ 0 ≤ m ∧ m ≤ k * 100000) (fun _ i => T.length - (intOf i).toNat)
  case atStart => exact ⟨0, 0, Nat.zero_le _, rfl, rfl, by omega, by omega⟩
  case round =>
    obtain ⟨k, m, hk, rfl, rfl, hm0, hm1⟩ := hrel
    by_cases hlt : k < T.length
    · have hlt2 : (k : Int) < (T.length : Int) := by omega
      obtain ⟨b, off, rfl, hb, hc⟩ := at_of HTW.out hlt
      obtain ⟨s, hs⟩ : ∃ s, s = T[k] := ⟨_, rfl⟩
      rw [← hs] at hc
      clear hs
      have hm2 : m ≤ 100000000 := by omega
      go_wp2
      go_round
      case rel => exact ⟨k + 1, m + min (s.size : Int) 100000, by omega, by go_num, rfl, by omega, by omega⟩
      case measure => simp [intOf]; omega
    · have hlt2 : ¬ (k : Int) < (T.length : Int) := by omega
      have hm3 : m ≤ 100000000 := by omega
      clear hm1
      go_wp2
      go_loop [3, 5] (fun n i => ∃ (k' : Nat) (m' : Int), k' ≤ K.length ∧ i = .int .i64 k' ∧ n = .int .i64 m' ∧ 0 ≤ m' ∧ m' ≤ 100000000 + k' * 100000) (fun _ i => K.length - (intOf i).toNat)
      case atStart => exact ⟨0, m, Nat.zero_le _, rfl, rfl, by omega, by omega⟩
      case round =>
        obtain ⟨k', m', hk', rfl, rfl, hm0', hm1'⟩ := hrel
        by_cases hlt' : k' < K.length
        · have hlt2' : (k' : Int) < (K.length : Int) := by omega
          obtain ⟨b, off, rfl, hb, hc⟩ := at_of HKW.out hlt'
          obtain ⟨s, hs⟩ : ∃ s, s = K[k'] := ⟨_, rfl⟩
          rw [← hs] at hc
          clear hs
          have hm2' : m' ≤ 1000000000 := by omega
          go_wp2
          go_round
          case rel => exact ⟨k' + 1, m' + min (s.size : Int) 100000, by omega, by go_num, rfl, by omega, by omega⟩
          case measure => simp [intOf]; omega
        · have hlt2' : ¬ (k' : Int) < (K.length : Int) := by omega
          go_wp2
          go_ret
          exact ⟨⟨⟨_, rfl⟩⟩, HB.out⟩
/-- which orders the statements go through -/
theorem great_any (T K : List ByteArray) (aT aK : Option Addr) (cT cK : Nat) (w : World) (hTl : Tl w aT T cT) (hKl : Tl w aK K cK) :
    Calls Try.prog 19 #[.agg #[.slice aT T.length cT, .slice aK K.length cK]] w fun e w' => GrE T K e ∧ Below w.heap.size w w' := by
  by_cases h : 300 < T.length ∨ 300 < K.length
  · refine (great_long T K aT aK cT cK w (Nat.le_trans hTl.hl hTl.hc) (Nat.le_trans hKl.hl hKl.hc) h).mono ?_
    rintro e w' ⟨rfl, hb⟩
    exact ⟨⟨⟨true, rfl, by intro e; cases e⟩⟩, hb⟩
  · refine (great_short T K aT aK cT cK w hTl hKl (by omega) (by omega)).mono ?_
    rintro e w' ⟨⟨b, rfl⟩, hb⟩
    exact ⟨⟨⟨b, rfl, fun _ => ⟨by omega, by omega⟩⟩⟩, hb⟩
theorem count_take_succ (l : List ByteArray) (k : Nat) (h : k < l.length) (key : ByteArray) : (l.take (k + 1)).count key = (l.take k).count key + if l[k] = key then 1 else 0 := by
  rw [List.take_succ_eq_append_getElem h, List.count_append]
  congr 1
  by_cases e : l[k] = key <;> simp [e, List.count_cons]
set_option maxHeartbeats 1000000 in
theorem has_any (T K : List ByteArray) (aT aK : Option Addr) (cT cK : Nat) (key : ByteArray) (w : World) (hTl : Tl w aT T cT) (hKl : Tl w aK K cK) (hT : T.length ≤ 400) (hK : K.length ≤ 400) :
    Calls Try.prog 28 #[.agg #[.slice aT T.length cT, .slice aK K.length cK], .string key] w fun e w' => e = .returned (.int .i64 (cnt T K key : Nat)) ∧ w' = w.alloc (Obj.cells #[.slice aT T.length cT, .slice aK K.length cK] 24) := by
  obtain ⟨W, hW⟩ : ∃ W, W = w.alloc (Obj.cells #[.slice aT T.length cT, .slice aK K.length cK] 24) := ⟨_, rfl⟩
  have HB : Hid (Below w.heap.size w W) := by rw [hW]; exact (Below.refl _ _).alloc (Nat.le_refl _) _
  have HOB : Hid (OB W w.heap.size (.slice aT T.length cT) (.slice aK K.length cK)) := by rw [hW]; exact OB.made _ _ _
  have HTW := Hid.mk2 (hTl.below HB.out)
  have HKW := Hid.mk2 (hKl.below HB.out)
  rw [← hW]
  clear hTl hKl
  go_enter Try.func28, Try.ntmps28
  go_upto_region 1 with (fail)
  rw [← hW]
  clear hW
  obtain ⟨c0, c1, f0, f1, l0⟩ := HOB.out
  go_wp2
  go_loop [5, 6] (fun n i => ∃ (k m : Nat), k ≤ T.length ∧ i = .int .i64 k ∧ n = .int .i64 m ∧ Hid (m = (T.take k).count key) ∧ m ≤ k) (fun _ i => T.length - (intOf i).toNat)
  case atStart => exact ⟨0, 0, Nat.zero_le _, rfl, rfl, by show 0 = _; simp, by omega⟩
  case round =>
    obtain ⟨k, m, hk, rfl, rfl, HM, hm1⟩ := hrel
    by_cases hlt : k < T.length
    · have hlt2 : (k : Int) < (T.length : Int) := by omega
      obtain ⟨b, off, rfl, hb, hc⟩ := at_of HTW.out hlt
      have hcs := count_take_succ T k hlt key
      obtain ⟨s, hs⟩ : ∃ s, s = T[k] := ⟨_, rfl⟩
      rw [← hs] at hc hcs
      have HCS := Hid.mk2 hcs
      clear hs hcs
      have hmI : (m : Int) ≤ 400 := by omega
      by_cases e : s = key
      · have e2 := ba_eq e
        have HE := Hid.mk2 e
        clear e
        go_wp2
        go_round
        case rel => exact ⟨k + 1, m + 1, by omega, by go_num, by go_num, by show _ = _; rw [HCS.out, if_pos HE.out, HM.out], by omega⟩
        case measure => simp [intOf]; omega
      · have e2 := ba_ne e
        have HE := Hid.mk2 e
        clear e
        go_wp2
        go_round
        case rel => exact ⟨k + 1, m, by omega, by go_num, rfl, by show _ = _; rw [HCS.out, if_neg HE.out, HM.out, Nat.add_zero], by omega⟩
        case measure => simp [intOf]; omega
    · have hlt2 : ¬ (k : Int) < (T.length : Int) := by omega
      have HM2 : Hid (m = T.count key) := by show m = _; rw [HM.out, List.take_of_length_le (by omega)]
      have hm4 : m ≤ 400 := by omega
      clear HM hm1 hlt hk
      go_wp2
      go_loop [5, 7] (fun n i => ∃ (k' m' : Nat), k' ≤ K.length ∧ i = .int .i64 k' ∧ n = .int .i64 m' ∧ Hid (m' = m + (K.take k').count key) ∧ m' ≤ 400 + k') (fun _ i => K.length - (intOf i).toNat)
      case atStart => exact ⟨0, m, Nat.zero_le _, rfl, rfl, by show m = _; simp, by omega⟩
      case round =>
        obtain ⟨k', m', hk', rfl, rfl, HM, hm1⟩ := hrel
        by_cases hlt' : k' < K.length
        · have hlt2' : (k' : Int) < (K.length : Int) := by omega
          obtain ⟨b, off, rfl, hb, hc⟩ := at_of HKW.out hlt'
          have hcs := count_take_succ K k' hlt' key
          obtain ⟨s, hs⟩ : ∃ s, s = K[k'] := ⟨_, rfl⟩
          rw [← hs] at hc hcs
          have HCS := Hid.mk2 hcs
          clear hs hcs
          have hmI : (m' : Int) ≤ 1000 := by omega
          by_cases e : s = key
          · have e2 := ba_eq e
            have HE := Hid.mk2 e
            clear e
            go_wp2
            go_round
            case rel => exact ⟨k' + 1, m' + 1, by omega, by go_num, by go_num, by show _ = _; rw [HCS.out, if_pos HE.out, HM.out]; omega, by omega⟩
            case measure => simp [intOf]; omega
          · have e2 := ba_ne e
            have HE := Hid.mk2 e
            clear e
            go_wp2
            go_round
            case rel => exact ⟨k' + 1, m', by omega, by go_num, rfl, by show _ = _; rw [HCS.out, if_neg HE.out, HM.out, Nat.add_zero], by omega⟩
            case measure => simp [intOf]; omega
        · have hlt2' : ¬ (k' : Int) < (K.length : Int) := by omega
          have HR : Hid (m' = cnt T K key) := by
            show m' = _
            rw [HM.out, HM2.out, List.take_of_length_le (by omega)]
            unfold cnt
            rw [List.count_append]
            omega
          clear HM HM2
          go_wp2
          go_ret
          exact ⟨by rw [← HR.out]; rfl, rfl⟩
end Go.Proofs.Ytmdlampmoeiihaa
