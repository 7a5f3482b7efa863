/-
  (shaken)
-/
import Derived.Test.YtfjcaofmcjhdpaaCut
namespace Go.Proofs.Ytfjcaofmcjhdpaa
open Go.RowKit
set_option linter.unusedSimpArgs false
set_option linter.unusedVariables false
set_option maxRecDepth 100000

theorem on_byte (m : Nat) : (m : Int) % 128 + 128 = ((UInt8.ofNat (m % 128 + 128)).toNat : Int) := by
  have : (UInt8.ofNat (m % 128 + 128)).toNat = m % 128 + 128 := by simp; omega
  rw [this]; omega

theorem refSmall_any (n : Nat) (w : World) (hn : Fits n) :
    Calls Try.prog 35 #[.int .u64 n] w fun e w' => ∃ v', e = .returned v' ∧ Own w' w.heap.size v' (small n) ∧ Below w.heap.size w w' := by
  have hsl := small_len n
  go_enter Try.func35, Try.ntmps35
  go_wp2
  go_loopw [0, 3] (fun i u wr => ∃ (m : Nat) (p : List UInt8), Fits m ∧ i = .int .u64 m ∧ p ++ small m = small n ∧ Own wr w.heap.size u p ∧ Grew w wr (.slice none 0 0) u) (fun i _ _ => (intOf i).toNat)
  case atStart => exact ⟨n, [], hn, rfl, rfl, Own.nil _ _, Grew.refl _ _⟩
  case round =>
    obtain ⟨m, p, hm, rfl, hp, ho, hg⟩ := hrel
    have hpl : p.length + (small m).length ≤ 10 := by rw [← List.length_append, hp]; exact hsl
    have hbr : w.heap.size ≤ wr.heap.size := hg.grown.size
    have hlp : p.length + 1 ≤ 140737488355328 := by omega
    have HP : Hid (p ++ small m = small n) := hp
    clear hp hsl hpl hn
    by_cases hlt : 128 ≤ m
    · have HM : Hid (Fits m) := hm
      have hMi : (m : Int) ≤ 18446744073709551615 := by have : m < 18446744073709551616 := hm
                                                        omega
      clear hm
      go_wp2_with (at_builtin; refine app_one (w0 := wr) rfl (.tmp 6) (.tmp 11) rfl w.heap.size _ _ ho rfl _ _ (on_byte m) rfl rfl hlp hbr ?_; intro v1 w1 ho1 hg1)
      have hM : m < 18446744073709551616 := HM.out
      go_roundw
      case rel => exact ⟨m / 128, p ++ [UInt8.ofNat (m % 128 + 128)], by unfold Fits; omega, by go_num, by rw [← HP.out, small_ge hlt hM]; simp, ho1, hg.trans hg1⟩
      case measure => simp [intOf]; omega
    · have h0 : (m : Int) < 128 := by omega
      go_wp2_with (at_builtin; refine app_one (w0 := wr) rfl (.tmp 15) (.tmp 18) rfl w.heap.size _ _ ho rfl _ _ (last_byte m (by omega)) rfl rfl hlp hbr ?_; intro v1 w1 ho1 hg1)
      go_ret
      exact ⟨_, rfl, by rw [← HP.out, small_lt (by omega)]; exact ho1, (hg.trans hg1).below_nil⟩

theorem refText_any (s : ByteArray) (w : World) (hs : s.size ≤ 100000000) :
    Calls Try.prog 36 #[.string s] w fun e w' => ∃ v', e = .returned v' ∧ Own w' w.heap.size v' (text s.data.toList) ∧ Below w.heap.size w w' := by
  have hsl := small_len s.size
  go_enter Try.func36, Try.ntmps36
  go_wp2_with (first
    | (go_at_call 35; refine (refSmall_any s.size w (fits_size s hs)).mono ?_; rintro e w1 ⟨v1, rfl, ho1, hb1⟩)
    | (at_builtin; refine app_text rfl (.tmp 6) (.tmp 7) rfl w.heap.size _ _ ho1 rfl s rfl (by omega) hb1.size ?_; intro v2 w2 ho2 hg2))
  go_ret
  exact ⟨_, rfl, by simpa [text] using ho2, hb1.trans (hg2.below ho1 hb1.size)⟩

theorem val_split (l : List UInt8) : ∀ j, j ≤ l.length → val l = val (l.take j) + 128 ^ j * val (l.drop j) := by
  induction l with
  | nil => intro j hj; simp at hj; subst hj; simp [val]
  | cons x r ih =>
    intro j hj
    cases j with
    | zero => simp [val]
    | succ j =>
      have := ih j (by simpa using hj)
      simp only [val, List.take_succ_cons, List.drop_succ_cons, this, Nat.pow_succ]
      rw [Nat.mul_add, Nat.add_assoc]
      congr 2
      rw [← Nat.mul_assoc, Nat.mul_comm 128]
theorem val_drop_le (l : List UInt8) (j : Nat) (h : j ≤ l.length) : val (l.drop j) ≤ val l := by
  have h1 := val_split l j h
  have h2 : 1 ≤ 128 ^ j := Nat.pow_pos (by decide)
  have h3 : 1 * val (l.drop j) ≤ 128 ^ j * val (l.drop j) := Nat.mul_le_mul_right _ h2
  omega
theorem val_drop_step (l : List UInt8) (j : Nat) (h : j < l.length) : val (l.drop j) = l[j].toNat % 128 + 128 * val (l.drop (j + 1)) := by
  rw [List.drop_eq_getElem_cons h, val]

set_option maxHeartbeats 1000000 in
theorem refRead_row (w : World) (b off : Nat) (l : List UInt8) (cap : Nat) (hl0 : 0 < l.length) (hm : l.length ≤ maxLen) (hc : ∀ j (hj : j < l.length), w.cell? ⟨b, off + j, none⟩ = some (bcell l[j])) :
    Calls Try.prog 47 #[.slice (some ⟨b, off, none⟩) l.length cap] w fun e w' => e = .returned (.tuple #[.int .u64 (readN l), .int .i64 (readK l), .int .i64 (readE l)]) ∧ w = w' := by
  unfold maxLen at hm
  have HC : Hid (∀ j (hj : j < l.length), w.cell? ⟨b, off + j, none⟩ = some (bcell l[j])) := hc
  clear hc
  go_enter Try.func47, Try.ntmps47
  go_wp2
  go_loop [5] (fun i => ∃ k : Nat, Led l k (val (l.take k)) ∧ i = .int .i64 k) (fun i => 10 - (intOf i).toNat)
  case atStart => exact ⟨0, Led.start l, rfl⟩
  case round =>
    obtain ⟨k, hled, rfl⟩ := hrel
    have hk10 : k ≤ 10 := hled.1
    have hkl : k ≤ l.length := hled.2.1
    have HL : Hid (Led l k (val (l.take k))) := hled
    clear hled
    by_cases h1 : k < l.length
    · have i1 : (k : Int) < (l.length : Int) := by omega
      have j1 : decide ((l.length : Int) ≤ (k : Int)) = false := by simp; omega
      by_cases h2 : k < 10
      · have i2 : (k : Int) < 10 := by omega
        have j2 : decide ((10 : Int) ≤ (k : Int)) = false := by simp; omega
        have hx : w.cell? ⟨b, off + k, none⟩ = some (.int .u8 (l[k].toNat : Int)) := HC.out k h1
        obtain ⟨x, hxe⟩ : ∃ x : Nat, x = l[k].toNat := ⟨_, rfl⟩
        rw [← hxe] at hx
        have hx2 : x < 256 := by rw [hxe]; exact UInt8.toNat_lt _
        have HX : Hid (x = l[k].toNat) := hxe
        clear hxe
        by_cases h3 : 128 ≤ x
        · have i3 : (128 : Int) ≤ (x : Int) := by omega
          go_wp2
          go_round
          case rel => exact ⟨k + 1, by rw [val_take_succ h1]; exact HL.out.step h2 h1 (by rw [← HX.out]; omega), by go_num⟩
          case measure => simp [intOf]; omega
        · have i3 : ¬ (128 : Int) ≤ (x : Int) := by omega
          have j3 : decide ((128 : Int) ≤ (x : Int)) = false := by simp; omega
          have hlead : ∀ j (h : j < l.length), j < k → 128 ≤ l[j].toNat := HL.out.2.2.1
          have HLD : Hid (lead l = k) := lead_eq l k h1 hlead (by rw [← HX.out]; omega)
          clear hlead
          by_cases h4 : k = 9 ∧ 1 < x
          · obtain ⟨h9, h91⟩ := h4
            have HE : Hid (readL l = none) := by
              show readL l = none
              unfold readL
              rw [HLD.out, if_neg]
              rintro ⟨_, _, h3, _⟩
              subst h9
              exact h3 ⟨rfl, by simp [h1]; rw [← HX.out]; omega⟩
            have e9 : ((k : Int) == 9) = true := by simp; omega
            have hx9 : w.cell? ⟨b, off + 9, none⟩ = some (.int .u8 (x : Int)) := by rw [← h9]; exact hx
            have i9 : (1 : Int) < (x : Int) := by omega
            have l9 : (9 : Int) < (l.length : Int) := by omega
            have H9 : Hid (k = 9) := h9
            clear h9
            go_wp2
            all_goals
              go_ret3
              exact ⟨ret_read_none HE.out, rfl⟩
          · by_cases h5 : 0 < k ∧ x = 0
            · obtain ⟨h50, h51⟩ := h5
              have HE : Hid (readL l = none) := HL.out.zero h2 h1 h50 (by rw [← HX.out]; exact h51)
              have e5 : decide ((0 : Int) < (k : Int)) = true := by simp; omega
              have e6 : ((x : Int) == 0) = true := by simp; omega
              subst h51
              by_cases h9 : k = 9
              · have e9 : ((k : Int) == 9) = true := by simp; omega
                have hx9 : w.cell? ⟨b, off + 9, none⟩ = some (.int .u8 ((0 : Nat) : Int)) := by rw [← h9]; exact hx
                have l9 : (9 : Int) < (l.length : Int) := by omega
                have H9 : Hid (k = 9) := h9
                clear h9
                go_wp2
                all_goals
                  go_ret3
                  exact ⟨ret_read_none HE.out, rfl⟩
              · have e9 : ((k : Int) == 9) = false := by simp; omega
                go_wp2
                all_goals
                  go_ret3
                  exact ⟨ret_read_none HE.out, rfl⟩
            · have hv : val (l.take (k + 1)) < 18446744073709551616 := val_bound h1 h2 (by
                  rintro ⟨rfl, h⟩
                  exact h4 ⟨rfl, by rw [HX.out]; simpa [h1] using h⟩) (by rw [← HX.out]; omega)
              have HE : Hid (readL l = some (val (l.take (k + 1)), k + 1)) := by
                show readL l = _
                unfold readL
                rw [HLD.out, if_pos]
                refine ⟨h1, h2, ?_, ?_⟩
                · rintro ⟨rfl, h⟩
                  exact h4 ⟨rfl, by rw [HX.out]; simpa [h1] using h⟩
                · rintro ⟨h0, h⟩
                  exact h5 ⟨h0, by rw [HX.out]; simpa [h1] using h⟩
              have HV : Hid (val (l.take (k + 1)) < 18446744073709551616) := hv
              clear hv
              have hcase : (k = 9 ∧ ¬ 1 < x ∧ ¬ x = 0) ∨ (¬ k = 9 ∧ 0 < k ∧ ¬ x = 0) ∨ k = 0 := by omega
              clear h4 h5
              rcases hcase with ⟨h9, h91, hx0⟩ | ⟨h9, hk0, hx0⟩ | hk0
              · have e9 : ((k : Int) == 9) = true := by simp; omega
                have hx9 : w.cell? ⟨b, off + 9, none⟩ = some (.int .u8 (x : Int)) := by rw [← h9]; exact hx
                have i9 : decide ((1 : Int) < (x : Int)) = false := by simp; omega
                have l9 : (9 : Int) < (l.length : Int) := by omega
                have e5 : 0 < k := by omega
                have nl : ¬ l.length ≤ k := by omega
                have e6 : ((x : Int) == 0) = false := by simp; omega
                have H9 : Hid (k = 9) := h9
                clear h9 hx0
                go_wp2
                go_loop [6, 7] (fun n i => ∃ j : Nat, j ≤ k + 1 ∧ i = .int .i64 ((j : Int) - 1) ∧ n = .int .u64 (val ((l.take (k + 1)).drop j))) (fun _ i => (intOf i + 1).toNat)
                case atStart => exact ⟨k + 1, Nat.le_refl _, by go_num, by simp [val]⟩
                case round =>
                  obtain ⟨j, hj, rfl, rfl⟩ := hrel
                  cases j with
                  | zero =>
                    go_wp2
                    go_ret3
                    exact ⟨ret_read_some HE.out (by simp) (by simp), rfl⟩
                  | succ j =>
                    have hjl : j < l.length := by omega
                    have hy : w.cell? ⟨b, off + j, none⟩ = some (.int .u8 (l[j].toNat : Int)) := HC.out j hjl
                    have hst := val_drop_step (l.take (k + 1)) j (by simp; omega)
                    have hle := val_drop_le (l.take (k + 1)) j (by simp; omega)
                    rw [List.getElem_take] at hst
                    obtain ⟨y, hye⟩ : ∃ y : Nat, y = l[j].toNat := ⟨_, rfl⟩
                    obtain ⟨v, hve⟩ : ∃ v : Nat, v = val ((l.take (k + 1)).drop (j + 1)) := ⟨_, rfl⟩
                    rw [← hye] at hy hst
                    rw [← hve] at hst ⊢
                    have hy2 : y < 256 := by rw [hye]; exact UInt8.toNat_lt _
                    have hb1 : (v : Int) * 128 ≤ 18446744073709551615 := by have := HV.out; omega
                    have hb2 : (v : Int) * 128 + (y : Int) % 128 ≤ 18446744073709551615 := by have := HV.out; omega
                    have HST : Hid (val ((l.take (k + 1)).drop j) = y % 128 + 128 * v) := hst
                    clear hst hle hye hve
                    go_wp2
                    go_round
                    case rel => exact ⟨j, by omega, by go_num, by rw [HST.out]; go_num⟩
                    case measure => first | (simp [intOf]; done) | (simp [intOf]; omega)
              · have e9 : ((k : Int) == 9) = false := by simp; omega
                have nl : ¬ l.length ≤ k := by omega
                have e6 : ((x : Int) == 0) = false := by simp; omega
                clear hx0
                go_wp2
                go_loop [6, 7] (fun n i => ∃ j : Nat, j ≤ k + 1 ∧ i = .int .i64 ((j : Int) - 1) ∧ n = .int .u64 (val ((l.take (k + 1)).drop j))) (fun _ i => (intOf i + 1).toNat)
                case atStart => exact ⟨k + 1, Nat.le_refl _, by go_num, by simp [val]⟩
                case round =>
                  obtain ⟨j, hj, rfl, rfl⟩ := hrel
                  cases j with
                  | zero =>
                    go_wp2
                    go_ret3
                    exact ⟨ret_read_some HE.out (by simp) (by simp), rfl⟩
                  | succ j =>
                    have hjl : j < l.length := by omega
                    have hy : w.cell? ⟨b, off + j, none⟩ = some (.int .u8 (l[j].toNat : Int)) := HC.out j hjl
                    have hst := val_drop_step (l.take (k + 1)) j (by simp; omega)
                    have hle := val_drop_le (l.take (k + 1)) j (by simp; omega)
                    rw [List.getElem_take] at hst
                    obtain ⟨y, hye⟩ : ∃ y : Nat, y = l[j].toNat := ⟨_, rfl⟩
                    obtain ⟨v, hve⟩ : ∃ v : Nat, v = val ((l.take (k + 1)).drop (j + 1)) := ⟨_, rfl⟩
                    rw [← hye] at hy hst
                    rw [← hve] at hst ⊢
                    have hy2 : y < 256 := by rw [hye]; exact UInt8.toNat_lt _
                    have hb1 : (v : Int) * 128 ≤ 18446744073709551615 := by have := HV.out; omega
                    have hb2 : (v : Int) * 128 + (y : Int) % 128 ≤ 18446744073709551615 := by have := HV.out; omega
                    have HST : Hid (val ((l.take (k + 1)).drop j) = y % 128 + 128 * v) := hst
                    clear hst hle hye hve
                    go_wp2
                    go_round
                    case rel => exact ⟨j, by omega, by go_num, by rw [HST.out]; go_num⟩
                    case measure => first | (simp [intOf]; done) | (simp [intOf]; omega)
              · have e9 : ((k : Int) == 9) = false := by simp; omega
                have nl : ¬ l.length ≤ k := by omega
                have e5 : ¬ 0 < k := by omega
                have H0 : Hid (k = 0) := hk0
                clear hk0
                go_wp2
                go_loop [6, 7] (fun n i => ∃ j : Nat, j ≤ k + 1 ∧ i = .int .i64 ((j : Int) - 1) ∧ n = .int .u64 (val ((l.take (k + 1)).drop j))) (fun _ i => (intOf i + 1).toNat)
                case atStart => exact ⟨k + 1, Nat.le_refl _, by go_num, by simp [val]⟩
                case round =>
                  obtain ⟨j, hj, rfl, rfl⟩ := hrel
                  cases j with
                  | zero =>
                    go_wp2
                    go_ret3
                    exact ⟨ret_read_some HE.out (by simp) (by simp), rfl⟩
                  | succ j =>
                    have hjl : j < l.length := by omega
                    have hy : w.cell? ⟨b, off + j, none⟩ = some (.int .u8 (l[j].toNat : Int)) := HC.out j hjl
                    have hst := val_drop_step (l.take (k + 1)) j (by simp; omega)
                    have hle := val_drop_le (l.take (k + 1)) j (by simp; omega)
                    rw [List.getElem_take] at hst
                    obtain ⟨y, hye⟩ : ∃ y : Nat, y = l[j].toNat := ⟨_, rfl⟩
                    obtain ⟨v, hve⟩ : ∃ v : Nat, v = val ((l.take (k + 1)).drop (j + 1)) := ⟨_, rfl⟩
                    rw [← hye] at hy hst
                    rw [← hve] at hst ⊢
                    have hy2 : y < 256 := by rw [hye]; exact UInt8.toNat_lt _
                    have hb1 : (v : Int) * 128 ≤ 18446744073709551615 := by have := HV.out; omega
                    have hb2 : (v : Int) * 128 + (y : Int) % 128 ≤ 18446744073709551615 := by have := HV.out; omega
                    have HST : Hid (val ((l.take (k + 1)).drop j) = y % 128 + 128 * v) := hst
                    clear hst hle hye hve
                    go_wp2
                    go_round
                    case rel => exact ⟨j, by omega, by go_num, by rw [HST.out]; go_num⟩
                    case measure => first | (simp [intOf]; done) | (simp [intOf]; omega)
      · have i2 : ¬ (k : Int) < 10 := by omega
        have j2 : decide ((k : Int) < 10) = false := by simp; omega
        have k2 : decide ((10 : Int) ≤ (k : Int)) = true := by simp; omega
        have HE : Hid (readL l = none) := HL.out.ends (by omega)
        go_wp2
        go_ret3
        exact ⟨ret_read_none HE.out, rfl⟩
    · have i1 : ¬ (k : Int) < (l.length : Int) := by omega
      have j0 : decide ((k : Int) < (l.length : Int)) = false := by simp; omega
      have j1 : decide ((l.length : Int) ≤ (k : Int)) = true := by simp; omega
      have HE : Hid (readL l = none) := HL.out.ends (by omega)
      go_wp2
      go_ret3
      exact ⟨ret_read_none HE.out, rfl⟩
theorem refRead_empty (w : World) (ao : Option Addr) (cap : Nat) :
    Calls Try.prog 47 #[.slice ao 0 cap] w fun e w' => e = .returned (.tuple #[.int .u64 (readN []), .int .i64 (readK []), .int .i64 (readE [])]) ∧ w = w' := by
  go_enter Try.func47, Try.ntmps47
  go_wp2
  refine wp_loop_rounds 1 ?_
  rw [rounds_succ]
  go_wp2
  go_ret3
  exact ⟨ret_read_none rfl, rfl⟩

theorem refRead_any (w : World) (B : Nat) (ao : Option Addr) (l : List UInt8) (cap : Nat) (hm : l.length ≤ maxLen) (h : BsAt w B ao l) :
    Calls Try.prog 47 #[.slice ao l.length cap] w fun e w' => e = .returned (.tuple #[.int .u64 (readN l), .int .i64 (readK l), .int .i64 (readE l)]) ∧ w = w' := by
  rcases h with rfl | ⟨b, off, rfl, _, hc⟩
  · exact refRead_empty w ao cap
  · by_cases hl : l.length = 0
    · have : l = [] := List.eq_nil_of_length_eq_zero hl
      subst this
      exact refRead_empty w _ cap
    · exact refRead_row w b off l cap (by omega) hm hc

theorem cut_none {l : List UInt8} (h : readL l = none) : cutT l = [] ∧ cutR l = [] ∧ cutE l = 8 := by
  have e : sText ⟨l, false⟩ = ([], ⟨[], true⟩) := by simp [sText, sSmall, h, St.fail]
  simp [cutT, cutR, cutE, e]
theorem cut_short {l : List UInt8} {n k : Nat} (h : readL l = some (n, k)) (hn : l.length - k < n) : cutT l = [] ∧ cutR l = [] ∧ cutE l = 8 := by
  have h2 := (readL_le h).2.2
  have hs := sSmall_ok (s := ⟨l, false⟩) (most := 18446744073709551615) h (by omega)
  have e : sText ⟨l, false⟩ = ([], ⟨[], true⟩) := by
    unfold sText
    rw [hs, if_pos (by simpa using hn)]
    rfl
  simp [cutT, cutR, cutE, e]
theorem cut_some {l : List UInt8} {n k : Nat} (h : readL l = some (n, k)) (hn : ¬ l.length - k < n) : cutT l = (l.drop k).take n ∧ cutR l = l.drop (k + n) ∧ cutE l = 0 := by
  have h2 := (readL_le h).2.2
  have hs := sSmall_ok (s := ⟨l, false⟩) (most := 18446744073709551615) h (by omega)
  have e : sText ⟨l, false⟩ = ((l.drop k).take n, ⟨(l.drop k).drop n, false⟩) := by
    unfold sText
    rw [hs, if_neg (by simpa using hn)]
  simp [cutT, cutR, cutE, e]

end Go.Proofs.Ytfjcaofmcjhdpaa
