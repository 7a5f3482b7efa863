/-
  CodeBack is true for every number, text and bytes behind: numbers and texts are read back, whatever stands behind them, and a number has as few bytes as its bits ask for; no condition.
-/
import Derived.Test.YthdfomcikdjkpaaAlive
import Derived.Test.YthdfomcikdjkpaaCut
import Derived.Test.YthdfomcikdjkpaaBack
import Derived.Test.YthdfomcikdjkpaaRows2
namespace Go.Proofs.Ythdfomcikdjkpaa
open Go.ChangeShapes Go.WideShapes Go.ChangeAt Go.RowKit
open Go.ChangeMaps (open_string shut_string)
set_option linter.unusedSimpArgs false
set_option linter.unusedVariables false
set_option maxRecDepth 100000

theorem u64_fits {n : Int} (h : (Lit.int .u64 n).wf = true) : ∃ m : Nat, n = (m : Int) ∧ Fits m := by
  have := bounds_u64 h
  exact ⟨n.toNat, by omega, by unfold Fits; omega⟩
set_option maxHeartbeats 1000000 in
theorem codeBack_walk (w : World) (n : Int) (wn : (Lit.int .u64 n).wf = true) (s : ByteArray) (ws : s.size ≤ maxLen) (a : Option Addr) (len cap : Nat) (l : List UInt8) (hi : InBytes w a len cap l) :
    Calls Try.prog 8 #[.int .u64 n, .string s, .slice a len cap] w fun e w' => e = .returned (.bool true) ∧ Below w.heap.size w w' := by
  obtain ⟨n, rfl, hn⟩ := u64_fits wn
  clear wn
  obtain ⟨rfl, hlc, hcm, hnil, hbs⟩ := hi
  have hal := alive_any w
  have HCM : Hid (l.length ≤ maxLen) := Nat.le_trans hlc hcm
  have hlm : l.length ≤ 9223372036854775807 := Nat.le_trans hlc hcm
  by_cases g0 : 10000 < s.size
  · have e0 : decide ((10000 : Int) < (s.size : Int)) = true := by simp; omega
    go_enter Try.func8, Try.ntmps8
    go_wp2_with (go_at_call 19; refine hal.mono ?_; rintro e w1 ⟨rfl, hb1⟩)
    go_ret
    exact ⟨rfl, hb1⟩
  · have e0 : decide ((10000 : Int) < (s.size : Int)) = false := by simp; omega
    by_cases g1 : 10000 < l.length
    · have e1 : decide ((10000 : Int) < (l.length : Int)) = true := by simp; omega
      go_enter Try.func8, Try.ntmps8
      go_wp2_with (go_at_call 19; refine hal.mono ?_; rintro e w1 ⟨rfl, hb1⟩)
      go_ret
      exact ⟨rfl, hb1⟩
    · have e1 : decide ((10000 : Int) < (l.length : Int)) = false := by simp; omega
      have HNL : Hid (a = none → cap = 0) := hnil
      clear hnil hcm
      have hsl := small_len n
      have hst := small_len s.size
      obtain ⟨r1, r2, r3⟩ := read_some (read_small n hn l)
      have htl : (text s.data.toList).length ≤ 10010 := by simp [text]; omega
      have hft : Fits s.data.toList.length := by unfold Fits; simp; omega
      obtain ⟨t1, t2, t3⟩ := cut_text s.data.toList l hft
      have HN : Hid (Fits n) := hn
      clear hn hft
      have hni : (n : Int) ≤ 18446744073709551615 := by have : n < 18446744073709551616 := HN.out
                                                        omega
      go_enter Try.func8, Try.ntmps8
      go_wp2_with (first
        | (go_at_call 19; refine hal.mono ?_; rintro e w1 ⟨rfl, hb1⟩)
        | (go_at_call 16; refine (small_any n w1 HN.out).mono ?_; rintro e w2 ⟨v2, rfl, ho2, hb2⟩; obtain ⟨ao2, cap2, hv2, hlc2, hcm2, hnl2, hbs2⟩ := ho2.at; have HNL2 : Hid (ao2 = none → cap2 = 0) := hnl2; clear hnl2 hcm2; rw [hv2]; have hb02 := hb1.trans (hb2.mono hb1.size))
        | (at_builtin; refine app_bytes rfl (.tmp 42) (.tmp 43) rfl w4.heap.size _ _ ho5 rfl a cap l _ rfl rfl w.heap.size HNL.out (hbs.below hb05 (Nat.le_refl _)) (by omega) hb5.size ?_; intro v6 w6 ho6 hg6; obtain ⟨L6, hL6⟩ : ∃ L, L = text s.data.toList ++ l := ⟨_, rfl⟩; rw [← hL6] at ho6; have hl6 : L6.length ≤ 100000 := (by rw [hL6, List.length_append]; omega); have t1' : cutT L6 = s.data.toList := (by rw [hL6]; exact t1); have t2' : cutR L6 = l := (by rw [hL6]; exact t2); have t3' : cutE L6 = 0 := (by rw [hL6]; exact t3); clear hL6; obtain ⟨ao6, cap6, hv6, hlc6, hcm6, hnl6, hbs6⟩ := ho6.at; have HNL6 : Hid (ao6 = none → cap6 = 0) := hnl6; clear hnl6; rw [hv6]; have hb06 := hb05.trans ((hg6.below ho5 hb5.size).mono (Nat.le_trans hb04.size (Nat.le_refl _))))
        | (at_builtin; refine app_bytes rfl (.tmp 33) (.tmp 34) rfl w2.heap.size _ _ ho3 rfl a cap l _ rfl rfl w.heap.size HNL.out (hbs.below hb03 (Nat.le_refl _)) (by omega) hg3.grown.size ?_; intro v4 w4 ho4 hg4; obtain ⟨L4, hL4⟩ : ∃ L, L = small n ++ l := ⟨_, rfl⟩; rw [← hL4] at ho4; have hl4 : L4.length ≤ maxLen := (by rw [hL4, List.length_append]; unfold maxLen; omega); have r1' : readN L4 = n := (by rw [hL4]; exact r1); have r2' : readK L4 = (small n).length := (by rw [hL4]; exact r2); have r3' : readE L4 = 0 := (by rw [hL4]; exact r3); clear hL4; obtain ⟨ao4, cap4, hv4, hlc4, hcm4, hnl4, hbs4⟩ := ho4.at; rw [hv4]; have hb04 := hb03.trans ((hg4.below ho3 hg3.grown.size).mono hb02.size); clear hnl4)
        | (at_builtin; refine app_bytes rfl (.const (.slice none 0 0)) (.tmp 32) rfl w2.heap.size _ [] (Own.nil _ _) rfl ao2 cap2 (small n) _ rfl rfl w2.heap.size HNL2.out hbs2 (by simp only [List.length_nil]; omega) (Nat.le_refl _) ?_; intro v3 w3 ho3 hg3; rw [List.nil_append] at ho3; have hb03 := hb02.trans (hg3.below_nil.mono hb02.size))
        | (go_at_call 9; refine (read_any w4 w4.heap.size ao4 L4 cap4 hlc4 hl4 hbs4).mono ?_; rintro e w' ⟨rfl, rfl⟩; rw [r1', r2', r3'])
        | (go_at_call 17; refine (text_any s w4 (by omega)).mono ?_; rintro e w5 ⟨v5, rfl, ho5, hb5⟩; have hb05 := hb04.trans (hb5.mono hb04.size))
        | (go_at_call 10; refine (cut_any w6 w6.heap.size ao6 L6 cap6 hbs6 hlc6 hcm6 HNL6.out (Nat.le_refl _) (by omega)).mono ?_; rintro e w7 ⟨v7, rfl, ho7, hb7⟩; rw [t1', t3']; rw [t2'] at ho7; have hb07 := hb06.trans (hb7.mono hb06.size)))
      have hcv7 := ho7.conv w7 (Below.refl _ _)
      have hcva := conv_bytes w7 w.heap.size a l cap (hbs.below hb07 (Nat.le_refl _))
      have hfew := more_start n HN.out
      obtain ⟨q, hq⟩ : ∃ q, q = (small n).length := ⟨_, rfl⟩
      have HQ : Hid (1 + more (n / 128) = (small n).length) := hfew
      clear hfew hq q
      go_loop [15, 16] (fun f y => ∃ i m : Nat, i + more m = (small n).length ∧ Fits m ∧ f = .int .i64 i ∧ y = .int .u64 m) (fun _ y => (intOf y).toNat)
      case atStart => exact ⟨1, n / 128, HQ.out, by have : n < 18446744073709551616 := HN.out
                                                    unfold Fits; omega, rfl, by go_num⟩
      case round =>
        obtain ⟨i, m, him, hfm, rfl, rfl⟩ := hrel
        have HIM : Hid (i + more m = (small n).length) := him
        have HFM : Hid (Fits m) := hfm
        have hmi : (m : Int) ≤ 18446744073709551615 := by have : m < 18446744073709551616 := hfm
                                                          omega
        have hib : i ≤ 10 := by have := small_len n; omega
        clear him hfm
        by_cases hm0 : 0 < m
        · have hm1 : (0 : Int) < (m : Int) := by omega
          go_wp2
          go_round
          case rel => exact ⟨i + 1, m / 128, by have := more_step m HFM.out hm0; have := HIM.out; omega, by have : m < 18446744073709551616 := HFM.out
                                                                                                            unfold Fits; omega, by go_num, by go_num⟩
          case measure => simp [intOf]; omega
        · have hm1 : ¬ (0 : Int) < (m : Int) := by omega
          have hie : i = (small n).length := by
            have := HIM.out
            have e : m = 0 := by omega
            subst e
            simpa [more] using this
          have HIE : Hid (i = (small n).length) := hie
          rw [hie]
          clear hie
          go_wp2
          go_ret
          exact ⟨rfl, hb07⟩

set_option maxRecDepth 100000 in
theorem codeBack_lifted (os : Os) (started : os.Started) (H : Type) (enc : TypeId × Value → H) :
    ReturnsInHanded {} Try.checked os 8 .any (Rows.codeBackSpec.pre6 enc Try.prog Try.f8 Rows.codeBackRow.domain false) (Rows.codeBackSpec.post enc Try.prog Try.f8 false true false false) := by
  refine returnsInHanded_of_change (C := Try.checked) (by kernel_rfl) started (by kernel_rfl) Try.func8
    (ChangeSpec.witness6 (enc := enc) (C := Try.checked) false ⟨#[], #[.int .u64 0, .string ByteArray.empty, .slice none 0 0], []⟩ 8 (by kernel_rfl) (by kernel_rfl) (by kernel_rfl) (by kernel_rfl)) ?_
  intro W base args ds gs before hval0 hW hcnd _
  have hval : ∀ (j : Nat) t v, Try.f8.params[j]? = some t → args[j]? = some v → Value.okWide Try.prog W .any base t v := hval0
  have hW' := hW
  obtain ⟨p, q, hA0, hV, rfl, hfz, hnd⟩ := hW
  have hA : DataW.TrodAll enc Try.prog W 0 (fun _ => true) true Try.f8.params.toList args.toList ds p := hA0
  rw [Try.params8] at hA hval
  obtain ⟨v0, vs0, d0, ds0, p0, q0, hargs, rfl, rfl, h0, r0⟩ := trodAll_cons hA
  obtain ⟨v1, vs1, d1, ds1, p1, q1, rfl, rfl, rfl, h1, r1⟩ := trodAll_cons r0
  obtain ⟨v2, vs2, d2, ds2, p2, q2, rfl, rfl, rfl, h2, r2⟩ := trodAll_cons r1
  obtain ⟨rfl, rfl, rfl⟩ := trodAll_nil r2
  obtain rfl : args = #[v0, v1, v2] := by cases args; simp_all
  obtain ⟨rfl, rfl⟩ := trodVars_none hV
  obtain ⟨a0, rfl, rfl, rfl, w0⟩ := open_int Try.underlying22 (hval 0 22 v0 rfl rfl) h0
  obtain ⟨a1, rfl, rfl, rfl, w1⟩ := open_string Try.underlying9 (hval 1 9 v1 rfl rfl) h1
  have k2 := h2
  have lt2 : ∀ x ∈ p2, x.block < W.heap.size := by obtain ⟨m, hm⟩ := k2; exact DataW.trod_lt m _ _ _ hm
  obtain ⟨a2, len2, cap2, rfl⟩ := okWide_slice Try.underlying26 (hval 2 26 v2 rfl rfl)
  obtain ⟨l2, w2⟩ := inBytes_of (fun _ => rfl) h2
  clear hA0 hval0
  refine (codeBack_walk W a0 w0 a1 w1 a2 len2 cap2 l2 w2).mono fun e W' ⟨he, bel⟩ => ?_
  subst he
  exact ⟨_, rfl, _, _, _, [], _, [], hW', trodAll_mk1 (shut_bool Try.underlying4 _), (trodAll_cons_mk (shut_int Try.underlying22 w0) (trodAll_cons_mk (shut_string Try.underlying9 w1) (trodAll_cons_mk (Below.trod laidOut_all (by kernel_rfl) (of_decide_eq_true (by kernel_rfl)) k2 bel lt2) trodAll_mk0))), rfl, bel.frame _, fun h => by cases h⟩

theorem codeBack_proved : Rows.CodeBackSaid :=
  OpenClaim.holds_of_wide 8 Try.f8 rfl rfl rfl rfl rfl rfl rfl ⟨rfl, rfl, rfl, rfl, rfl⟩ rfl rfl rfl rfl rfl (by kernel_rfl) Try.func8 (by kernel_rfl)
    (of_decide_eq_true (by kernel_rfl)) (by unfold Func.isWrapper; first | (rw [if_pos (by decide +kernel)]; kernel_rfl) | (rw [if_neg (by decide +kernel)]; exact ⟨rfl, rfl⟩))
    (fun os started H enc _ => codeBack_lifted os started H enc)
#print axioms codeBack_proved
end Go.Proofs.Ythdfomcikdjkpaa

