/-
  LruFirst: for every row of texts (those of more than 256, or of too many bytes, are passed over): where all may come, all go in the order in which they came.
-/
import Derived.Test.YtmdlampmoeiihaaLrAlive
import Derived.Test.YtmdlampmoeiihaaLrIn
namespace Go.Proofs.Ytmdlampmoeiihaa
open Go.ChangeShapes Go.WideShapes Go.ChangeAt Go.RowKit Go.Shelf Go.Lib Go.Sort
open Go.ChangeMaps (open_string shut_string)
set_option linter.unusedSimpArgs false
set_option linter.unusedVariables false
set_option maxRecDepth 100000

theorem came_ok {l : List ByteArray} (h : ∀ j (hj : j < l.length), adE (cam l j) [] l[j] = 0) : Ok l.reverse [] := by
  by_cases h0 : l.length = 0
  · have : l = [] := List.eq_nil_of_length_eq_zero h0
    subst this
    exact ⟨by simp, by simp, by simp, by simp⟩
  · have hj : l.length - 1 < l.length := by omega
    obtain ⟨a, b, c, d⟩ := adE_zero (h (l.length - 1) hj)
    have := ad_ok a b c d
    rw [← cam_succ l _ hj, show l.length - 1 + 1 = l.length by omega, cam_all] at this
    exact this
set_option maxHeartbeats 1000000 in
theorem lruFirst_walk (w : World) (ao : Option Addr) (cap : Nat) (l : List ByteArray) (hl : Tl w ao l cap) :
    Calls Try.prog 6 #[.slice ao l.length cap] w fun e w' => e = .returned (.bool true) ∧ Below w.heap.size w w' := by
  have hlm : l.length ≤ 9223372036854775807 := Nat.le_trans hl.hl hl.hc
  have HLl := Hid.mk2 hl
  clear hl
  go_enter Try.func6, Try.ntmps6
  go_wp2_with (go_at_call 15; refine (alive_any _).mono ?_; rintro e w1 ⟨rfl, hb1⟩; have HB1 := Hid.mk2 hb1; clear hb1)
  have HL1 := Hid.mk2 (HLl.out.below HB1.out)
  go_loop [4, 5] (fun n i => ∃ (k : Nat) (m : Int), k ≤ l.length ∧ k ≤ 300 ∧ i = .int .i64 k ∧ n = .int .i64 m ∧ 0 ≤ m ∧ m ≤ k * 10000) (fun _ i => 300 - (intOf i).toNat)
  case atStart => exact ⟨0, 0, Nat.zero_le _, by omega, rfl, rfl, by omega, by omega⟩
  case round =>
    obtain ⟨k, m, hk, hk3, rfl, rfl, hm0, hm1⟩ := hrel
    by_cases hlt : k < l.length
    · have hlt2 : (k : Int) < (l.length : Int) := by omega
      have hlt3 : decide ((k : Int) < (l.length : Int)) = true := by simp; omega
      by_cases h3 : k < 300
      · have h32 : (k : Int) < 300 := by omega
        obtain ⟨b, off, rfl, hb, hc⟩ := at_of HL1.out hlt
        obtain ⟨s, hs⟩ : ∃ s, s = l[k] := ⟨_, rfl⟩
        rw [← hs] at hc
        clear hs
        have hm2 : m ≤ 100000000 := by omega
        go_wp2
        go_round
        case rel => exact ⟨k + 1, m + min (s.size : Int) 10000, by omega, by omega, by go_num, rfl, by omega, by omega⟩
        case measure => simp [intOf]; omega
      · have h32 : ¬ (k : Int) < 300 := by omega
        have h25 : decide ((256 : Int) < (l.length : Int)) = true := by simp; omega
        go_wp2
        go_ret
        exact ⟨rfl, HB1.out⟩
    · have hlt2 : ¬ (k : Int) < (l.length : Int) := by omega
      have hlt3 : decide ((k : Int) < (l.length : Int)) = false := by simp; omega
      by_cases h25 : 256 < l.length
      · have h26 : decide ((256 : Int) < (l.length : Int)) = true := by simp; omega
        go_wp2
        go_ret
        exact ⟨rfl, HB1.out⟩
      · have h26 : decide ((256 : Int) < (l.length : Int)) = false := by simp; omega
        by_cases hm2 : 20000 < m
        · go_wp2
          go_ret
          exact ⟨rfl, HB1.out⟩
        · have HOF := Hid.mk2 (of_any l ao cap w1 HL1.out (by omega))
          go_upto_region 12 with (go_at_call 9; refine HOF.out.mono ?_; rintro e w2 ⟨⟨b, T, aT, cT, aK, cK, rfl, hT, hK, h1, h2⟩, hb2⟩; have HB2 := Hid.mk2 hb2; have HT2 := Hid.mk2 hT; have HK2 := Hid.mk2 hK; have H1 := Hid.mk2 h1; clear h1 h2 hb2 hT hK)
          have hbs : w.heap.size ≤ w1.heap.size := HB1.out.size
          cases b with
          | false =>
            go_wp2
            go_ret
            exact ⟨rfl, (HB1.out.trans (HB2.out.mono hbs)).alloc (Nat.le_trans hbs HB2.out.size) _⟩
          | true =>
            obtain ⟨hTr, hall⟩ := H1.out rfl
            have hok := came_ok hall
            rw [← hTr] at hok
            obtain ⟨V, hV⟩ : ∃ V, V = w2.alloc (Obj.cells #[.slice aT T.length cT, .slice aK 0 cK] 24) := ⟨_, rfl⟩
            have hbV : Below w2.heap.size w2 V := by rw [hV]; exact (Below.refl _ _).alloc (Nat.le_refl _) _
            have HOB : Hid (OB V w2.heap.size (.slice aT T.length cT) (.slice aK 0 cK)) := by rw [hV]; exact OB.made _ _ _
            have hTl : T.length ≤ 300 := by rw [hTr]; simp; omega
            have HAL := Hid.mk2 (all_ok T [] aT aK cT cK V (HT2.out.below hbV) (HK2.out.below hbV) hTl (by simp) hok)
            rw [show (([] : List ByteArray) ++ T).reverse = l by rw [hTr]; simp] at HAL
            simp only [List.length_nil] at HAL
            have HBV : Hid (Below w.heap.size w V) := (HB1.out.trans (HB2.out.mono hbs)).trans (hbV.mono (Nat.le_trans hbs HB2.out.size))
            rw [← hV]
            clear hV hbV hTr hall hok hTl H1
            obtain ⟨c0, c1, f0, f1, l0⟩ := HOB.out
            have HLV := Hid.mk2 (HLl.out.below HBV.out)
            go_wp2_with (first
              | (go_at_call 16; refine (sameTexts_tl _ _ _ l _ _ HM.out (HLV.out.below HB3.out)).mono ?_; rintro e w4 ⟨rfl, hb4⟩; have HB4 := Hid.mk2 hb4; clear hb4)
              | (go_at_call 11; refine HAL.out.mono ?_; rintro e w3 ⟨am, cm, rfl, hO3, hb3⟩; have HB3 := Hid.mk2 hb3; have HM : Hid (Tl w3 am l cm) := (by obtain ⟨ax, cx, e, hh⟩ := hO3.tl; cases e; exact hh); clear hO3 hb3))
            go_ret
            have x3 := HBV.out.trans (HB3.out.mono HBV.out.size)
            exact ⟨rfl, x3.trans (HB4.out.mono x3.size)⟩

set_option maxRecDepth 100000 in
theorem lruFirst_lifted (os : Os) (started : os.Started) (H : Type) (enc : TypeId × Value → H) :
    ReturnsInHanded {} Try.checked os 6 .any (Rows.lruFirstSpec.pre6 enc Try.prog Try.f6 Rows.lruFirstRow.domain false) (Rows.lruFirstSpec.post enc Try.prog Try.f6 false true false false) := by
  refine returnsInHanded_of_change (C := Try.checked) (by kernel_rfl) started (by kernel_rfl) Try.func6
    (ChangeSpec.witness6 (enc := enc) (C := Try.checked) false ⟨#[], #[.slice none 0 0], []⟩ 8 (by kernel_rfl) (by kernel_rfl) (by kernel_rfl) (by kernel_rfl)) ?_
  intro W base args ds gs before hval0 hW hcnd _
  have hval : ∀ (j : Nat) t v, Try.f6.params[j]? = some t → args[j]? = some v → Value.okWide Try.prog W .any base t v := hval0
  have hW' := hW
  obtain ⟨p, q, hA0, hV, rfl, hfz, hnd⟩ := hW
  have hA : DataW.TrodAll enc Try.prog W 0 (fun _ => true) true Try.f6.params.toList args.toList ds p := hA0
  rw [Try.params6] at hA hval
  obtain ⟨v0, vs0, d0, ds0, p0, q0, hargs, rfl, rfl, h0, r0⟩ := trodAll_cons hA
  obtain ⟨rfl, rfl, rfl⟩ := trodAll_nil r0
  obtain rfl : args = #[v0] := by cases args; simp_all
  obtain ⟨rfl, rfl⟩ := trodVars_none hV
  have k0 := h0
  have lt0 : ∀ x ∈ p0, x.block < W.heap.size := by obtain ⟨m, hm⟩ := k0; exact DataW.trod_lt m _ _ _ hm
  obtain ⟨a0, cap0, l0, rfl, w0⟩ := inTexts_of (fun _ => rfl) (hval 0 22 v0 rfl rfl) h0
  clear hA0 hval0
  refine (lruFirst_walk W a0 cap0 l0 w0).mono fun e W' ⟨he, bel⟩ => ?_
  subst he
  exact ⟨_, rfl, _, _, _, [], _, [], hW', trodAll_mk1 (shut_bool Try.underlying4 _), (trodAll_cons_mk (Below.trod laidOut_all (by kernel_rfl) (of_decide_eq_true (by kernel_rfl)) k0 bel lt0) trodAll_mk0), rfl, bel.frame _, fun h => by cases h⟩

theorem lruFirst_proved : Rows.LruFirstSaid :=
  OpenClaim.holds_of_wide 6 Try.f6 rfl rfl rfl rfl rfl rfl rfl ⟨rfl, rfl, rfl, rfl, rfl⟩ rfl rfl rfl rfl rfl (by kernel_rfl) Try.func6 (by kernel_rfl)
    (of_decide_eq_true (by kernel_rfl)) (by unfold Func.isWrapper; first | (rw [if_pos (by decide +kernel)]; kernel_rfl) | (rw [if_neg (by decide +kernel)]; exact ⟨rfl, rfl⟩))
    (fun os started H enc _ => lruFirst_lifted os started H enc)
#print axioms lruFirst_proved
end Go.Proofs.Ytmdlampmoeiihaa
