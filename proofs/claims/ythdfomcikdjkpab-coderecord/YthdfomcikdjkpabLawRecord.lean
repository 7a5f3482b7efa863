/-
  CodeRecord is true for every list of changes and every bytes: changes are read again as they were written, and nothing else is read as changes; no condition.
-/
import Derived.Test.YthdfomcikdjkpabRec3
import Derived.Test.YthdfomcikdjkpabHeavy
import Derived.Test.YthdfomcikdjkpabRows3
namespace Go.Proofs.Ythdfomcikdjkpab
open Go.ChangeShapes Go.WideShapes Go.ChangeAt Go.RowKit
open Go.ChangeMaps (open_string shut_string)
set_option linter.unusedSimpArgs false
set_option linter.unusedVariables false
set_option maxRecDepth 100000

set_option maxHeartbeats 4000000 in
theorem codeRecord_walk (w : World) (a0 : Option Addr) (len0 cap0 : Nat) (cs : List Chg) (hi0 : InChanges w a0 len0 cap0 cs) (a1 : Option Addr) (len1 cap1 : Nat) (l : List UInt8) (hi1 : InBytes w a1 len1 cap1 l) :
    Calls Try.prog 3 #[.slice a0 len0 cap0, .slice a1 len1 cap1] w fun e w' => e = .returned (.bool true) ∧ Below w.heap.size w w' := by
  obtain ⟨rfl, hlc0, hcm0, hch, hgood⟩ := hi0
  obtain ⟨rfl, hlc, hcm, hnil, hbs⟩ := hi1
  have hal := alive_any w
  have HNL : Hid (a1 = none → cap1 = 0) := hnil
  have hm : cs.length ≤ maxLen := Nat.le_trans hlc0 hcm0
  have hlm : l.length ≤ 9223372036854775807 := Nat.le_trans hlc hcm
  clear hnil hcm0 hlc0
  obtain ⟨⟨ms, E2⟩, hR'⟩ : ∃ p, p = ofChs l := ⟨_, rfl⟩
  have hR : ofChs l = (ms, E2) := hR'.symm
  have hcs := of_cases l
  rw [hR] at hcs
  simp only [] at hcs
  clear hR'
  obtain ⟨E1, hE1⟩ : ∃ E, E = chsE cs := ⟨_, rfl⟩
  obtain ⟨P, hP⟩ : ∃ P, P = chsB cs := ⟨_, rfl⟩
  have HE1 : Hid (chsE cs = E1) := hE1.symm
  have HP : Hid (chsB cs = P) := hP.symm
  by_cases g1 : (70000 : Int) < (l.length : Int)
  · go_enter Try.func3, Try.ntmps3
    go_wp2_with (first
      | (go_at_call 9; refine hal.mono ?_; rintro e w1 ⟨rfl, hb1⟩)
      | (go_at_call 10; refine (heavy_any w1 w.heap.size a0 cs cap0 hm (hch.below hb1 (Nat.le_refl _))).mono ?_; rintro e w2 ⟨⟨hv, rfl⟩, n2, rfl⟩; have hb2 := below_drewN hb1 n2))
    all_goals
      go_ret
      exact ⟨rfl, hb2⟩
  · have g2 : decide ((70000 : Int) < (l.length : Int)) = false := by simp; omega
    rcases chsE_cases cs with c1 | ⟨c1, c2⟩
    · have hof : ofChs P = (cs, 0) := by rw [hP]; exact of_back c1 hgood
      have hPl : (P.length : Int) ≤ 65536 := by
        obtain ⟨_, _, h3, h4⟩ := chsE_zero c1
        rw [hP, h4]; omega
      rw [c1] at hE1
      subst hE1
      clear hP c1
      rcases hcs with ⟨rfl, hE7, hB7, hgm⟩ | ⟨h2, rfl⟩
      · go_enter Try.func3, Try.ntmps3
        go_wp2_with (first
          | (go_at_call 9; refine hal.mono ?_; rintro e w1 ⟨rfl, hb1⟩)
          | (go_at_call 10; refine (heavy_any w1 w.heap.size a0 cs cap0 hm (hch.below hb1 (Nat.le_refl _))).mono ?_; rintro e w2 ⟨⟨hv, rfl⟩, n2, rfl⟩; have hb2 := below_drewN hb1 n2)
          | (go_at_call 11; have hh := hmk2; refine (changes_any w6 w6.heap.size ao6 ms cap6 hch6 (Nat.le_refl _) (by omega) hgm).mono ?_; rintro e w7 ⟨v7, rfl, ho7, hbb7⟩; rw [hE7]; rw [hB7] at ho7; have hb7 := hb6.trans (hbb7.mono hb6.size); have hcv7 := ho7.conv w7 (Below.refl _ _); have hcva := conv_bytes w7 w.heap.size a1 l cap1 (hbs.below hb7 (Nat.le_refl _)))
          | (go_at_call 12; have hh := hmk; refine (ofChanges_any (w4.drewN n5) w.heap.size a1 l cap1 (hbs.below hb5 (Nat.le_refl _)) hlc hcm HNL.out hb5.size).mono ?_; rintro e w6 ⟨v6, rfl, ho6, hbb6⟩; rw [hR]; rw [hR] at ho6; have hb6 := hb5.trans (hbb6.mono hb5.size); obtain ⟨ao6, cap6, hv6, hlc6, hcm6, hch6⟩ := ho6.at; rw [hv6]; have hmk2 := True.intro)
          | (go_at_call 13; refine (same_any w4 w4.heap.size w.heap.size ao4 a0 cs cap4 cap0 hm hch4 (hch.below hb4 (Nat.le_refl _))).mono ?_; rintro e w5 ⟨rfl, n5, rfl⟩; have hb5 := below_drewN hb4 n5; have hmk := True.intro)
          | (go_at_call 12; refine (ofChanges_any w3 w3.heap.size ao3 P cap3 hbs3 hlc3 hcm3 hnl3.out (Nat.le_refl _)).mono ?_; rintro e w4 ⟨v4, rfl, ho4, hbb4⟩; rw [hof]; rw [hof] at ho4; have hb4 := hb3.trans (hbb4.mono hb3.size); obtain ⟨ao4, cap4, hv4, hlc4, hcm4, hch4⟩ := ho4.at; rw [hv4])
          | (go_at_call 11; refine (changes_any (w1.drewN n2) w.heap.size a0 cs cap0 (hch.below hb2 (Nat.le_refl _)) hb2.size hm hgood).mono ?_; rintro e w3 ⟨v3, rfl, ho3, hbb3⟩; rw [HE1.out]; rw [HP.out] at ho3; have hb3 := hb2.trans (hbb3.mono hb2.size); obtain ⟨ao3, cap3, hv3, hlc3, hcm3, hnl0, hbs3⟩ := ho3.at; have hnl3 : Hid (ao3 = none → cap3 = 0) := hnl0; clear hnl0; rw [hv3]))
        all_goals
          go_ret
          first
            | exact ⟨rfl, hb7⟩
            | exact ⟨rfl, hb2⟩
      · have h2' : (E2 != 0) = true := by simpa using h2
        go_enter Try.func3, Try.ntmps3
        go_wp2_with (first
          | (go_at_call 9; refine hal.mono ?_; rintro e w1 ⟨rfl, hb1⟩)
          | (go_at_call 10; refine (heavy_any w1 w.heap.size a0 cs cap0 hm (hch.below hb1 (Nat.le_refl _))).mono ?_; rintro e w2 ⟨⟨hv, rfl⟩, n2, rfl⟩; have hb2 := below_drewN hb1 n2)
          | (go_at_call 12; have hh := hmk; refine (ofChanges_any (w4.drewN n5) w.heap.size a1 l cap1 (hbs.below hb5 (Nat.le_refl _)) hlc hcm HNL.out hb5.size).mono ?_; rintro e w6 ⟨v6, rfl, ho6, hbb6⟩; rw [hR]; rw [hR] at ho6; have hb6 := hb5.trans (hbb6.mono hb5.size); obtain ⟨ao6, cap6, hv6, hlc6, hcm6, hch6⟩ := ho6.at; rw [hv6]; have hmk2 := True.intro)
          | (go_at_call 13; refine (same_any w4 w4.heap.size w.heap.size ao4 a0 cs cap4 cap0 hm hch4 (hch.below hb4 (Nat.le_refl _))).mono ?_; rintro e w5 ⟨rfl, n5, rfl⟩; have hb5 := below_drewN hb4 n5; have hmk := True.intro)
          | (go_at_call 12; refine (ofChanges_any w3 w3.heap.size ao3 P cap3 hbs3 hlc3 hcm3 hnl3.out (Nat.le_refl _)).mono ?_; rintro e w4 ⟨v4, rfl, ho4, hbb4⟩; rw [hof]; rw [hof] at ho4; have hb4 := hb3.trans (hbb4.mono hb3.size); obtain ⟨ao4, cap4, hv4, hlc4, hcm4, hch4⟩ := ho4.at; rw [hv4])
          | (go_at_call 11; refine (changes_any (w1.drewN n2) w.heap.size a0 cs cap0 (hch.below hb2 (Nat.le_refl _)) hb2.size hm hgood).mono ?_; rintro e w3 ⟨v3, rfl, ho3, hbb3⟩; rw [HE1.out]; rw [HP.out] at ho3; have hb3 := hb2.trans (hbb3.mono hb2.size); obtain ⟨ao3, cap3, hv3, hlc3, hcm3, hnl0, hbs3⟩ := ho3.at; have hnl3 : Hid (ao3 = none → cap3 = 0) := hnl0; clear hnl0; rw [hv3]))
        all_goals
          go_ret
          first
            | exact ⟨rfl, hb6⟩
            | exact ⟨rfl, hb2⟩
    · rw [c2] at hP
      subst hP
      rw [← hE1] at c1
      have c1' : (E1 == 0) = false := by simpa using c1
      clear hE1 c2
      rcases hcs with ⟨rfl, hE7, hB7, hgm⟩ | ⟨h2, rfl⟩
      · go_enter Try.func3, Try.ntmps3
        go_wp2_with (first
          | (go_at_call 9; refine hal.mono ?_; rintro e w1 ⟨rfl, hb1⟩)
          | (go_at_call 10; refine (heavy_any w1 w.heap.size a0 cs cap0 hm (hch.below hb1 (Nat.le_refl _))).mono ?_; rintro e w2 ⟨⟨hv, rfl⟩, n2, rfl⟩; have hb2 := below_drewN hb1 n2)
          | (go_at_call 11; have hh := hmk2; refine (changes_any w6 w6.heap.size ao6 ms cap6 hch6 (Nat.le_refl _) (by omega) hgm).mono ?_; rintro e w7 ⟨v7, rfl, ho7, hbb7⟩; rw [hE7]; rw [hB7] at ho7; have hb7 := hb6.trans (hbb7.mono hb6.size); have hcv7 := ho7.conv w7 (Below.refl _ _); have hcva := conv_bytes w7 w.heap.size a1 l cap1 (hbs.below hb7 (Nat.le_refl _)))
          | (go_at_call 12; have hh := hmk; refine (ofChanges_any w3 w.heap.size a1 l cap1 (hbs.below hb3 (Nat.le_refl _)) hlc hcm HNL.out hb3.size).mono ?_; rintro e w6 ⟨v6, rfl, ho6, hbb6⟩; rw [hR]; rw [hR] at ho6; have hb6 := hb3.trans (hbb6.mono hb3.size); obtain ⟨ao6, cap6, hv6, hlc6, hcm6, hch6⟩ := ho6.at; rw [hv6]; have hmk2 := True.intro)
          | (go_at_call 11; refine (changes_any (w1.drewN n2) w.heap.size a0 cs cap0 (hch.below hb2 (Nat.le_refl _)) hb2.size hm hgood).mono ?_; rintro e w3 ⟨v3, rfl, ho3, hbb3⟩; rw [HE1.out]; rw [HP.out] at ho3; have hb3 := hb2.trans (hbb3.mono hb2.size); obtain ⟨ao3, cap3, hv3, hlc3, hcm3, hnl0, hbs3⟩ := ho3.at; have hnl3 : Hid (ao3 = none → cap3 = 0) := hnl0; clear hnl0; rw [hv3]; have hmk := True.intro))
        all_goals
          go_ret
          first
            | exact ⟨rfl, hb7⟩
            | exact ⟨rfl, hb2⟩
      · have h2' : (E2 != 0) = true := by simpa using h2
        go_enter Try.func3, Try.ntmps3
        go_wp2_with (first
          | (go_at_call 9; refine hal.mono ?_; rintro e w1 ⟨rfl, hb1⟩)
          | (go_at_call 10; refine (heavy_any w1 w.heap.size a0 cs cap0 hm (hch.below hb1 (Nat.le_refl _))).mono ?_; rintro e w2 ⟨⟨hv, rfl⟩, n2, rfl⟩; have hb2 := below_drewN hb1 n2)
          | (go_at_call 12; have hh := hmk; refine (ofChanges_any w3 w.heap.size a1 l cap1 (hbs.below hb3 (Nat.le_refl _)) hlc hcm HNL.out hb3.size).mono ?_; rintro e w6 ⟨v6, rfl, ho6, hbb6⟩; rw [hR]; rw [hR] at ho6; have hb6 := hb3.trans (hbb6.mono hb3.size); obtain ⟨ao6, cap6, hv6, hlc6, hcm6, hch6⟩ := ho6.at; rw [hv6]; have hmk2 := True.intro)
          | (go_at_call 11; refine (changes_any (w1.drewN n2) w.heap.size a0 cs cap0 (hch.below hb2 (Nat.le_refl _)) hb2.size hm hgood).mono ?_; rintro e w3 ⟨v3, rfl, ho3, hbb3⟩; rw [HE1.out]; rw [HP.out] at ho3; have hb3 := hb2.trans (hbb3.mono hb2.size); obtain ⟨ao3, cap3, hv3, hlc3, hcm3, hnl0, hbs3⟩ := ho3.at; have hnl3 : Hid (ao3 = none → cap3 = 0) := hnl0; clear hnl0; rw [hv3]; have hmk := True.intro))
        all_goals
          go_ret
          first
            | exact ⟨rfl, hb6⟩
            | exact ⟨rfl, hb2⟩

set_option maxRecDepth 100000 in
theorem codeRecord_lifted (os : Os) (started : os.Started) (H : Type) (enc : TypeId × Value → H) :
    ReturnsInHanded {} Try.checked os 3 .any (Rows.codeRecordSpec.pre6 enc Try.prog Try.f3 Rows.codeRecordRow.domain false) (Rows.codeRecordSpec.post enc Try.prog Try.f3 false true false false) := by
  refine returnsInHanded_of_change (C := Try.checked) (by kernel_rfl) started (by kernel_rfl) Try.func3
    (ChangeSpec.witness6 (enc := enc) (C := Try.checked) false ⟨#[], #[.slice none 0 0, .slice none 0 0], []⟩ 8 (by kernel_rfl) (by kernel_rfl) (by kernel_rfl) (by kernel_rfl)) ?_
  intro W base args ds gs before hval0 hW hcnd _
  have hval : ∀ (j : Nat) t v, Try.f3.params[j]? = some t → args[j]? = some v → Value.okWide Try.prog W .any base t v := hval0
  have hW' := hW
  obtain ⟨p, q, hA0, hV, rfl, hfz, hnd⟩ := hW
  have hA : DataW.TrodAll enc Try.prog W 0 (fun _ => true) true Try.f3.params.toList args.toList ds p := hA0
  rw [Try.params3] at hA hval
  obtain ⟨v0, vs0, d0, ds0, p0, q0, hargs, rfl, rfl, h0, r0⟩ := trodAll_cons hA
  obtain ⟨v1, vs1, d1, ds1, p1, q1, rfl, rfl, rfl, h1, r1⟩ := trodAll_cons r0
  obtain ⟨rfl, rfl, rfl⟩ := trodAll_nil r1
  obtain rfl : args = #[v0, v1] := by cases args; simp_all
  obtain ⟨rfl, rfl⟩ := trodVars_none hV
  have k0 := h0
  have lt0 : ∀ x ∈ p0, x.block < W.heap.size := by obtain ⟨m, hm⟩ := k0; exact DataW.trod_lt m _ _ _ hm
  obtain ⟨a0, len0, cap0, rfl⟩ := okWide_slice Try.underlying22 (hval 0 22 v0 rfl rfl)
  obtain ⟨l0, w0⟩ := inChanges_of (fun _ => rfl) h0
  have k1 := h1
  have lt1 : ∀ x ∈ p1, x.block < W.heap.size := by obtain ⟨m, hm⟩ := k1; exact DataW.trod_lt m _ _ _ hm
  obtain ⟨a1, len1, cap1, rfl⟩ := okWide_slice Try.underlying23 (hval 1 23 v1 rfl rfl)
  obtain ⟨l1, w1⟩ := inBytes_of (fun _ => rfl) h1
  clear hA0 hval0
  refine (codeRecord_walk W a0 len0 cap0 l0 w0 a1 len1 cap1 l1 w1).mono fun e W' ⟨he, bel⟩ => ?_
  subst he
  exact ⟨_, rfl, _, _, _, [], _, [], hW', trodAll_mk1 (shut_bool Try.underlying4 _), (trodAll_cons_mk (Below.trod laidOut_all (by kernel_rfl) (of_decide_eq_true (by kernel_rfl)) k0 bel lt0) (trodAll_cons_mk (Below.trod laidOut_all (by kernel_rfl) (of_decide_eq_true (by kernel_rfl)) k1 bel lt1) trodAll_mk0)), rfl, bel.frame _, fun h => by cases h⟩

theorem codeRecord_proved : Rows.CodeRecordSaid :=
  OpenClaim.holds_of_wide 3 Try.f3 rfl rfl rfl rfl rfl rfl rfl ⟨rfl, rfl, rfl, rfl, rfl⟩ rfl rfl rfl rfl rfl (by kernel_rfl) Try.func3 (by kernel_rfl)
    (of_decide_eq_true (by kernel_rfl)) (by unfold Func.isWrapper; first | (rw [if_pos (by decide +kernel)]; kernel_rfl) | (rw [if_neg (by decide +kernel)]; exact ⟨rfl, rfl⟩))
    (fun os started H enc _ => codeRecord_lifted os started H enc)
#print axioms codeRecord_proved
end Go.Proofs.Ythdfomcikdjkpab

