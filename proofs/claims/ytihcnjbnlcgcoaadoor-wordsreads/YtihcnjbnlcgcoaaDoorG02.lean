/-
  Several texts in one: WqF, WqG.
-/
import Derived.Test.YtihcnjbnlcgcoaaDoorWqE
import Derived.Test.YtihcnjbnlcgcoaaDoorG01
/-
  The document's answer of one line, walked.
-/
namespace Go.Proofs.YtihcnjbnlcgcoaaDoor
open Go.Proofs.YtihcnjbnlcgcoaaDoor.It
open Go.RowKit
set_option linter.unusedSimpArgs false
set_option linter.unusedVariables false
set_option maxRecDepth 100000

theorem ans_if {O : Option An} {a : An} {b : Bool} (h : O = if b = true then some a else none) : (b = true ∧ O = some a) ∨ (b = false ∧ O = none) := by
  cases b
  · exact .inr ⟨rfl, h⟩
  · exact .inl ⟨rfl, h⟩
theorem AnsR.mk2 {w w' : World} {O : Option An} (a : An) (b : Bool) (h : O = if b = true then some a else none) (hb : Below w.heap.size w w') : AnsR w w' O (.returned (.tuple #[.agg #[.int .u8 a.kind, .int .u8 a.of_, .int .u8 a.rk, .slice none 0 0, .int .u64 a.num, .bool a.yes, .string a.key], .bool b])) :=
  ⟨⟨a, b, rfl, ans_if h⟩, hb⟩
theorem lw_snd {s h0 x : ByteArray} {t : List ByteArray} (h : lw (bl s) = h0 :: x :: t) : x.size ≤ s.size := by
  have e := congrArg List.length (lw_two h)
  rw [joinW_cons, List.length_append, List.length_cons, List.length_append, bl_len, bl_len, bl_len] at e
  omega
theorem cand_S {a : An} {S C : ByteArray} (h : bl S ++ [13, 10] = a.lines) (h2 : a.lines = bl C ++ [13, 10]) : S = C := by
  rw [h2] at h
  exact bl_inj (List.append_cancel_right h)
theorem num_six (x : ByteArray) : numU 18446744073709551615 x = ((isNum (bl x) && decide ((numV (bl x) : Int) ≤ 18446744073709551615)) && true) := by
  unfold numU
  rw [Bool.and_true]
  congr 1
  exact decide_eq_decide.2 (by omega)
theorem num_ten (x : ByteArray) : numU 8 x = ((isNum (bl x) && decide ((numV (bl x) : Int) ≤ 18446744073709551615)) && (false || decide ((numV (bl x) : Int) ≤ 8))) := by
  unfold numU
  rw [Bool.false_or, Bool.and_assoc]
  congr 1
  rw [← Bool.decide_and]
  exact decide_eq_decide.2 (by omega)
set_option maxHeartbeats 8000000 in
theorem rone15_any (s : ByteArray) (hs : s.size ≤ 600) (of_ : Int) (V : World) :
    Calls Tryd.prog 36 #[.string s, .int .u8 of_] V fun e V' => AnsR V V' (qone of_ s) e := by
  have mixed : Tryd.prog.follows .mixedOrders = true := by kernel_rfl
  obtain ⟨W, hW⟩ : ∃ W, W = V.alloc (.cells #[.int .u8 0, .int .u8 0, .int .u8 0, .slice none 0 0, .int .u64 0, .bool false, .string ⟨#[]⟩] 27) := ⟨_, rfl⟩
  have hB0 : Below V.heap.size V W := by rw [hW]; exact g_alloc _ _
  have HB : Hid (Below V.heap.size V W) := hB0
  have HX : Hid (GBx W V.heap.size anz) := by rw [hW]; exact GBx.made V anz _
  have HCW := Hid.mk2 (fun V => rcut14_any s (by omega) V)
  have HWD := Hid.mk2 (fun k h0 h1 V => rword15_any k h0 h1 V)
  have HRO := Hid.mk2 (fun h0 h1 V => rrow15_any of_ h0 h1 V)
  have HCO := Hid.mk2 (fun V => rcounts15_any of_ V)
  have HSZ := Hid.mk2 hs
  obtain ⟨l, hl⟩ : ∃ l, l = lw (bl s) := ⟨_, rfl⟩
  have HL := Hid.mk2 hl.symm
  have hne : l ≠ [] := by rw [hl]; exact lw_ne _
  have hlm : (l.length : Int) ≤ 601 := by have := qlw_len (bl s); rw [bl_len] at this; rw [hl]; omega
  rw [← hl] at HCW
  obtain ⟨KN, hKN⟩ : ∃ b, b = isCmd of_ := ⟨_, rfl⟩
  have HKN := Hid.mk2 hKN
  have HWO : Hid (∀ k : Int, 2 ≤ k → k ≤ 7 → s = resW k → qone of_ s = if KN = true then some ⟨1, of_, k, [], 0, false, ⟨#[]⟩⟩ else none) := fun k h2 h7 e => by rw [e, hKN]; exact qone_word of_ k h2 h7
  obtain ⟨O, hO⟩ : ∃ O, O = qone of_ s := ⟨_, rfl⟩
  rw [← hO] at HWO ⊢
  have HO := Hid.mk2 hO
  obtain ⟨N, hN⟩ : ∃ N, N = l.length := ⟨_, rfl⟩
  have HN := Hid.mk2 hN
  have hN1 : 0 < N := by rw [hN]; exact List.length_pos_iff.2 hne
  have HNE := Hid.mk2 hne
  rw [← hN] at HCW hlm
  clear hO hl hKN hB0 hN hne hs
  go_enter Tryd.func36, Tryd.ntmps36
  go_upto_region 1 with (fail)
  rw [← hW]
  clear hW
  go_upto_region 2 with (go_at_call 35; refine (HCW.out _).mono ?_; rintro e w1 ⟨⟨ao, cap, rfl, hr1⟩, hb1⟩; have HR1 := Hid.mk2 hr1; have HB1 := Hid.mk2 (g_on HB.out hb1); have HX1 := Hid.mk2 (HX.out.below hb1); clear hr1 hb1)
  go_cut [7] from 17 to 22 (fun s7 wx => s7 = .bool KN ∧ w1 = wx)
  case first =>
    have h := HKN.out
    unfold isCmd at h
    by_cases h1 : 1 ≤ of_
    · by_cases h2 : of_ ≤ 11
      · have e : KN = true := by rw [h]; simp [h1, h2]
        subst e
        clear h
        go_wp2
        go_meet
        case rel => exact ⟨by first | rfl | simp, rfl⟩
      · have e : KN = false := by rw [h]; simp [h1, h2]
        subst e
        clear h
        go_wp2
        go_meet
        case rel => exact ⟨by first | rfl | simp, rfl⟩
    · have e : KN = false := by rw [h]; simp [h1]
      subst e
      clear h
      go_wp2
      go_meet
      case rel => exact ⟨by first | rfl | simp, rfl⟩
  case rest =>
    rename_i hK
    refine hK _ _ ?_
    clear hK
    obtain ⟨rfl, rfl⟩ := hcut
    go_wp2
    go_loopw [8] (fun s8 wr => ∃ k : Int, 2 ≤ k ∧ k ≤ 8 ∧ s8 = .int .u8 k ∧ Hid (Below w1.heap.size w1 wr) ∧ Hid (∀ j : Int, 2 ≤ j → j < k → s ≠ resW j)) (fun s8 _ => 8 - (intOf s8).toNat)
    case atStart => exact ⟨2, by decide, by decide, rfl, Below.refl _ _, fun j h1 h2 => absurd h2 (by omega)⟩
    case round =>
      obtain ⟨k, hk2, hk8, rfl, HBr, HNO⟩ := hrel
      by_cases hk7 : k ≤ 7
      · have HWK := Hid.mk2 (fun V => HWD.out k (by omega) (by omega) V)
        have HEK := Hid.mk2 (HWO.out k hk2 hk7)
        have HNX : Hid (s ≠ resW k → ∀ j : Int, 2 ≤ j → j < k + 1 → s ≠ resW j) := fun h j h2 h3 => by
          by_cases e : j = k
          · subst e; exact h
          · exact HNO.out j h2 (by omega)
        obtain ⟨RW, hRW⟩ : ∃ R, R = resW k := ⟨_, rfl⟩
        rw [← hRW] at HWK HEK HNX
        clear hRW
        by_cases he : s = RW
        · have q0 : (s.toList == RW.toList) = true := by rw [he]; simp
          have HE := Hid.mk2 (HEK.out he)
          clear he HEK HNX HNO HCW HWD HWO
          go_wp2_with (go_at_call 53; refine (HWK.out _).mono ?_; rintro e w2 ⟨rfl, hb2⟩; have HB2 := Hid.mk2 (g_on HBr.out hb2); have HX2 := Hid.mk2 (HX1.out.below HB2.out); have z0 := HX2.out.c 0 (by simp [anz]); have z1 := HX2.out.c 1 (by simp [anz]); have z2 := HX2.out.c 2 (by simp [anz]); have z3 := HX2.out.c 3 (by simp [anz]); have z4 := HX2.out.c 4 (by simp [anz]); have z5 := HX2.out.c 5 (by simp [anz]); have z6 := HX2.out.c 6 (by simp [anz]); simp only [anz, List.getElem_cons_zero, List.getElem_cons_succ] at z0 z1 z2 z3 z4 z5 z6; have zf0 := HX2.out.f 0; have zf1 := HX2.out.f 1; have zf2 := HX2.out.f 2; have zf3 := HX2.out.f 3; have zf4 := HX2.out.f 4; have zf5 := HX2.out.f 5; have zf6 := HX2.out.f 6; clear hb2)
          refine bodyPost_ret (res_cell rfl rfl (load_var (zset7 HX2.out rfl _ _ _ _ _ _ _) 27 _ Tryd.underlying27 rfl answer_info)) rfl ?_
          exact AnsR.mk2 ⟨1, of_, k, [], 0, false, ⟨#[]⟩⟩ KN HE.out (zbelow7 (g_on HB1.out HB2.out) (Nat.le_refl _) _ _ _ _ _ _ _)
        · have q0 : (s.toList == RW.toList) = false := sne_b he
          have HN2 := Hid.mk2 (HNX.out he)
          clear he HEK HNX HNO HCW HWD HWO
          go_wp2_with (go_at_call 53; refine (HWK.out _).mono ?_; rintro e w2 ⟨rfl, hb2⟩; have HB2 := Hid.mk2 (g_on HBr.out hb2); clear hb2)
          exact ⟨⟨k + 1, by omega, by omega, by go_num, HB2.out, HN2.out⟩, by simp [intOf]; omega⟩
      · have hk : k = 8 := by omega
        subst hk
        have HFR : Hid (Frw s) := frw_all (fun j h2 h7 => HNO.out j h2 (by omega))
        have HX2 := Hid.mk2 (HX1.out.below HBr.out)
        have HR2 := Hid.mk2 (HR1.out.below HBr.out)
        have HB2 := Hid.mk2 (g_on HB1.out HBr.out)
        obtain ⟨h0, t, hlt⟩ : ∃ h0 t, l = h0 :: t := by cases hq : l with | nil => exact absurd hq HNE.out | cons a b => exact ⟨a, b, rfl⟩
        have HLT : Hid (lw (bl s) = h0 :: t) := by show _ = _; rw [HL.out, hlt]
        have HNT : Hid (N = t.length + 1) := by show _ = _; rw [HN.out, hlt]; rfl
        rw [hlt] at HR2
        clear hlt HNO HWO HWD HCW hk2 hk8 hk7 HN HNE HL HR1
        obtain ⟨b, off, rfl, hbl, hcs⟩ := HR2.out.str (by simp)
        have HCS := Hid.mk2 hcs
        have HBL := Hid.mk2 hbl
        have r0 := hcs 0 (by simp)
        simp only [List.getElem_cons_zero] at r0
        rw [Nat.add_zero] at r0
        clear hcs hbl
        obtain ⟨DW, hDW⟩ : ∃ D, D = doneW of_ := ⟨_, rfl⟩
        have HDW := Hid.mk2 hDW
        have hC : ∃ C : Bool, C = true ↔ (KN = true ∧ of_ ≠ 1 ∧ h0 = DW) := ⟨decide (KN = true ∧ of_ ≠ 1 ∧ h0 = DW), by simp⟩
        obtain ⟨C, hC⟩ := hC
        have HC := Hid.mk2 hC
        clear hC hDW
        go_upto_region 8 with (fail)
        go_cut [48] from 36 to 47 (fun s48 wx => s48 = .bool C ∧ Hid (Below wr.heap.size wr wx))
        case first =>
          have d0 : ∀ p : Beh wr, _ := cell_beh (a := ⟨b, off, none⟩) HBL.out r0
          have hcc := HC.out
          have hkk := HKN.out
          have hdd := HDW.out
          cases KN with
          | false =>
            have e : C = false := by cases C with | false => rfl | true => exact absurd (hcc.1 rfl).1 (by decide)
            subst e
            clear hcc hkk hdd
            refine wp_region_quiet_beh (by assumption) (by kernel_rfl) ?_
            repeat (first | go_big_quiet_skip | (quiet_step (first | fail)))
            refine wpQuiet_nil ?_
            intro w7 hw'
            obtain ⟨⟨wq, hq7⟩, hw''⟩ := hw'
            subst hw''
            clear d0
            go_wp2
            go_meet
            case rel => exact ⟨by first | rfl | simp, hq7⟩
          | true =>
            by_cases h1 : of_ = 1
            · have e : C = false := by cases C with | false => rfl | true => exact absurd h1 (hcc.1 rfl).2.1
              subst e
              have q1 : (of_ != 1) = false := by rw [h1]; rfl
              clear hcc hkk hdd h1
              refine wp_region_quiet_beh (by assumption) (by kernel_rfl) ?_
              repeat (first | go_big_quiet_skip | (quiet_step (first | fail)))
              refine wpQuiet_nil ?_
              intro w7 hw'
              obtain ⟨⟨wq, hq7⟩, hw''⟩ := hw'
              subst hw''
              clear d0
              go_wp2
              go_meet
              case rel => exact ⟨by first | rfl | simp, hq7⟩
            · have q1 : (of_ != 1) = true := by simpa using h1
              have hof : 1 ≤ of_ ∧ of_ ≤ 11 := by unfold isCmd at hkk; simp at hkk; exact hkk
              have HR := Hid.mk2 (fun V => HRO.out (by omega) (by omega) V)
              rw [rowW_ok of_ hof.1, ← hdd] at HR
              have e : (h0.toList == DW.toList) = C := by
                by_cases e : h0 = DW
                · rw [hcc.2 ⟨rfl, h1, e⟩, e]; simp
                · have : C = false := by cases C with | false => rfl | true => exact absurd (hcc.1 rfl).2.2 e
                  rw [this]; exact sne_b e
              clear hcc hkk hdd h1 hof
              refine wp_region_quiet_beh (by assumption) (by kernel_rfl) ?_
              repeat (first | go_big_quiet_skip | (quiet_step (first | (go_at_call 55; exact Calls.beh_of (HR.out _)))))
              refine wpQuiet_nil ?_
              intro w7 hw'
              obtain ⟨⟨wq, hq7⟩, hw''⟩ := hw'
              subst hw''
              clear d0
              go_wp2
              go_meet
              case rel => exact ⟨by first | rfl | simp, hq7⟩
        case rest =>
          rename_i hK
          refine hK _ _ ?_
          clear hK
          obtain ⟨rfl, HBx⟩ := hcut
          have HX3 := Hid.mk2 (HX2.out.below HBx.out)
          have HB3 := Hid.mk2 (g_on HB2.out HBx.out)
          have HRS := Hid.mk2 (HR2.out.below HBx.out)
          obtain ⟨b2, off2, hbo, hbl3, hcs3⟩ := HRS.out.str (by simp)
          have e1 : b = b2 := by have := congrArg Addr.block (Option.some.inj hbo); exact this
          have e2 : off = off2 := by have := congrArg Addr.off (Option.some.inj hbo); exact this
          subst e1 e2
          have HC3 := Hid.mk2 hcs3
          have r0 := hcs3 0 (by simp)
          simp only [List.getElem_cons_zero] at r0
          rw [Nat.add_zero] at r0
          clear hcs3 hbo HCS HBL HR2 HX2 HB2 HX1 HB1
          cases C with
          | true =>
            obtain ⟨hkn, hof1, hd⟩ := HC.out.1 rfl
            have hcm := HKN.out
            rw [hkn] at hcm
            have HQ : Hid (O = match doneOf of_ s with | none => none | some (rk, n) => some ⟨1, of_, rk, [], n, false, ⟨#[]⟩⟩) := HO.out.trans (qone_row hcm.symm hof1 (by rw [HLT.out, hd, HDW.out]))
            have HLT2 : Hid (lw (bl s) = doneW of_ :: t) := by show _ = _; rw [HLT.out, hd, HDW.out]
            clear hkn hof1 hd hcm HKN HC HRO HDW HFR HO HLT
            go_upto_region 10 with (fail)
            obtain ⟨W5, hW5⟩ : ∃ W5, W5 = wc.alloc (.cells #[.int .u8 1, .int .u8 of_, .int .u8 1, .slice none 0 0, .int .u64 0, .bool false, .string ⟨#[]⟩] 27) := ⟨_, rfl⟩
            have HX5 : Hid (GBx W5 V.heap.size anz) := by rw [hW5]; exact HX3.out.alloc _
            have HY5 : Hid (GBx W5 wc.heap.size [.int .u8 1, .int .u8 of_, .int .u8 1, .slice none 0 0, .int .u64 0, .bool false, .string ⟨#[]⟩]) := by rw [hW5]; exact GBx.made wc [.int .u8 1, .int .u8 of_, .int .u8 1, .slice none 0 0, .int .u64 0, .bool false, .string ⟨#[]⟩] _
            have HB5 : Hid (Below V.heap.size V W5) := by rw [hW5]; exact g_on HB3.out (g_alloc _ _)
            have HS5 := Hid.mk2 (HRS.out.below (show Below wc.heap.size wc W5 by rw [hW5]; exact g_alloc _ _))
            rw [← hW5]
            have hVY : V.heap.size < wc.heap.size := HX3.out.lt
            clear hW5
            obtain ⟨Y, hY⟩ : ∃ Y, Y = wc.heap.size := ⟨_, rfl⟩
            rw [← hY] at HY5 hVY ⊢
            clear hY r0
            have z0 := HX5.out.c 0 (by simp [anz]); have z1 := HX5.out.c 1 (by simp [anz]); have z2 := HX5.out.c 2 (by simp [anz]); have z3 := HX5.out.c 3 (by simp [anz]); have z4 := HX5.out.c 4 (by simp [anz]); have z5 := HX5.out.c 5 (by simp [anz]); have z6 := HX5.out.c 6 (by simp [anz]); simp only [anz, List.getElem_cons_zero, List.getElem_cons_succ] at z0 z1 z2 z3 z4 z5 z6; have zf0 := HX5.out.f 0; have zf1 := HX5.out.f 1; have zf2 := HX5.out.f 2; have zf3 := HX5.out.f 3; have zf4 := HX5.out.f 4; have zf5 := HX5.out.f 5; have zf6 := HX5.out.f 6
            have y0 := HY5.out.c 0 (by simp)
            have y1 := HY5.out.c 1 (by simp)
            have y2 := HY5.out.c 2 (by simp)
            have y3 := HY5.out.c 3 (by simp)
            have y4 := HY5.out.c 4 (by simp)
            have y5 := HY5.out.c 5 (by simp)
            have y6 := HY5.out.c 6 (by simp)
            simp only [List.getElem_cons_zero, List.getElem_cons_succ] at y0 y1 y2 y3 y4 y5 y6
            have yf4 := HY5.out.f 4
            obtain ⟨MC, hMC⟩ : ∃ b, b = mcnt of_ := ⟨_, rfl⟩
            rw [← hMC] at HCO
            cases MC with
            | false =>
              have hm0 : mostN of_ = 0 := by
                have h := mcnt_none of_ hMC.symm
                unfold mostN at h ⊢
                split <;> rename_i h6
                · rw [if_pos h6] at h; exact absurd (by decide) h
                · rw [if_neg h6] at h; split <;> rename_i h7
                  · rw [if_pos h7] at h; exact absurd (by decide) h
                  · rfl
              have HD := HQ.out
              rw [doneOf_plain hm0 HLT2.out] at HD
              by_cases h1 : N = 1
              · have q1 : ((N : Int) == 1) = true := by rw [h1]; rfl
                have ht : t = [] := List.eq_nil_of_length_eq_zero (by have := HNT.out; omega)
                rw [if_pos ht] at HD
                have HD2 := Hid.mk2 HD
                clear HD hm0 ht h1 hMC HQ
                go_wp2_with (go_at_call 50; refine (HCO.out _).mono ?_; rintro e w6 ⟨rfl, hw6⟩; replace hw6 := hw6.symm; subst hw6)
                refine bodyPost_ret (res_cell rfl rfl (load_var (zset7 HX5.out rfl _ _ _ _ _ _ _) 27 _ Tryd.underlying27 rfl answer_info)) rfl ?_
                exact AnsR.mk2 ⟨1, of_, 1, [], 0, false, ⟨#[]⟩⟩ true HD2.out (zbelow7 HB5.out (Nat.le_refl _) _ _ _ _ _ _ _)
              · have q1 : ((N : Int) == 1) = false := beq_eq_false_iff_ne.2 (by omega)
                have ht : ¬ t = [] := fun e => h1 (by have := HNT.out; rw [e] at this; simpa using this)
                rw [if_neg ht] at HD
                have HD2 := Hid.mk2 HD
                clear HD hm0 ht h1 hMC HQ
                go_wp2_with (go_at_call 50; refine (HCO.out _).mono ?_; rintro e w6 ⟨rfl, hw6⟩; replace hw6 := hw6.symm; subst hw6)
                refine bodyPost_ret (res_cell rfl rfl (load_var (zset7 HX5.out rfl _ _ _ _ _ _ _) 27 _ Tryd.underlying27 rfl answer_info)) rfl ?_
                exact AnsR.mk2 ⟨1, of_, 1, [], 0, false, ⟨#[]⟩⟩ false HD2.out (zbelow7 HB5.out (Nat.le_refl _) _ _ _ _ _ _ _)
            | true =>
              have hm0 : mostN of_ ≠ 0 := by have := mcnt_most of_ hMC.symm; omega
              by_cases h2 : N = 2
              case neg =>
                have q2 : ((N : Int) != 2) = true := by simp; omega
                have HD := HQ.out
                rw [doneOf_bad hm0 HLT2.out (by have := HNT.out; omega)] at HD
                have HD2 := Hid.mk2 HD
                clear HD hm0 h2 hMC HQ
                go_wp2_with (go_at_call 50; refine (HCO.out _).mono ?_; rintro e w6 ⟨rfl, hw6⟩; replace hw6 := hw6.symm; subst hw6)
                refine bodyPost_ret (res_cell rfl rfl (load_var (zset7 HX5.out rfl _ _ _ _ _ _ _) 27 _ Tryd.underlying27 rfl answer_info)) rfl ?_
                exact AnsR.mk2 ⟨1, of_, 1, [], 0, false, ⟨#[]⟩⟩ false HD2.out (zbelow7 HB5.out (Nat.le_refl _) _ _ _ _ _ _ _)
              obtain ⟨x, hx⟩ : ∃ x, t = [x] := by
                have := HNT.out
                match t, this with
                | [x], _ => exact ⟨x, rfl⟩
                | [], h => simp at h; omega
                | _ :: _ :: _, h => simp at h; omega
              subst hx
              subst h2
              have q2 : (((2 : Nat) : Int) != 2) = false := by decide
              have HNX := Hid.mk2 (fun V => rnum15_any x 18446744073709551615 V)
              have HF : Hid (∀ bb : Bool, bb = ((isNum (bl x) && decide ((numV (bl x) : Int) ≤ 18446744073709551615)) && (of_ != 10 || decide ((numV (bl x) : Int) ≤ 8))) → O = if bb = true then some ⟨1, of_, 1, [], (numV (bl x) : Int), false, ⟨#[]⟩⟩ else none) := by
                intro bb hbb
                have e : numU (mostN of_).toNat x = bb := by
                  have hc : of_ = 6 ∨ of_ = 7 ∨ of_ = 10 := by
                    have h := hMC.symm
                    unfold mcnt at h
                    simp at h
                    omega
                  rw [hbb]
                  rcases hc with rfl | rfl | rfl
                  · exact num_six x
                  · exact num_six x
                  · exact num_ten x
                rw [HQ.out, doneOf_num hm0 HLT2.out, e]
                cases bb <;> rfl
              obtain ⟨b5, off5, hbo, hbl5, hcs5⟩ := HS5.out.str (by simp)
              have e1 : b = b5 := by have := congrArg Addr.block (Option.some.inj hbo); exact this
              have e2 : off = off5 := by have := congrArg Addr.off (Option.some.inj hbo); exact this
              subst e1 e2
              have r1 := hcs5 1 (by simp)
              simp only [List.getElem_cons_zero, List.getElem_cons_succ] at r1
              clear hcs5 hbo hMC hm0
              generalize (numV (bl x) : Int) = NV at HNX HF
              generalize (isNum (bl x) && decide (NV ≤ 18446744073709551615)) = IB at HNX HF
              go_upto_region 16 with (first
                | (go_at_call 50; refine (HCO.out _).mono ?_; rintro e w6 ⟨rfl, hw6⟩; replace hw6 := hw6.symm; subst hw6)
                | (go_at_call 58; refine (HNX.out _).mono ?_; rintro e w6 ⟨rfl, hw6⟩; replace hw6 := hw6.symm; subst hw6))
              obtain ⟨W6, hW6⟩ : ∃ W6, W6 = W5.setCell ⟨Y, 4, none⟩ (.int .u64 NV) := ⟨_, rfl⟩
              have HX6 : Hid (GBx W6 V.heap.size anz) := by rw [hW6]; exact HX5.out.other 4 _ (by omega)
              have HY6 : Hid (GBx W6 Y [.int .u8 1, .int .u8 of_, .int .u8 1, .slice none 0 0, .int .u64 NV, .bool false, .string ⟨#[]⟩]) := by rw [hW6]; exact HY5.out.set 4 _ (by simp)
              have HB6 : Hid (Below V.heap.size V W6) := by rw [hW6]; exact HB5.out.setCell (p := ⟨Y, 4, none⟩) (by show _ ≤ Y; omega) _
              rw [← hW6]
              clear hW6 z0 z1 z2 z3 z4 z5 z6 zf0 zf1 zf2 zf3 zf4 zf5 zf6 y0 y1 y2 y3 y4 y5 y6 yf4 r1
              have z0 := HX6.out.c 0 (by simp [anz]); have z1 := HX6.out.c 1 (by simp [anz]); have z2 := HX6.out.c 2 (by simp [anz]); have z3 := HX6.out.c 3 (by simp [anz]); have z4 := HX6.out.c 4 (by simp [anz]); have z5 := HX6.out.c 5 (by simp [anz]); have z6 := HX6.out.c 6 (by simp [anz]); simp only [anz, List.getElem_cons_zero, List.getElem_cons_succ] at z0 z1 z2 z3 z4 z5 z6; have zf0 := HX6.out.f 0; have zf1 := HX6.out.f 1; have zf2 := HX6.out.f 2; have zf3 := HX6.out.f 3; have zf4 := HX6.out.f 4; have zf5 := HX6.out.f 5; have zf6 := HX6.out.f 6
              have y0 := HY6.out.c 0 (by simp)
              have y1 := HY6.out.c 1 (by simp)
              have y2 := HY6.out.c 2 (by simp)
              have y3 := HY6.out.c 3 (by simp)
              have y4 := HY6.out.c 4 (by simp)
              have y5 := HY6.out.c 5 (by simp)
              have y6 := HY6.out.c 6 (by simp)
              simp only [List.getElem_cons_zero, List.getElem_cons_succ] at y0 y1 y2 y3 y4 y5 y6
              cases IB with
              | false =>
                have HF2 := Hid.mk2 (HF.out false rfl)
                clear HF
                go_wp2
                refine bodyPost_ret (res_cell rfl rfl (load_var (zset7 HX6.out rfl _ _ _ _ _ _ _) 27 _ Tryd.underlying27 rfl answer_info)) rfl ?_
                exact AnsR.mk2 ⟨1, of_, 1, [], NV, false, ⟨#[]⟩⟩ false HF2.out (zbelow7 HB6.out (Nat.le_refl _) _ _ _ _ _ _ _)
              | true =>
                by_cases h10 : of_ = 10
                · have q10 : (of_ != 10) = false := by rw [h10]; rfl
                  by_cases h8 : NV ≤ 8
                  · have HF2 := Hid.mk2 (HF.out true (by rw [q10, decide_eq_true h8]; rfl))
                    clear HF h10
                    go_wp2
                    refine bodyPost_ret (res_cell rfl rfl (load_var (zset7 HX6.out rfl _ _ _ _ _ _ _) 27 _ Tryd.underlying27 rfl answer_info)) rfl ?_
                    exact AnsR.mk2 ⟨1, of_, 1, [], NV, false, ⟨#[]⟩⟩ true HF2.out (zbelow7 HB6.out (Nat.le_refl _) _ _ _ _ _ _ _)
                  · have HF2 := Hid.mk2 (HF.out false (by rw [q10, decide_eq_false h8]; rfl))
                    clear HF h10
                    go_wp2
                    refine bodyPost_ret (res_cell rfl rfl (load_var (zset7 HX6.out rfl _ _ _ _ _ _ _) 27 _ Tryd.underlying27 rfl answer_info)) rfl ?_
                    exact AnsR.mk2 ⟨1, of_, 1, [], NV, false, ⟨#[]⟩⟩ false HF2.out (zbelow7 HB6.out (Nat.le_refl _) _ _ _ _ _ _ _)
                · have q10 : (of_ != 10) = true := by simpa using h10
                  have HF2 := Hid.mk2 (HF.out true (by rw [q10]; rfl))
                  clear HF h10
                  go_wp2
                  refine bodyPost_ret (res_cell rfl rfl (load_var (zset7 HX6.out rfl _ _ _ _ _ _ _) 27 _ Tryd.underlying27 rfl answer_info)) rfl ?_
                  exact AnsR.mk2 ⟨1, of_, 1, [], NV, false, ⟨#[]⟩⟩ true HF2.out (zbelow7 HB6.out (Nat.le_refl _) _ _ _ _ _ _ _)
          | false =>
            have HND : Hid (isCmd of_ = true → of_ ≠ 1 → h0 ≠ doneW of_) := fun h1 h2 h3 => by
              have := HC.out.2 ⟨by rw [HKN.out]; exact h1, h2, by rw [HDW.out]; exact h3⟩
              cases this
            clear HC HKN HDW HRO HCO
            by_cases hp : h0 = sPUSH
            · have qp : (h0.toList == [80, 85, 83, 72]) = true := seq_l hp
              subst hp
              by_cases h2 : N = 2
              case neg =>
                have q2 : ((N : Int) != 2) = true := by simp; omega
                have HE : Hid (O = none) := HO.out.trans (qone_pbad HLT.out (by have := HNT.out; omega))
                have z0 := HX3.out.c 0 (by simp [anz]); have z1 := HX3.out.c 1 (by simp [anz]); have z2 := HX3.out.c 2 (by simp [anz]); have z3 := HX3.out.c 3 (by simp [anz]); have z4 := HX3.out.c 4 (by simp [anz]); have z5 := HX3.out.c 5 (by simp [anz]); have z6 := HX3.out.c 6 (by simp [anz]); simp only [anz, List.getElem_cons_zero, List.getElem_cons_succ] at z0 z1 z2 z3 z4 z5 z6; have zf0 := HX3.out.f 0; have zf1 := HX3.out.f 1; have zf2 := HX3.out.f 2; have zf3 := HX3.out.f 3; have zf4 := HX3.out.f 4; have zf5 := HX3.out.f 5; have zf6 := HX3.out.f 6
                clear h2 HO HLT HNT HFR HND
                go_wp2
                refine bodyPost_ret (res_cell rfl rfl (load_var (zset7 HX3.out rfl _ _ _ _ _ _ _) 27 _ Tryd.underlying27 rfl answer_info)) rfl ?_
                exact AnsR.mk2 az false HE.out (zbelow7 HB3.out (Nat.le_refl _) _ _ _ _ _ _ _)
              obtain ⟨x, hx⟩ : ∃ x, t = [x] := by
                have := HNT.out
                match t, this with
                | [x], _ => exact ⟨x, rfl⟩
                | [], h => simp at h; omega
                | _ :: _ :: _, h => simp at h; omega
              subst hx
              subst h2
              have q2 : (((2 : Nat) : Int) != 2) = false := by decide
              have r1 := HC3.out 1 (by simp)
              simp only [List.getElem_cons_zero, List.getElem_cons_succ] at r1
              have HPL := Hid.mk2 (fun V => plain_any x 32 (by have h1 := lw_snd HLT.out; have h2 := HSZ.out; have e : maxLen = 9223372036854775807 := rfl; omega) (by decide) V)
              have HE : Hid (O = if wordOk x 32 = true then some { az with kind := 7, key := x } else none) := HO.out.trans (qone_push HLT.out)
              obtain ⟨PB, hPB⟩ : ∃ b, b = wordOk x 32 := ⟨_, rfl⟩
              rw [← hPB] at HPL HE
              have z0 := HX3.out.c 0 (by simp [anz]); have z1 := HX3.out.c 1 (by simp [anz]); have z2 := HX3.out.c 2 (by simp [anz]); have z3 := HX3.out.c 3 (by simp [anz]); have z4 := HX3.out.c 4 (by simp [anz]); have z5 := HX3.out.c 5 (by simp [anz]); have z6 := HX3.out.c 6 (by simp [anz]); simp only [anz, List.getElem_cons_zero, List.getElem_cons_succ] at z0 z1 z2 z3 z4 z5 z6; have zf0 := HX3.out.f 0; have zf1 := HX3.out.f 1; have zf2 := HX3.out.f 2; have zf3 := HX3.out.f 3; have zf4 := HX3.out.f 4; have zf5 := HX3.out.f 5; have zf6 := HX3.out.f 6
              clear hPB HO HLT HNT HFR HND
              cases PB with
              | false =>
                go_wp2_with (go_at_call 52; refine (HPL.out _).mono ?_; rintro e w6 ⟨rfl, hw6⟩; replace hw6 := hw6.symm; subst hw6)
                refine bodyPost_ret (res_cell rfl rfl (load_var (zset7 HX3.out rfl _ _ _ _ _ _ _) 27 _ Tryd.underlying27 rfl answer_info)) rfl ?_
                exact AnsR.mk2 az false HE.out (zbelow7 HB3.out (Nat.le_refl _) _ _ _ _ _ _ _)
              | true =>
                go_wp2_with (go_at_call 52; refine (HPL.out _).mono ?_; rintro e w6 ⟨rfl, hw6⟩; replace hw6 := hw6.symm; subst hw6)
                refine bodyPost_ret (res_cell rfl rfl (load_var (zset7 HX3.out rfl _ _ _ _ _ _ _) 27 _ Tryd.underlying27 rfl answer_info)) rfl ?_
                exact AnsR.mk2 { az with kind := 7, key := x } true HE.out (zbelow7 HB3.out (Nat.le_refl _) _ _ _ _ _ _ _)
            · have qp : (h0.toList == [80, 85, 83, 72]) = false := sne_l hp
              have HEN : Hid (Fwd s → O = none) := fun hf => HO.out.trans (qone_none HLT.out HFR.out hf hp HND.out)
              have HEH : Hid (∀ k y : Int, 2 ≤ k → k ≤ 6 → 0 ≤ y → y ≤ 1 → (k ≤ 3 ∨ y = 0) → s = candL k y → O = some (cand k y)) := fun k y h1 h2 h3 h4 h5 h6 => by
                rw [HO.out, h6, qone_hit ⟨h1, h2⟩ ⟨h3, h4⟩]
                by_cases h7 : k ≤ 3
                · rw [if_pos h7]
                · rw [if_neg h7, show y = 0 by omega]
              clear hp HO HLT HNT HFR HND HRS HC3 hbl3
              go_wp2
              go_loopw [12, 13, 14] (fun s12 _ _ wr => ∃ k : Int, 2 ≤ k ∧ k ≤ 7 ∧ s12 = .int .u8 k ∧ Hid (Below wc.heap.size wc wr) ∧ Hid (∀ j y : Int, 2 ≤ j → j < k → 0 ≤ y → y ≤ 1 → (j ≤ 3 ∨ y = 0) → s ≠ candL j y)) (fun s12 _ _ _ => 7 - (intOf s12).toNat)
              case atStart => exact ⟨2, by decide, by decide, rfl, Below.refl _ _, fun j y h1 h2 => absurd h2 (by omega)⟩
              case round =>
                obtain ⟨k, hk2, hk7, rfl, HBk, HNK⟩ := hrel
                by_cases hk6 : k ≤ 6
                · go_wp2
                  go_loopw [13, 14] (fun s13 _ wr => ∃ y : Int, 0 ≤ y ∧ y ≤ 2 ∧ s13 = .int .i64 y ∧ Hid (Below wc.heap.size wc wr) ∧ Hid (∀ j z : Int, 2 ≤ j → (j < k ∧ 0 ≤ z ∧ z ≤ 1 ∨ j = k ∧ 0 ≤ z ∧ z < y) → (j ≤ 3 ∨ z = 0) → s ≠ candL j z)) (fun s13 _ _ => 2 - (intOf s13).toNat)
                  case atStart => exact ⟨0, by decide, by decide, rfl, HBk.out, fun j z h1 h2 h3 => HNK.out j z h1 (by omega) (by omega) (by omega) h3⟩
                  case round =>
                    obtain ⟨y, hy0, hy2, rfl, HBy, HNY⟩ := hrel
                    by_cases hy1 : y ≤ 1
                    · have HMA := Hid.mk2 (fun V => rmay15_any (cand k y) none 0 V (GRd.nil _) (show (⟨#[]⟩ : ByteArray).size ≤ maxLen from by decide) (Int.le_refl _) (show (0 : Int) < 18446744073709551616 from by decide))
                      have HLN := Hid.mk2 (fun V h => rlines15_any (cand k y) none 0 V (GRd.nil _) h (cand_hasL k y) (cand_fit k y))
                      have hcl : (cand k y).arr (.slice none (cand k y).items.length 0) = #[.int .u8 k, .int .u8 0, .int .u8 0, .slice none 0 0, .int .u64 0, .bool (y == 1), .string ⟨#[]⟩] := rfl
                      rw [hcl] at HMA HLN
                      have HMB := cand_may (k := k) (y := y) ⟨hk2, hk6⟩ ⟨hy0, hy1⟩
                      have HCL := Hid.mk2 (cand_lines (k := k) (y := y) ⟨hk2, hk6⟩ ⟨hy0, hy1⟩)
                      have HHT := Hid.mk2 (HEH.out k y hk2 hk6 hy0 hy1)
                      have HNN : Hid (((k ≤ 3 ∨ y = 0) → s ≠ candL k y) → ∀ j z : Int, 2 ≤ j → (j < k ∧ 0 ≤ z ∧ z ≤ 1 ∨ j = k ∧ 0 ≤ z ∧ z < y + 1) → (j ≤ 3 ∨ z = 0) → s ≠ candL j z) := fun h j z h1 h2 h3 => by
                        by_cases e : j = k ∧ z = y
                        · obtain ⟨rfl, rfl⟩ := e; exact h h3
                        · exact HNY.out j z h1 (by omega) h3
                      have HCE : Hid (cand k y = ⟨k, 0, 0, [], 0, y == 1, ⟨#[]⟩⟩) := rfl
                      obtain ⟨MB, hMB⟩ : ∃ b, b = (cand k y).may := ⟨_, rfl⟩
                      rw [← hMB] at HMA HLN HMB
                      obtain ⟨YB, hYB⟩ : ∃ b, b = (y == 1) := ⟨_, rfl⟩
                      rw [← hYB] at HMA HLN HCE
                      have HMBB := Hid.mk2 HMB
                      have HYB := Hid.mk2 hYB
                      obtain ⟨CL, hCL⟩ : ∃ c, c = candL k y := ⟨_, rfl⟩
                      rw [← hCL] at HCL HHT HNN
                      clear HMB hcl HNK HEN HEH HNY hMB hYB hCL
                      go_upto_region 28 with (fail)
                      have hyb := HYB.out
                      rw [← hyb]
                      obtain ⟨W7, hW7⟩ : ∃ W7, W7 = wr.alloc (.cells #[.int .u8 k, .int .u8 0, .int .u8 0, .slice none 0 0, .int .u64 0, .bool YB, .string ⟨#[]⟩] 27) := ⟨_, rfl⟩
                      have HY7 : Hid (GBx W7 wr.heap.size [.int .u8 k, .int .u8 0, .int .u8 0, .slice none 0 0, .int .u64 0, .bool YB, .string ⟨#[]⟩]) := by rw [hW7]; exact GBx.made wr [.int .u8 k, .int .u8 0, .int .u8 0, .slice none 0 0, .int .u64 0, .bool YB, .string ⟨#[]⟩] _
                      have HB7 : Hid (Below wc.heap.size wc W7) := by rw [hW7]; exact g_on HBy.out (g_alloc _ _)
                      rw [← hW7]
                      clear hW7 hyb
                      obtain ⟨Y, hY⟩ : ∃ Y, Y = wr.heap.size := ⟨_, rfl⟩
                      rw [← hY] at HY7 ⊢
                      clear hY r0
                      have y0 := HY7.out.c 0 (by simp)
                      have y1 := HY7.out.c 1 (by simp)
                      have y2 := HY7.out.c 2 (by simp)
                      have y3 := HY7.out.c 3 (by simp)
                      have y4 := HY7.out.c 4 (by simp)
                      have y5 := HY7.out.c 5 (by simp)
                      have y6 := HY7.out.c 6 (by simp)
                      simp only [List.getElem_cons_zero, List.getElem_cons_succ] at y0 y1 y2 y3 y4 y5 y6
                      cases MB with
                      | false =>
                        have hno : ¬ (k ≤ 3 ∨ y = 0) := of_decide_eq_false HMBB.out.symm
                        have HN2 := Hid.mk2 (HNN.out (fun h => absurd h hno))
                        clear hno HNN HHT HLN
                        go_wp2_with (go_at_call 29; refine (HMA.out _).mono ?_; rintro e w8 ⟨rfl, hb8⟩; have HB8 := Hid.mk2 (g_on HB7.out hb8); have HY8 := Hid.mk2 (HY7.out.below hb8); have y0 := HY8.out.c 0 (by simp); have y1 := HY8.out.c 1 (by simp); have y2 := HY8.out.c 2 (by simp); have y3 := HY8.out.c 3 (by simp); have y4 := HY8.out.c 4 (by simp); have y5 := HY8.out.c 5 (by simp); have y6 := HY8.out.c 6 (by simp); simp only [List.getElem_cons_zero, List.getElem_cons_succ] at y0 y1 y2 y3 y4 y5 y6; clear hb8)
                        exact ⟨⟨y + 1, by omega, by omega, by go_num, HB8.out, HN2.out⟩, by simp [intOf]; omega⟩
                      | true =>
                        have hyes : k ≤ 3 ∨ y = 0 := of_decide_eq_true HMBB.out.symm
                        by_cases hsc : s = CL
                        · have qs : (CL.toList == s.toList) = true := by rw [hsc]; simp
                          have HE : Hid (O = some ⟨k, 0, 0, [], 0, YB, ⟨#[]⟩⟩) := by show _ = _; rw [HHT.out hyes hsc, HCE.out]
                          clear hyes hsc HNN HHT HCE
                          go_wp2_with (first
                            | (go_at_call 29; refine (HMA.out _).mono ?_; rintro e w8 ⟨rfl, hb8⟩; have HB8 := Hid.mk2 (g_on HB7.out hb8); have HY8 := Hid.mk2 (HY7.out.below hb8); have y0 := HY8.out.c 0 (by simp); have y1 := HY8.out.c 1 (by simp); have y2 := HY8.out.c 2 (by simp); have y3 := HY8.out.c 3 (by simp); have y4 := HY8.out.c 4 (by simp); have y5 := HY8.out.c 5 (by simp); have y6 := HY8.out.c 6 (by simp); simp only [List.getElem_cons_zero, List.getElem_cons_succ] at y0 y1 y2 y3 y4 y5 y6; clear hb8)
                            | (go_at_call 31; refine (HLN.out _ (by first | rfl | trivial)).mono ?_; rintro e w9 ⟨S, rfl, hS, hz, hb9⟩; have hSC : S = CL := cand_S hS HCL.out; subst hSC; have HB9 := Hid.mk2 (g_on HB8.out hb9); have HY9 := Hid.mk2 (HY8.out.below hb9); have HX9 := Hid.mk2 (HX3.out.below HB9.out); clear y0 y1 y2 y3 y4 y5 y6; have y0 := HY9.out.c 0 (by simp); have y1 := HY9.out.c 1 (by simp); have y2 := HY9.out.c 2 (by simp); have y3 := HY9.out.c 3 (by simp); have y4 := HY9.out.c 4 (by simp); have y5 := HY9.out.c 5 (by simp); have y6 := HY9.out.c 6 (by simp); simp only [List.getElem_cons_zero, List.getElem_cons_succ] at y0 y1 y2 y3 y4 y5 y6; have z0 := HX9.out.c 0 (by simp [anz]); have z1 := HX9.out.c 1 (by simp [anz]); have z2 := HX9.out.c 2 (by simp [anz]); have z3 := HX9.out.c 3 (by simp [anz]); have z4 := HX9.out.c 4 (by simp [anz]); have z5 := HX9.out.c 5 (by simp [anz]); have z6 := HX9.out.c 6 (by simp [anz]); simp only [anz, List.getElem_cons_zero, List.getElem_cons_succ] at z0 z1 z2 z3 z4 z5 z6; have zf0 := HX9.out.f 0; have zf1 := HX9.out.f 1; have zf2 := HX9.out.f 2; have zf3 := HX9.out.f 3; have zf4 := HX9.out.f 4; have zf5 := HX9.out.f 5; have zf6 := HX9.out.f 6; clear hb9 hS hz))
                          refine bodyPost_ret (res_cell rfl rfl (load_var (zset7 HX9.out rfl _ _ _ _ _ _ _) 27 _ Tryd.underlying27 rfl answer_info)) rfl ?_
                          exact AnsR.mk2 ⟨k, 0, 0, [], 0, YB, ⟨#[]⟩⟩ true HE.out (zbelow7 (g_on HB3.out HB9.out) (Nat.le_refl _) _ _ _ _ _ _ _)
                        · have qs : (CL.toList == s.toList) = false := sne_b (fun e => hsc e.symm)
                          have HN2 := Hid.mk2 (HNN.out (fun _ => hsc))
                          clear hyes hsc HNN HHT HCE
                          go_wp2_with (first
                            | (go_at_call 29; refine (HMA.out _).mono ?_; rintro e w8 ⟨rfl, hb8⟩; have HB8 := Hid.mk2 (g_on HB7.out hb8); have HY8 := Hid.mk2 (HY7.out.below hb8); have y0 := HY8.out.c 0 (by simp); have y1 := HY8.out.c 1 (by simp); have y2 := HY8.out.c 2 (by simp); have y3 := HY8.out.c 3 (by simp); have y4 := HY8.out.c 4 (by simp); have y5 := HY8.out.c 5 (by simp); have y6 := HY8.out.c 6 (by simp); simp only [List.getElem_cons_zero, List.getElem_cons_succ] at y0 y1 y2 y3 y4 y5 y6; clear hb8)
                            | (go_at_call 31; refine (HLN.out _ (by first | rfl | trivial)).mono ?_; rintro e w9 ⟨S, rfl, hS, hz, hb9⟩; have hSC : S = CL := cand_S hS HCL.out; subst hSC; have HB9 := Hid.mk2 (g_on HB8.out hb9); have HY9 := Hid.mk2 (HY8.out.below hb9); have HX9 := Hid.mk2 (HX3.out.below HB9.out); clear y0 y1 y2 y3 y4 y5 y6; have y0 := HY9.out.c 0 (by simp); have y1 := HY9.out.c 1 (by simp); have y2 := HY9.out.c 2 (by simp); have y3 := HY9.out.c 3 (by simp); have y4 := HY9.out.c 4 (by simp); have y5 := HY9.out.c 5 (by simp); have y6 := HY9.out.c 6 (by simp); simp only [List.getElem_cons_zero, List.getElem_cons_succ] at y0 y1 y2 y3 y4 y5 y6; have z0 := HX9.out.c 0 (by simp [anz]); have z1 := HX9.out.c 1 (by simp [anz]); have z2 := HX9.out.c 2 (by simp [anz]); have z3 := HX9.out.c 3 (by simp [anz]); have z4 := HX9.out.c 4 (by simp [anz]); have z5 := HX9.out.c 5 (by simp [anz]); have z6 := HX9.out.c 6 (by simp [anz]); simp only [anz, List.getElem_cons_zero, List.getElem_cons_succ] at z0 z1 z2 z3 z4 z5 z6; have zf0 := HX9.out.f 0; have zf1 := HX9.out.f 1; have zf2 := HX9.out.f 2; have zf3 := HX9.out.f 3; have zf4 := HX9.out.f 4; have zf5 := HX9.out.f 5; have zf6 := HX9.out.f 6; clear hb9 hS hz))
                          exact ⟨⟨y + 1, by omega, by omega, by go_num, HB9.out, HN2.out⟩, by simp [intOf]; omega⟩
                    · have hy : y = 2 := by omega
                      subst hy
                      have HNM : Hid (∀ j z : Int, 2 ≤ j → j < k + 1 → 0 ≤ z → z ≤ 1 → (j ≤ 3 ∨ z = 0) → s ≠ candL j z) := fun j z h1 h2 h3 h4 h5 => HNY.out j z h1 (by omega) h5
                      clear HEN HEH HNK HNY
                      go_wp2
                      exact ⟨⟨k + 1, by omega, by omega, by go_num, HBy.out, HNM.out⟩, by simp [intOf]; omega⟩
                · have hk : k = 7 := by omega
                  subst hk
                  have HE := Hid.mk2 (HEN.out (fwd_all (fun j y h1 h2 h3 h4 h5 => HNK.out j y h1 (by omega) h3 h4 h5)))
                  have HX4 := Hid.mk2 (HX3.out.below HBk.out)
                  have z0 := HX4.out.c 0 (by simp [anz]); have z1 := HX4.out.c 1 (by simp [anz]); have z2 := HX4.out.c 2 (by simp [anz]); have z3 := HX4.out.c 3 (by simp [anz]); have z4 := HX4.out.c 4 (by simp [anz]); have z5 := HX4.out.c 5 (by simp [anz]); have z6 := HX4.out.c 6 (by simp [anz]); simp only [anz, List.getElem_cons_zero, List.getElem_cons_succ] at z0 z1 z2 z3 z4 z5 z6; have zf0 := HX4.out.f 0; have zf1 := HX4.out.f 1; have zf2 := HX4.out.f 2; have zf3 := HX4.out.f 3; have zf4 := HX4.out.f 4; have zf5 := HX4.out.f 5; have zf6 := HX4.out.f 6
                  clear HEN HEH HNK
                  go_wp2
                  refine bodyPost_ret (res_cell rfl rfl (load_var (zset7 HX4.out rfl _ _ _ _ _ _ _) 27 _ Tryd.underlying27 rfl answer_info)) rfl ?_
                  exact AnsR.mk2 az false HE.out (zbelow7 (g_on HB3.out HBk.out) (Nat.le_refl _) _ _ _ _ _ _ _)
end Go.Proofs.YtihcnjbnlcgcoaaDoor
/-
  The document's Read of answers, as data, against the program's.
-/
namespace Go.Proofs.YtihcnjbnlcgcoaaDoor
open Go.Proofs.YtihcnjbnlcgcoaaDoor.It
open Go.RowKit
set_option linter.unusedSimpArgs false
set_option linter.unusedVariables false
set_option maxRecDepth 100000

theorem qresOf_items {of_ : Int} {s : ByteArray} : ∀ a, (match resOf of_ s with | none => none | some (rk, n) => some (⟨1, of_, rk, [], n, false, ⟨#[]⟩⟩ : An)) = some a → a.items = [] := by
  intro a h
  cases hq : resOf of_ s with
  | none => rw [hq] at h; cases h
  | some p => obtain ⟨rk, n⟩ := p; rw [hq] at h; cases h; rfl
theorem qans_items {of_ : Int} {s : ByteArray} {a : An} (h : ansOf of_ s = some a) : a.items = [] := by
  unfold ansOf at h
  repeat' (split at h)
  all_goals first | (cases h; done) | (cases h; rfl)
theorem qitems_nil {a : An} (h : a.items = []) : { a with items := [] } = a := by cases a; cases h; rfl
theorem qread_none {f : Nat} {L : List Im} {B : List UInt8} {rd : Nat} {of_ : Int} (h : eol (B.take 514) = none) : readN (f + 1) L B rd of_ = (az, 0, if B.length < 514 then 0 else 8) := by
  have e : cutL B = ([], 0, if B.length < 514 then 0 else 8) := by unfold cutL; rw [h]
  show (if (cutL B).2.1 = 0 then (_ : An × Nat × Int) else _) = _
  rw [e]
  exact if_pos rfl
theorem qread_some {f : Nat} {L : List Im} {B : List UInt8} {rd e : Nat} {of_ : Int} (h : eol (B.take 514) = some e) :
    readN (f + 1) L B rd of_ = if (L.length : Int) = mostI of_ ∨ isVal (B.take e) = false then (match lastOf (B.take e) of_ L with | none => ((az, 0, 8) : An × Nat × Int) | some a => (a, rd + (e + 2), 0))
      else if (cutI (B.take e) (B.drop (e + 2))).2.1 = 0 then (az, 0, (cutI (B.take e) (B.drop (e + 2))).2.2)
      else readN f (L ++ [(cutI (B.take e) (B.drop (e + 2))).1]) (B.drop ((e + 2) + (cutI (B.take e) (B.drop (e + 2))).2.1)) (rd + (e + 2) + (cutI (B.take e) (B.drop (e + 2))).2.1) of_ := by
  have e0 : cutL B = (B.take e, e + 2, 0) := by unfold cutL; rw [h]
  show (if (cutL B).2.1 = 0 then (_ : An × Nat × Int) else _) = _
  rw [e0]
  exact if_neg (by simp)
theorem qval_end {l : List UInt8} (h : mkB l = sEND) : isVal l = false := by
  have e : l = bl sEND := by rw [← h, bl_mkB]
  rw [e]
  decide
/-- behind items 'END' is the end -/
theorem qread_end {f : Nat} {L : List Im} {B : List UInt8} {rd e : Nat} (h : eol (B.take 514) = some e) (hs : mkB (B.take e) = sEND) : readN (f + 1) L B rd 1 = (⟨1, 1, 1, L, 0, false, ⟨#[]⟩⟩, rd + (e + 2), 0) := by
  rw [qread_some h, if_pos (.inr (qval_end hs))]
  have e2 : lastOf (B.take e) 1 L = some ⟨1, 1, 1, L, 0, false, ⟨#[]⟩⟩ := by
    unfold lastOf
    rw [hs]
    have e3 : ansOf 1 sEND = some ⟨1, 1, 1, [], 0, false, ⟨#[]⟩⟩ := by rfl
    rw [e3]
    dsimp only
    rw [if_neg (fun q => q.2 rfl)]
  rw [e2]
theorem qlast_else {line : List UInt8} {of_ : Int} {L : List Im} (h1 : ¬ (of_ = 1 ∧ mkB line = sEND)) (hL : of_ ≠ 1 → L = []) : lastOf line of_ L = if L = [] then qone of_ (mkB line) else none := by
  unfold lastOf qone
  rw [if_neg h1]
  by_cases hl : L = []
  · subst hl
    rw [if_pos rfl]
    cases hq : ansOf of_ (mkB line) with
    | none => rfl
    | some a =>
      dsimp only
      rw [if_neg (fun q => q.1 rfl), qitems_nil (qans_items hq)]
  · rw [if_neg hl]
    have ho : of_ = 1 := by
      by_cases h : of_ = 1
      · exact h
      · exact absurd (hL h) hl
    cases hq : ansOf of_ (mkB line) with
    | none => rfl
    | some a =>
      dsimp only
      rw [if_pos ⟨hl, fun e => h1 ⟨ho, e⟩⟩]
theorem qone_val {line : List UInt8} (h : isVal line = true) : qone 1 (mkB line) = none := by
  have e := (isVal_iff line).1 h
  have hl : lw (bl (mkB line)) = sVALUE :: lw (line.drop 6) := by
    rw [bl_mkB]
    conv => lhs; rw [e]
    exact lw_value _
  exact qone_none hl (frw_of hl (by decide)) (fwd_of hl (by decide)) (by decide) (fun _ h => absurd rfl h)
/-- a line that is no item, and not 'END' -/
theorem qread_line {f : Nat} {L : List Im} {B : List UInt8} {rd e : Nat} {of_ : Int} (h : eol (B.take 514) = some e) (h1 : ¬ (of_ = 1 ∧ mkB (B.take e) = sEND)) (hL : of_ ≠ 1 → L = [])
    (hc : of_ ≠ 1 ∨ qitemD (lw (B.take e)) = none ∨ L.length = 8) : readN (f + 1) L B rd of_ = match (if L = [] then qone of_ (mkB (B.take e)) else none) with | none => (az, 0, 8) | some a => (a, rd + (e + 2), 0) := by
  rw [qread_some h, qlast_else h1 hL]
  by_cases hm : (L.length : Int) = mostI of_ ∨ isVal (B.take e) = false
  · rw [if_pos hm]
  · rw [if_neg hm]
    have ho : of_ = 1 := by
      by_cases h : of_ = 1
      · exact h
      · exfalso
        apply hm
        left
        rw [hL h]
        unfold mostI
        rw [if_neg h]
        rfl
    subst ho
    have hv : isVal (B.take e) = true := by
      cases hq : isVal (B.take e) with
      | true => rfl
      | false => exact absurd (.inr hq) hm
    have hn8 : L.length ≠ 8 := fun q => hm (.inl (by rw [q]; rfl))
    have hq : itemW (lw (B.take e)).tail = none := by
      rcases hc with q | q | q
      · exact absurd rfl q
      · rw [qitemD_lw, if_pos hv] at q; exact q
      · exact absurd q hn8
    have hci : cutI (B.take e) (B.drop (e + 2)) = (imz, 0, 8) := by unfold cutI; rw [hq]
    rw [hci, qone_val hv]
    have e9 : (if L = [] then (none : Option An) else none) = none := by split <;> rfl
    rw [e9]
    exact if_pos rfl
/-- a line that is an item -/
theorem qread_item {f : Nat} {L : List Im} {B : List UInt8} {rd e : Nat} {x : Im} {n : Nat} (h : eol (B.take 514) = some e) (h8 : L.length ≠ 8) (hq : qitemD (lw (B.take e)) = some (x, n)) :
    n ≤ 512 ∧ x.value = ⟨#[]⟩ ∧ readN (f + 1) L B rd 1 = if (B.drop (e + 2)).length < n + 2 then (az, 0, 0) else if ((B.drop (e + 2)).drop n).take 2 = [13, 10]
      then readN f (L ++ [{ x with value := mkB ((B.drop (e + 2)).take n) }]) (B.drop ((e + 2) + (n + 2))) (rd + (e + 2) + (n + 2)) 1 else (az, 0, 8) := by
  have hv : isVal (B.take e) = true := by
    cases hq2 : isVal (B.take e) with
    | true => rfl
    | false => rw [qitemD_lw, if_neg (by rw [hq2]; decide)] at hq; cases hq
  rw [qitemD_lw, if_pos hv] at hq
  obtain ⟨k1, k2⟩ := itemW_le hq
  refine ⟨k1, k2, ?_⟩
  rw [qread_some h, if_neg (fun q => q.elim (fun q => h8 (by have e : mostI 1 = 8 := rfl; rw [e] at q; omega)) (fun q => by rw [hv] at q; cases q))]
  have hci : cutI (B.take e) (B.drop (e + 2)) = if (B.drop (e + 2)).length < n + 2 then (imz, 0, 0) else if ((B.drop (e + 2)).drop n).take 2 = [13, 10] then ({ x with value := mkB ((B.drop (e + 2)).take n) }, n + 2, 0) else (imz, 0, 8) := by
    unfold cutI
    rw [hq]
  rw [hci]
  by_cases g1 : (B.drop (e + 2)).length < n + 2
  · rw [if_pos g1, if_pos g1]; exact if_pos rfl
  · rw [if_neg g1, if_neg g1]
    by_cases g2 : ((B.drop (e + 2)).drop n).take 2 = [13, 10]
    · rw [if_pos g2, if_pos g2]; exact if_neg (by simp)
    · rw [if_neg g2, if_neg g2]; exact if_pos rfl
theorem qtwo (B : List UInt8) (k : Nat) (h : k + 1 < B.length) : (B.drop k).take 2 = [B[k], B[k + 1]] := by
  rw [List.drop_eq_getElem_cons (by omega), List.drop_eq_getElem_cons h]
  rfl
theorem eol_514 {B : List UInt8} {e : Nat} (h : eol (B.take 514) = some e) : e ≤ 512 ∧ e + 2 ≤ B.length := by
  obtain ⟨h1, _⟩ := eol_some _ _ h
  rw [List.length_take] at h1
  omega
end Go.Proofs.YtihcnjbnlcgcoaaDoor
