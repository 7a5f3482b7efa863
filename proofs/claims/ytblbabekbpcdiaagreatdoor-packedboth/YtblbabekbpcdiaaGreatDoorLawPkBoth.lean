/-
  PackedBoth: both protocols tell the same: what is read back of an answer's lines, and of its packet, is one answer. Condition: the listed variables (powers of ten, the words of results, utf8's tables among them) are as their texts lay them (the card ties them).
-/
import Derived.Test.YtblbabekbpcdiaaGreatDoorG04
import Derived.Test.YtblbabekbpcdiaaGreatDoorG06
import Derived.Test.YtblbabekbpcdiaaGreatDoorWpV
namespace Go.Proofs.YtblbabekbpcdiaaGreatDoor
open Go.Proofs.YtblbabekbpcdiaaGreatDoor.It
open Go.ChangeShapes Go.WideShapes Go.ChangeAt Go.RowKit
open Go.ChangeMaps (open_string shut_string)
set_option linter.unusedSimpArgs false
set_option linter.unusedVariables false
set_option maxRecDepth 100000

theorem ans_pf {W : World} {a : An} {io : Option Addr} {ic : Nat} (h : AnIn W a io ic) : a.Pf := ⟨h.kind, h.of_, h.rk, h.num, fun x hx => ⟨⟨(h.its x hx).2.1, (h.its x hx).2.2.1⟩, (h.its x hx).2.2.2⟩⟩
set_option maxHeartbeats 4000000 in
theorem packedBoth_walk (w : World) (hv : Vw w) (x : An) (ko : Option Addr) (kc : Nat) (h : AnIn w x ko kc) :
    Calls Tryz.prog 3 #[.agg (x.arr (.slice ko x.items.length kc))] w fun e w' => e = .returned (.bool true) ∧ Below w.heap.size w w' := by
  obtain ⟨W, hW⟩ : ∃ W, W = w.alloc (.cells (x.arr (.slice ko x.items.length kc)) 27) := ⟨_, rfl⟩
  have HB0 : Hid (Below w.heap.size w W) := by rw [hW]; exact g_alloc _ _
  have HX0 : Hid (GBx W w.heap.size (x.cl (.slice ko x.items.length kc))) := by rw [hW]; exact GBx.made w (x.cl _) _
  have HL := Hid.mk2 (fun V (hV : Below w.heap.size w V) => long15_any x ko kc V (h.rd.below hV) h.key (fun y hy => (h.its y hy).1))
  have HA : Hid (∀ V, Calls Tryz.prog 4 #[] V fun e w' => e = .returned (.bool true) ∧ Below V.heap.size V w') := fun V => alive17_any V
  have HW : Hid (∀ V, Below w.heap.size w V → Calls Tryz.prog 6 #[.agg (x.arr (.slice ko x.items.length kc))] V fun e w' => (∃ (ao : Option Addr) (cap : Nat), e = .returned (.tuple #[.slice ao x.wr.length cap, .int .i64 x.wrE]) ∧ GRd EY w' ao x.wr cap) ∧ Below V.heap.size V w') := fun V hV => (wWrite_any x ko kc V (h.rd.below hV) h.key (fun y hy => (h.its y hy).1.1) h.fit ((hv.below hV).tab) ((hv.below hV).rt)).mono fun e w' q => ⟨q.ex, q.below⟩
  have HP : Hid (∀ V, Below w.heap.size w V → Calls Tryz.prog 7 #[.agg (x.arr (.slice ko x.items.length kc))] V fun e w' => (∃ (ao : Option Addr) (cap : Nat), e = .returned (.tuple #[.slice ao x.wp.length cap, .int .i64 x.wpE]) ∧ GRd EY w' ao x.wp cap) ∧ Below V.heap.size V w') := fun V hV => (pwrite_any x ko kc V (h.rd.below hV) h.key (ans_pf h)).mono fun e w' q => ⟨q.ex, q.below⟩
  have HV := Hid.mk2 (fun V (hV : Below w.heap.size w V) => hv.below hV)
  have HWE : Hid (x.wrE = 0 → x.wr.length ≤ 6200 ∧ readW x.wr x.of_ = (x, x.wr.length, 0)) := fun hE => ⟨wr15_len hE h.fit, by have h9 := read_wr hE h.fit []; rw [List.append_nil] at h9; exact h9⟩
  have HPE : Hid (x.wpE = 0 → x.wp.length ≤ 4102 ∧ readQ x.wp = (x, x.wp.length, 0)) := fun hE => ⟨wp_len hE, by have h9 := read_wp hE (ans_pf h) [] (by rw [List.append_nil]; have := wp_len hE; omega); rw [List.append_nil] at h9; exact h9⟩
  obtain ⟨LG, hLG⟩ : ∃ LG, LG = x.lg := ⟨_, rfl⟩
  rw [← hLG] at HL
  obtain ⟨RW, hRW⟩ : ∃ RW, RW = x.wr := ⟨_, rfl⟩
  obtain ⟨RE, hRE⟩ : ∃ RE, RE = x.wrE := ⟨_, rfl⟩
  obtain ⟨PW, hPW⟩ : ∃ RW, RW = x.wp := ⟨_, rfl⟩
  obtain ⟨PE, hPE⟩ : ∃ RE, RE = x.wpE := ⟨_, rfl⟩
  rw [← hRW, ← hRE] at HW HWE
  rw [← hPW, ← hPE] at HP HPE
  obtain ⟨CX, hCX⟩ : ∃ CX, CX = x.cl (.slice ko x.items.length kc) := ⟨_, rfl⟩
  have hAX : x.arr (.slice ko x.items.length kc) = CX.toArray := by rw [hCX]; rfl
  have HCL : Hid (CX.length = 7) := by show _ = _; rw [hCX]; rfl
  have HSC : Hid (∀ V, GBx V w.heap.size CX → V.cell? ⟨w.heap.size, 1, none⟩ = some (.int .u8 x.of_)) := by
    intro V hV
    rw [hCX] at hV
    exact hV.c 1 (by show 1 < 7; omega)
  rw [← hCX] at HX0
  rw [hAX] at hW HW HP HL
  rw [hAX]
  obtain ⟨OF, hOF⟩ : ∃ OF, OF = x.of_ := ⟨_, rfl⟩
  rw [← hOF] at HSC HWE
  clear hLG hRW hRE hPW hPE hCX hAX hOF h hv
  go_enter Tryz.func3, Tryz.ntmps3
  go_upto_region 1 with (fail)
  rw [← hW]
  clear hW
  cases LG
  case true =>
    go_wp2_with (first
      | (go_at_call 4; refine (HA.out _).mono ?_; rintro e w1 ⟨rfl, hb1⟩; have HB1 := Hid.mk2 (g_on HB0.out hb1); have HX1 := Hid.mk2 (HX0.out.below hb1); clear hb1)
      | (go_at_call 5; refine (HL.out _ HB1.out).mono ?_; rintro e w2 ⟨rfl, hb2⟩; have HB2 := Hid.mk2 (g_on HB1.out hb2); have HX2 := Hid.mk2 (HX1.out.below hb2); clear hb2)
      | (refine ywpl_load_g (by first | rfl | simp [Region.wanted, yielded]) 27 _ rfl w.heap.size rfl CX HX1.out _ Tryz.underlying27 rfl (by rw [HCL.out]; kernel_rfl) ?_))
    go_ret
    exact ⟨rfl, HB2.out⟩
  go_upto_region 6 with (first
    | (go_at_call 4; refine (HA.out _).mono ?_; rintro e w1 ⟨rfl, hb1⟩; have HB1 := Hid.mk2 (g_on HB0.out hb1); have HX1 := Hid.mk2 (HX0.out.below hb1); clear hb1)
    | (go_at_call 5; refine (HL.out _ HB1.out).mono ?_; rintro e w2 ⟨rfl, hb2⟩; have HB2 := Hid.mk2 (g_on HB1.out hb2); have HX2 := Hid.mk2 (HX1.out.below hb2); clear hb2)
    | (go_at_call 7; refine (HP.out _ HB3.out).mono ?_; rintro e w4 ⟨⟨a4, c4, rfl, hg4⟩, hb4⟩; have HG4 := Hid.mk2 hg4; have HH4 := Hid.mk2 (HG3.out.below hb4); have HB4 := Hid.mk2 (g_on HB3.out hb4); have HX4 := Hid.mk2 (HX3.out.below hb4); have f1 := HSC.out _ HX4.out; clear hb4 hg4 HX3)
    | (go_at_call 6; refine (HW.out _ HB2.out).mono ?_; rintro e w3 ⟨⟨a3, c3, rfl, hg3⟩, hb3⟩; have HG3 := Hid.mk2 hg3; have HB3 := Hid.mk2 (g_on HB2.out hb3); have HX3 := Hid.mk2 (HX2.out.below hb3); clear hb3 hg3 HX2)
    | (refine ywpl_load_g (by first | rfl | simp [Region.wanted, yielded]) 27 _ rfl w.heap.size rfl CX HX3.out _ Tryz.underlying27 rfl (by rw [HCL.out]; kernel_rfl) ?_)
    | (refine ywpl_load_g (by first | rfl | simp [Region.wanted, yielded]) 27 _ rfl w.heap.size rfl CX HX2.out _ Tryz.underlying27 rfl (by rw [HCL.out]; kernel_rfl) ?_)
    | (refine ywpl_load_g (by first | rfl | simp [Region.wanted, yielded]) 27 _ rfl w.heap.size rfl CX HX1.out _ Tryz.underlying27 rfl (by rw [HCL.out]; kernel_rfl) ?_))
  by_cases hE : RE = 0
  · subst hE
    by_cases hF : PE = 0
    · subst hF
      obtain ⟨hwl, hfw⟩ := HWE.out rfl
      obtain ⟨hpl, hfp⟩ := HPE.out rfl
      have HFW := Hid.mk2 hfw
      have HFP := Hid.mk2 hfp
      have HGL := Hid.mk2 hwl
      have HPL := Hid.mk2 hpl
      obtain ⟨RN, hRN⟩ : ∃ n, n = RW.length := ⟨_, rfl⟩
      obtain ⟨PN, hPN⟩ : ∃ n, n = PW.length := ⟨_, rfl⟩
      have HRN := Hid.mk2 hRN
      have HPN := Hid.mk2 hPN
      rw [← hRN, ← hPN]
      have q1 : ((RN : Int) == (RN : Int)) = true := by simp
      have q2 : ((PN : Int) == (PN : Int)) = true := by simp
      clear hfw hfp hRN hPN hwl hpl HWE HPE
      go_upto_region 9 with (first
        | (go_at_call 8; refine (wRead_any w4 a3 RW c3 HH4.out (by have := HGL.out; omega) OF (HV.out _ HB4.out).gw (HV.out _ HB4.out).rt RN HRN.out).mono ?_; rintro e w5 hN5; rw [HFW.out, ← HRN.out] at hN5; obtain ⟨⟨k5, c5, he5, hk5⟩, hb5⟩ := hN5; dsimp only at he5 hk5; obtain ⟨CA, hCS⟩ : ∃ CS, CS = x.cl (.slice k5 x.items.length c5) := ⟨_, rfl⟩; have hAS : x.arr (.slice k5 x.items.length c5) = CA.toArray := (by rw [hCS]; rfl); rw [hAS] at he5; subst he5; have HK5 := Hid.mk2 hk5; have HB5 := Hid.mk2 (g_on HB4.out hb5); have HG5 := Hid.mk2 (HG4.out.below hb5); have HAS := Hid.mk2 hAS; have HCA : Hid (CA.length = 7 ∧ ∀ v ∈ CA, v.oneCell' = true) := (by rw [hCS]; exact ⟨rfl, ancl_one _ _ _ _⟩); clear hk5 hb5 hCS hAS f1)
        | (refine ywpl_store rfl 27 _ _ rfl w5.heap.size CA (zan.cl (.slice none 0 0)) rfl rfl (by rw [HCA.out.1]; kernel_rfl) (GBx.made w5 _ _) (by rw [HCA.out.1]; rfl) HCA.out.2 ?_; obtain ⟨w6, hw7⟩ : ∃ wq, wq = ysets (w5.alloc (.cells (zan.cl (.slice none 0 0)).toArray 27)) w5.heap.size 0 CA := ⟨_, rfl⟩; (first | rw [← hw7] | (change wpList _ _ _ _ _ (ysets (w5.alloc (.cells (zan.cl (.slice none 0 0)).toArray 27)) w5.heap.size 0 CA); rw [← hw7])); have hb7 : Below w5.heap.size w5 w6 := (by rw [hw7]; exact (g_alloc w5 _).grown (ysets_grown _ _ _ _) (by simp) (fun k hk => by cases hk; exact Nat.le_refl _)); have HD6 : Hid (GBx w6 w5.heap.size CA) := (by rw [hw7]; exact ybox (GBx.made w5 _ _) _ (by rw [HCA.out.1]; rfl)); have HB6 := Hid.mk2 (g_on HB5.out hb7); have HK6 := Hid.mk2 (HK5.out.below hb7); have HG6 := Hid.mk2 (HG5.out.below hb7); clear hw7 hb7))
      (try simp only [Act.put])
      go_upto_region 10 with (first
        | (go_at_call 9; refine (pread_any w6 a4 PW c4 HG6.out PN HPN.out (by have := HPL.out; omega)).mono ?_; rintro e w7 hN7; rw [HFP.out, ← HPN.out] at hN7; obtain ⟨⟨k7, c7, he7, hk7⟩, hb7⟩ := hN7; dsimp only at he7 hk7; obtain ⟨CB, hCS⟩ : ∃ CS, CS = x.cl (.slice k7 x.items.length c7) := ⟨_, rfl⟩; have hAS : x.arr (.slice k7 x.items.length c7) = CB.toArray := (by rw [hCS]; rfl); rw [hAS] at he7; subst he7; have HK7 := Hid.mk2 hk7; have HJ7 := Hid.mk2 (HK6.out.below hb7); have HE7 := Hid.mk2 (HD6.out.below hb7); have HB7 := Hid.mk2 (g_on HB6.out hb7); have HBS := Hid.mk2 hAS; have HCB : Hid (CB.length = 7 ∧ ∀ v ∈ CB, v.oneCell' = true) := (by rw [hCS]; exact ⟨rfl, ancl_one _ _ _ _⟩); clear hk7 hb7 hCS hAS)
        | (refine ywpl_store rfl 27 _ _ rfl w7.heap.size CB (zan.cl (.slice none 0 0)) rfl rfl (by rw [HCB.out.1]; kernel_rfl) (GBx.made w7 _ _) (by rw [HCB.out.1]; rfl) HCB.out.2 ?_; obtain ⟨w8, hw7⟩ : ∃ wq, wq = ysets (w7.alloc (.cells (zan.cl (.slice none 0 0)).toArray 27)) w7.heap.size 0 CB := ⟨_, rfl⟩; (first | rw [← hw7] | (change wpList _ _ _ _ _ (ysets (w7.alloc (.cells (zan.cl (.slice none 0 0)).toArray 27)) w7.heap.size 0 CB); rw [← hw7])); have hb7 : Below w7.heap.size w7 w8 := (by rw [hw7]; exact (g_alloc w7 _).grown (ysets_grown _ _ _ _) (by simp) (fun k hk => by cases hk; exact Nat.le_refl _)); have HD8 : Hid (GBx w8 w7.heap.size CB) := (by rw [hw7]; exact ybox (GBx.made w7 _ _) _ (by rw [HCB.out.1]; rfl)); have HB8 := Hid.mk2 (g_on HB7.out hb7); have HK8 := Hid.mk2 (HK7.out.below hb7); have HJ8 := Hid.mk2 (HJ7.out.below hb7); have HE8 := Hid.mk2 (HE7.out.below hb7); clear hw7 hb7))
      (try simp only [Act.put])
      go_wp2_with (first
        | (refine ywpl_load_g (by first | rfl | simp [Region.wanted, yielded]) 27 _ rfl w5.heap.size rfl CA HE8.out _ Tryz.underlying27 rfl (by rw [HCA.out.1]; kernel_rfl) ?_)
        | (refine ywpl_load_g (by first | rfl | simp [Region.wanted, yielded]) 27 _ rfl w7.heap.size rfl CB HD8.out _ Tryz.underlying27 rfl (by rw [HCB.out.1]; kernel_rfl) ?_)
        | (go_at_call 10; rw [← HAS.out, ← HBS.out]; refine (same15_any x _ _ _ _ w8 HJ8.out HK8.out).mono ?_; rintro e w9 ⟨rfl, hb9⟩; have HB9 := Hid.mk2 (g_on HB8.out hb9); clear hb9))
      go_ret
      exact ⟨by first | rfl | simp, HB9.out⟩
    · have hFb : (PE != 0) = true := by simpa using hF
      clear HWE HPE
      go_wp2
      go_ret
      exact ⟨rfl, HB4.out⟩
  · have hEb : (RE != 0) = true := by simpa using hE
    clear HWE HPE
    go_wp2
    go_ret
    exact ⟨rfl, HB4.out⟩

set_option maxRecDepth 100000 in
theorem packedBoth_lifted (os : Os) (started : os.Started) (H : Type) (enc : TypeId × Value → H) :
    ReturnsInHanded {} Tryz.checked os 3 .any (fun w args => (Rows.packedBothSpec.pre enc Tryz.prog Tryz.f3 [] false w args ∧ laidMetH Tryz.prog laid6 w) ∧ sizedMet enc Tryz.prog Tryz.f3 (OpenSpec.ofChange Rows.packedBothSpec) false w args) (Rows.packedBothSpec.post enc Tryz.prog Tryz.f3 false true false false) := by
  refine handed_shaped_and (C := Tryz.checked) (X := fun w _ => laidMetH Tryz.prog laid6 w) (fun _ _ _ hh h => h.of_heap hh) own started (by kernel_rfl) Tryz.func3
    (ChangeSpec.witness_shaped (enc := enc) (C := Tryz.checked) (os := os) (X := fun w _ => laidMetH Tryz.prog laid6 w) false (World.laidAll Tryz.prog os laid6) #[.agg #[.int .u8 0, .int .u8 0, .int .u8 0, .slice none 0 0, .int .u64 0, .bool false, .string ⟨#[]⟩]] 8 (World.laidAll_os _ _ _)
      (World.shaped_of_ZipB (by kernel_rfl) (by kernel_rfl)) (by kernel_rfl) (by kernel_rfl) (by kernel_rfl)
      (by rw [MakeChecks.laidMetH_plain _ _ _ (by kernel_rfl)]; exact laidMet_laidAll _ (by kernel_rfl) (by kernel_rfl))) ?_
  intro W base args ds gs before hval0 hW hcnd _ hL hsh
  have hval : ∀ (j : Nat) t v, Tryz.f3.params[j]? = some t → args[j]? = some v → Value.okWide Tryz.prog W .any base t v := hval0
  have hW' := hW
  obtain ⟨p, q, hA0, hV, rfl, hfz, hnd⟩ := hW
  have hA : DataW.TrodAll enc Tryz.prog W 0 (fun _ => true) true Tryz.f3.params.toList args.toList ds p := hA0
  rw [Tryz.params3] at hA hval
  obtain ⟨v0, vs0, d0, ds0, p0, q0, hargs, rfl, rfl, h0, r0⟩ := trodAll_cons hA
  obtain ⟨rfl, rfl, rfl⟩ := trodAll_nil r0
  obtain rfl : args = #[v0] := by cases args; simp_all
  obtain ⟨rfl, rfl⟩ := trodVars_none hV
  have k0 := h0
  have lt0 : ∀ x ∈ p0, x.block < W.heap.size := by obtain ⟨m, hm⟩ := k0; exact DataW.trod_lt m _ _ _ hm
  obtain ⟨c0, ko0, kc0, rfl, g0⟩ := inAns_of (fun _ => rfl) (hval 0 27 v0 rfl rfl) h0
  clear hA0 hval0
  refine (packedBoth_walk W (vw_of6 hL hsh) c0 ko0 kc0 g0).mono fun e W' ⟨he, bel⟩ => ?_
  subst he
  exact ⟨_, rfl, _, _, _, [], _, [], hW', trodAll_mk1 (shut_bool Tryz.underlying4 _), (trodAll_cons_mk (Below.trod laidOut_all (by kernel_rfl) (of_decide_eq_true (by kernel_rfl)) k0 bel lt0) trodAll_mk0), rfl, bel.frame _, fun h => by cases h⟩

theorem packedBoth_proved : Rows.PackedBothSaid :=
  OpenClaim.holds_of_wide 3 Tryz.f3 rfl rfl rfl rfl rfl rfl rfl ⟨rfl, rfl, rfl, rfl, rfl⟩ rfl rfl rfl rfl rfl (by kernel_rfl) Tryz.func3 (by kernel_rfl)
    (of_decide_eq_true (by kernel_rfl)) (by unfold Func.isWrapper; first | (rw [if_pos (by decide +kernel)]; kernel_rfl) | (rw [if_neg (by decide +kernel)]; exact ⟨rfl, rfl⟩))
    (fun os started H enc _ => packedBoth_lifted os started H enc)

theorem packedBoth_card : Rows.PackedBothCardSaid :=
  Claim7.holds_tied_plain_at .later [] [.data, .data, .data, .data, .data, .pinned] true Rows.packedBothCard.stood.harness false
    packedBoth_proved (fun _ h => by cases h) (by kernel_rfl) (fun _ h => by cases h) packedBoth_row_tie rfl ⟨rfl, rfl⟩ (by kernel_rfl) rfl
    (fun f fn hf hfn => by
      obtain rfl : f = 3 := Option.some.inj ((show Tryz.prog.funcNamed "cloakroom/cloakroomlaw17.PackedBoth" = some 3 by kernel_rfl).symm.trans hf) |>.symm
      obtain rfl : fn = Tryz.f3 := (Option.some.inj (Tryz.func3.symm.trans hfn)).symm
      exact ⟨by kernel_rfl, fun j t ht => by
        rw [Tryz.params3] at ht
        have hm : t ∈ ([27] : List TypeId) := by simpa using Array.mem_of_getElem? ht
        have hall : (([27] : List TypeId).all fun u => !Tryz.prog.wantsStandIn u) = true := by kernel_rfl
        exact (show Tryz.prog.wantsStandIn t = false by simpa using List.all_eq_true.1 hall t hm)⟩)
    (by kernel_rfl)
#print axioms packedBoth_card
end Go.Proofs.YtblbabekbpcdiaaGreatDoor
