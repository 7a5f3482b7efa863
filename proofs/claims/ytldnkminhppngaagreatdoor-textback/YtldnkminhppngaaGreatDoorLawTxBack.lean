/-
  TextBack: a request that is written is read back, alone, whatever comes behind. Condition: the listed variables (powers of ten, the commands' words, strconv's errors, utf8's first bytes among them) are as their texts lay them (the card ties them).
-/
import Derived.Test.YtldnkminhppngaaGreatDoorG04
import Derived.Test.YtldnkminhppngaaGreatDoorG05
namespace Go.Proofs.YtldnkminhppngaaGreatDoor
open Go.Proofs.YtldnkminhppngaaGreatDoor.It
open Go.ChangeShapes Go.WideShapes Go.ChangeAt Go.RowKit
open Go.ChangeMaps (open_string shut_string)
set_option linter.unusedSimpArgs false
set_option linter.unusedVariables false
set_option maxRecDepth 100000

set_option maxHeartbeats 4000000 in
theorem textBack_walk (w : World) (hg : Gl w) (hkw : KwT w) (x : Rq) (ko : Option Addr) (kc : Nat) (h : RqIn w x ko kc) (mo : Option Addr) (M : List UInt8) (mc : Nat) (hm : GRd EY w mo M mc) :
    Calls Tryz.prog 3 #[.agg (x.arr (.slice ko x.cmd.keys.length kc)), .slice mo M.length mc] w fun e w' => e = .returned (.bool true) ∧ Below w.heap.size w w' := by
  obtain ⟨W, hW⟩ : ∃ W, W = w.alloc (.cells (x.arr (.slice ko x.cmd.keys.length kc)) 28) := ⟨_, rfl⟩
  have HB0 : Hid (Below w.heap.size w W) := by rw [hW]; exact g_alloc _ _
  have HX0 : Hid (GBx W w.heap.size (x.cl (.slice ko x.cmd.keys.length kc))) := by rw [hW]; exact GBx.made w (x.cl _) _
  have HL := Hid.mk2 (fun V (hV : Below w.heap.size w V) => rlong_any x.cmd ko kc V (h.rd.below hV))
  have HA := Hid.mk2 (fun V (hV : Below w.heap.size w V) => alive14_any V (hg.below hV))
  have HP := Hid.mk2 (fun V (hV : Below w.heap.size w V) => write14_any x ko kc V (h.rd.below hV) h.keys h.sec h.fit ((hg.below hV).tab) (hkw.below hV))
  have HG := Hid.mk2 (fun V (hV : Below w.heap.size w V) => hg.below hV)
  have HK := Hid.mk2 (fun V (hV : Below w.heap.size w V) => h.rd.below hV)
  have HM := Hid.mk2 (fun V (hV : Below w.heap.size w V) => hm.below hV)
  have hsec : (x.secret.size : Int) ≤ 9223372036854775807 := by have := h.sec; have e : maxLen = 9223372036854775807 := rfl; omega
  have hml : (M.length : Int) ≤ 9223372036854775807 := by have := hm.len; omega
  have HWE := Hid.mk2 (fun hE : x.wrE = 0 => And.intro (wr_len hE h.fit) (first_wr hE h.fit M))
  have HWN := Hid.mk2 (@wr_nil x)
  obtain ⟨ML, hML⟩ : ∃ n, n = M.length := ⟨_, rfl⟩
  have HML := Hid.mk2 hML
  rw [← hML] at hml
  rw [← hML]
  obtain ⟨LG, hLG⟩ : ∃ LG, LG = x.cmd.lg := ⟨_, rfl⟩
  rw [← hLG] at HL
  obtain ⟨RW, hRW⟩ : ∃ RW, RW = x.wr := ⟨_, rfl⟩
  obtain ⟨RE, hRE⟩ : ∃ RE, RE = x.wrE := ⟨_, rfl⟩
  rw [← hRW, ← hRE] at HP HWE
  rw [← hRW, ← hRE] at HWN
  obtain ⟨CX, hCX⟩ : ∃ CX, CX = x.cl (.slice ko x.cmd.keys.length kc) := ⟨_, rfl⟩
  have hAX : x.arr (.slice ko x.cmd.keys.length kc) = CX.toArray := by rw [hCX]; rfl
  have HCL : Hid (CX.length = 13) := by show _ = _; rw [hCX]; rfl
  have HC1 : Hid (∃ v, CX[1]? = some v) := by show ∃ v, _; rw [hCX]; exact ⟨_, rfl⟩
  obtain ⟨SS, hSS⟩ : ∃ SS, SS = x.secret := ⟨_, rfl⟩
  have HSC : Hid (∀ V, GBx V w.heap.size CX → V.cell? ⟨w.heap.size, 10, none⟩ = some (.string SS)) := by intro V hV; rw [hCX] at hV; rw [hSS]; exact hV.get 10 _ rfl
  have HCM : Hid (∀ V, GBx V w.heap.size CX → (V.cell? ⟨w.heap.size, 1, none⟩ = some (.int .u8 x.cmd.kind) ∧ V.cell? ⟨w.heap.size, 2, none⟩ = some (.int .i64 x.cmd.tenant) ∧ V.cell? ⟨w.heap.size, 3, none⟩ = some (.slice ko x.cmd.keys.length kc) ∧ V.cell? ⟨w.heap.size, 4, none⟩ = some (.string x.cmd.value) ∧ V.cell? ⟨w.heap.size, 5, none⟩ = some (.int .u32 x.cmd.flags) ∧ V.cell? ⟨w.heap.size, 6, none⟩ = some (.int .i64 x.cmd.life) ∧ V.cell? ⟨w.heap.size, 7, none⟩ = some (.int .u64 x.cmd.unique) ∧ V.cell? ⟨w.heap.size, 8, none⟩ = some (.int .u64 x.cmd.by_))) := by
    intro V hV
    rw [hCX] at hV
    exact ⟨hV.get 1 _ rfl, hV.get 2 _ rfl, hV.get 3 _ rfl, hV.get 4 _ rfl, hV.get 5 _ rfl, hV.get 6 _ rfl, hV.get 7 _ rfl, hV.get 8 _ rfl⟩
  rw [← hSS] at hsec
  rw [← hCX] at HX0
  rw [hAX] at hW HP
  rw [hAX]
  have HAX := Hid.mk2 hAX
  unfold Cm.arr at HL
  clear hLG hRW hRE hCX hAX hSS h hg hkw hm hML
  go_enter Tryz.func3, Tryz.ntmps3
  go_upto_region 1 with (fail)
  rw [← hW]
  clear hW
  cases LG
  case true =>
    go_wp2_with (first
      | (go_at_call 5; refine (HA.out _ HB0.out).mono ?_; rintro e w1 ⟨rfl, hb1⟩; have HB1 := Hid.mk2 (g_on HB0.out hb1); have HX1 := Hid.mk2 (HX0.out.below hb1); obtain ⟨d1, d2, d3, d4, d5, d6, d7, d8⟩ := HCM.out _ HX1.out; clear hb1)
      | (go_at_call 6; refine (HL.out _ HB1.out).mono ?_; rintro e w2 ⟨rfl, hb2⟩; have HB2 := Hid.mk2 (g_on HB1.out hb2); clear hb2))
    go_ret
    exact ⟨rfl, HB2.out⟩
  have hx10 := HX0.out
  by_cases hs : (1000 : Int) < (SS.size : Int)
  · clear hx10
    go_wp2_with (first
      | (go_at_call 5; refine (HA.out _ HB0.out).mono ?_; rintro e w1 ⟨rfl, hb1⟩; have HB1 := Hid.mk2 (g_on HB0.out hb1); have HX1 := Hid.mk2 (HX0.out.below hb1); obtain ⟨d1, d2, d3, d4, d5, d6, d7, d8⟩ := HCM.out _ HX1.out; clear hb1)
      | (go_at_call 6; refine (HL.out _ HB1.out).mono ?_; rintro e w2 ⟨rfl, hb2⟩; have HB2 := Hid.mk2 (g_on HB1.out hb2); have f10 := HSC.out _ (HX1.out.below hb2); clear hb2 d1 d2 d3 d4 d5 d6 d7 d8))
    go_ret
    exact ⟨rfl, HB2.out⟩
  clear hx10
  by_cases hl : (10000 : Int) < (ML : Int)
  · go_wp2_with (first
      | (go_at_call 5; refine (HA.out _ HB0.out).mono ?_; rintro e w1 ⟨rfl, hb1⟩; have HB1 := Hid.mk2 (g_on HB0.out hb1); have HX1 := Hid.mk2 (HX0.out.below hb1); obtain ⟨d1, d2, d3, d4, d5, d6, d7, d8⟩ := HCM.out _ HX1.out; clear hb1)
      | (go_at_call 6; refine (HL.out _ HB1.out).mono ?_; rintro e w2 ⟨rfl, hb2⟩; have HB2 := Hid.mk2 (g_on HB1.out hb2); have f10 := HSC.out _ (HX1.out.below hb2); clear hb2 d1 d2 d3 d4 d5 d6 d7 d8))
    go_ret
    exact ⟨rfl, HB2.out⟩
  have HLN : Hid (RW.length ≤ 9223372036854775807 → True) := fun _ => trivial
  by_cases hE : RE = 0
  · subst hE
    obtain ⟨hwl, hfw⟩ := HWE.out rfl
    have HFW := Hid.mk2 hfw
    have HRL : Hid (RW.length + M.length ≤ 12000) := by show _ ≤ _; have := HML.out; omega
    obtain ⟨RN, hRN⟩ : ∃ n, n = RW.length := ⟨_, rfl⟩
    have HRN := Hid.mk2 hRN
    rw [← hRN] at HP hwl
    have hAL : (RW ++ M).length = RN + ML := by rw [List.length_append, ← hRN, ← HML.out]
    have HAL := Hid.mk2 hAL
    have q1 : ((RN : Int) == (RN : Int)) = true := by simp
    clear hfw hRN hAL
    go_wp2_with (first
      | (go_at_call 5; refine (HA.out _ HB0.out).mono ?_; rintro e w1 ⟨rfl, hb1⟩; have HB1 := Hid.mk2 (g_on HB0.out hb1); have HX1 := Hid.mk2 (HX0.out.below hb1); obtain ⟨d1, d2, d3, d4, d5, d6, d7, d8⟩ := HCM.out _ HX1.out; clear hb1)
      | (go_at_call 6; refine (HL.out _ HB1.out).mono ?_; rintro e w2 ⟨rfl, hb2⟩; have HB2 := Hid.mk2 (g_on HB1.out hb2); have HX2 := Hid.mk2 (HX1.out.below hb2); have f10 := HSC.out _ HX2.out; clear hb2 d1 d2 d3 d4 d5 d6 d7 d8)
      | (refine ywpl_load rfl 28 _ rfl w.heap.size rfl CX HX2.out _ Tryz.underlying28 rfl (by rw [HCL.out]; kernel_rfl) ?_)
      | (go_at_call 7; refine (HP.out _ HB2.out).mono ?_; rintro e w3 ⟨a3, c3, rfl, hg3, hb3⟩; have HG3 := Hid.mk2 hg3; have HB3 := Hid.mk2 (g_on HB2.out hb3); have HX3 := Hid.mk2 (HX2.out.below hb3); have hcap3 := (hg3.hc); have hlc3 := hg3.hl; rw [← HRN.out] at hlc3; clear hb3 hg3 f10 HX2)
      | (refine g_app okY rfl _ _ _ rfl rfl w3.heap.size _ [] (GOwn.nil _ _) rfl a3 c3 RW RN HRN.out rfl HG3.out (by have := HRL.out; simp; omega) (Nat.le_refl _) ?_; intro v4 w4 hO4 hgr4; have HB4 := Hid.mk2 (g_on HB3.out (hgr4.below (GOwn.nil (E := EY) w3 w3.heap.size) (Nat.le_refl _))); rw [List.nil_append] at hO4; have HO4 := Hid.mk2 hO4; have HX4 := Hid.mk2 (HX3.out.below (hgr4.below (GOwn.nil (E := EY) w3 w3.heap.size) (Nat.le_refl _))); have HS4 : Hid (w3.heap.size ≤ w4.heap.size) := hgr4.grown.size; clear hO4 hgr4)
      | (refine g_app okY rfl _ _ _ rfl rfl w3.heap.size _ RW HO4.out rfl mo mc M ML HML.out rfl (HM.out _ HB4.out) (by have := HRL.out; omega) HS4.out ?_; intro v5 w5 hO5 hgr5; have hb5 : Below w3.heap.size w4 w5 := hgr5.below HO4.out HS4.out; have HB5 : Hid (Below w.heap.size w w5) := HB4.out.trans (hb5.mono HB3.out.size); have HX5 : Hid (GBx w5 w.heap.size CX) := HX4.out.grown hgr5.grown (by intro e; have h1 := HO4.out.lt _ e; have h2 := HX3.out.lt; omega); obtain ⟨a5, c5, hv5, hr5⟩ := hO5.rd okY; rw [HAL.out] at hv5; subst hv5; have HR5 := Hid.mk2 hr5; clear hO5 hgr5 hb5 hr5)
      | (go_at_call 8; refine (next14_any w5 a5 (RW ++ M) c5 HR5.out (by rw [List.length_append]; have := HRL.out; omega) (HG.out _ HB5.out) (RN + ML) HAL.out.symm).mono ?_; rintro e w6 hN6; rw [HFW.out, ← HRN.out] at hN6; obtain ⟨⟨k6, c6, he6, hk6⟩, hb6⟩ := hN6; dsimp only at he6 hk6; obtain ⟨CS, hCS⟩ : ∃ CS, CS = x.cl (.slice k6 x.cmd.keys.length c6) := ⟨_, rfl⟩; have hAS : x.arr (.slice k6 x.cmd.keys.length c6) = CS.toArray := (by rw [hCS]; rfl); rw [hAS] at he6; subst he6; have HK6 := Hid.mk2 hk6; have HB6 := Hid.mk2 (g_on HB5.out hb6); have HX6 := Hid.mk2 (HX5.out.below hb6); have HAS := Hid.mk2 hAS; have HCS : Hid (CS.length = 13 ∧ ∀ v ∈ CS, v.oneCell' = true) := (by rw [hCS]; exact ⟨rfl, rqcl_one _ _ _ _⟩); clear hk6 hb6 hCS hAS)
      | (refine ywpl_store rfl 28 _ _ rfl w6.heap.size CS (rz.cl (.slice none 0 0)) rfl rfl (by rw [HCS.out.1]; kernel_rfl) (GBx.made w6 _ _) (by rw [HCS.out.1]; rfl) HCS.out.2 ?_; obtain ⟨w7, hw7⟩ : ∃ w7, w7 = ysets (w6.alloc (.cells (rz.cl (.slice none 0 0)).toArray 28)) w6.heap.size 0 CS := ⟨_, rfl⟩; (first | rw [← hw7] | (change wpList _ _ _ _ _ (ysets (w6.alloc (.cells (rz.cl (.slice none 0 0)).toArray 28)) w6.heap.size 0 CS); rw [← hw7])); have hb7 : Below w6.heap.size w6 w7 := (by rw [hw7]; exact (g_alloc w6 _).grown (ysets_grown _ _ _ _) (by simp) (fun k hk => by cases hk; exact Nat.le_refl _)); have HD7 : Hid (GBx w7 w6.heap.size CS) := (by rw [hw7]; exact ybox (GBx.made w6 _ _) _ (by rw [HCS.out.1]; rfl)); have HB7 := Hid.mk2 (g_on HB6.out hb7); have HK7 := Hid.mk2 (HK6.out.below hb7); have HX7 := Hid.mk2 (HX6.out.below hb7); clear hw7 hb7)
      | (refine ywpl_load_g (by first | rfl | simp [Region.wanted, yielded]) 28 _ rfl w6.heap.size rfl CS HD7.out _ Tryz.underlying28 rfl (by rw [HCS.out.1]; kernel_rfl) ?_)
      | (refine ywpl_load_g (by first | rfl | simp [Region.wanted, yielded]) 28 _ rfl w.heap.size rfl CX HX7.out _ Tryz.underlying28 rfl (by rw [HCL.out]; kernel_rfl) ?_)
      | (go_at_call 9; rw [← HAS.out, ← HAX.out]; refine (rsame14_any x _ _ _ _ w7 HK7.out (HK.out _ HB7.out)).mono ?_; rintro e w9 ⟨rfl, hb9⟩; have HB9 := Hid.mk2 (g_on HB7.out hb9); clear hb9))
    go_ret
    exact ⟨by first | rfl | simp, HB9.out⟩
  · have hr0 := HWN.out hE
    subst hr0
    have hE2 : ¬ (RE = 0) := hE
    go_wp2_with (first
      | (go_at_call 5; refine (HA.out _ HB0.out).mono ?_; rintro e w1 ⟨rfl, hb1⟩; have HB1 := Hid.mk2 (g_on HB0.out hb1); have HX1 := Hid.mk2 (HX0.out.below hb1); obtain ⟨d1, d2, d3, d4, d5, d6, d7, d8⟩ := HCM.out _ HX1.out; clear hb1)
      | (go_at_call 6; refine (HL.out _ HB1.out).mono ?_; rintro e w2 ⟨rfl, hb2⟩; have HB2 := Hid.mk2 (g_on HB1.out hb2); have HX2 := Hid.mk2 (HX1.out.below hb2); have f10 := HSC.out _ HX2.out; clear hb2 d1 d2 d3 d4 d5 d6 d7 d8)
      | (refine ywpl_load rfl 28 _ rfl w.heap.size rfl CX HX2.out _ Tryz.underlying28 rfl (by rw [HCL.out]; kernel_rfl) ?_)
      | (go_at_call 7; refine (HP.out _ HB2.out).mono ?_; rintro e w3 ⟨a3, c3, rfl, hg3, hb3⟩; have HB3 := Hid.mk2 (g_on HB2.out hb3); clear hb3 hg3 f10 HX2))
    go_ret
    exact ⟨by first | rfl | simp, HB3.out⟩

set_option maxRecDepth 100000 in
theorem textBack_lifted (os : Os) (started : os.Started) (H : Type) (enc : TypeId × Value → H) :
    ReturnsInHanded {} Tryz.checked os 3 .any (fun w args => (Rows.textBackSpec.pre enc Tryz.prog Tryz.f3 [] false w args ∧ laidMetH Tryz.prog laid8 w) ∧ sizedMet enc Tryz.prog Tryz.f3 (OpenSpec.ofChange Rows.textBackSpec) false w args) (Rows.textBackSpec.post enc Tryz.prog Tryz.f3 false true false false) := by
  refine handed_shaped_and (C := Tryz.checked) (X := fun w _ => laidMetH Tryz.prog laid8 w) (fun _ _ _ hh h => h.of_heap hh) own started (by kernel_rfl) Tryz.func3
    (ChangeSpec.witness_shaped (enc := enc) (C := Tryz.checked) (os := os) (X := fun w _ => laidMetH Tryz.prog laid8 w) false (World.laidAll Tryz.prog os laid8) #[.agg #[.int .u8 0, .int .u8 0, .int .i64 0, .slice none 0 0, .string ⟨#[]⟩, .int .u32 0, .int .i64 0, .int .u64 0, .int .u64 0, .int .i64 0, .string ⟨#[]⟩, .bool false, .bool false], .slice none 0 0] 8 (World.laidAll_os _ _ _)
      (World.shaped_of_ZipB (by kernel_rfl) (by kernel_rfl)) (by kernel_rfl) (by kernel_rfl) (by kernel_rfl)
      (by rw [MakeChecks.laidMetH_plain _ _ _ (by kernel_rfl)]; exact laidMet_laidAll _ (by kernel_rfl) (by kernel_rfl))) ?_
  intro W base args ds gs before hval0 hW hcnd _ hL hsh
  have hval : ∀ (j : Nat) t v, Tryz.f3.params[j]? = some t → args[j]? = some v → Value.okWide Tryz.prog W .any base t v := hval0
  have hW' := hW
  obtain ⟨p, q, hA0, hV, rfl, hfz, hnd⟩ := hW
  have hA : DataW.TrodAll enc Tryz.prog W 0 (fun _ => true) true Tryz.f3.params.toList args.toList ds p := hA0
  rw [Tryz.params3] at hA hval
  obtain ⟨v0, vs0, d0, ds0, p0, q0, hargs, rfl, rfl, h0, r0⟩ := trodAll_cons hA
  obtain ⟨v1, vs1, d1, ds1, p1, q1, rfl, rfl, rfl, h1, r1⟩ := trodAll_cons r0
  obtain ⟨rfl, rfl, rfl⟩ := trodAll_nil r1
  obtain rfl : args = #[v0, v1] := by cases args; simp_all
  obtain ⟨rfl, rfl⟩ := trodVars_none hV
  have k0 := h0
  have lt0 : ∀ x ∈ p0, x.block < W.heap.size := by obtain ⟨m, hm⟩ := k0; exact DataW.trod_lt m _ _ _ hm
  obtain ⟨c0, ko0, kc0, rfl, g0⟩ := inReq_of (fun _ => rfl) (hval 0 28 v0 rfl rfl) h0
  have k1 := h1
  have lt1 : ∀ x ∈ p1, x.block < W.heap.size := by obtain ⟨m, hm⟩ := k1; exact DataW.trod_lt m _ _ _ hm
  obtain ⟨ao1, l1, cap1, rfl, g1⟩ := inBytes14_of (fun _ => rfl) (hval 1 29 v1 rfl rfl) h1
  clear hA0 hval0
  refine (textBack_walk W (gl_of8 hL hsh) (kw_of8 hL) c0 ko0 kc0 g0 ao1 l1 cap1 g1).mono fun e W' ⟨he, bel⟩ => ?_
  subst he
  exact ⟨_, rfl, _, _, _, [], _, [], hW', trodAll_mk1 (shut_bool Tryz.underlying4 _), (trodAll_cons_mk (Below.trod laidOut_all (by kernel_rfl) (of_decide_eq_true (by kernel_rfl)) k0 bel lt0) (trodAll_cons_mk (Below.trod laidOut_all (by kernel_rfl) (of_decide_eq_true (by kernel_rfl)) k1 bel lt1) trodAll_mk0)), rfl, bel.frame _, fun h => by cases h⟩

theorem textBack_proved : Rows.TextBackSaid :=
  OpenClaim.holds_of_wide 3 Tryz.f3 rfl rfl rfl rfl rfl rfl rfl ⟨rfl, rfl, rfl, rfl, rfl⟩ rfl rfl rfl rfl rfl (by kernel_rfl) Tryz.func3 (by kernel_rfl)
    (of_decide_eq_true (by kernel_rfl)) (by unfold Func.isWrapper; first | (rw [if_pos (by decide +kernel)]; kernel_rfl) | (rw [if_neg (by decide +kernel)]; exact ⟨rfl, rfl⟩))
    (fun os started H enc _ => textBack_lifted os started H enc)

theorem textBack_card : Rows.TextBackCardSaid :=
  Claim7.holds_tied_plain_at .later [] [.data, .data, .data, .data, .sentinel, .sentinel, .data, .pinned] true Rows.textBackCard.stood.harness true
    textBack_proved (fun _ h => by cases h) (by kernel_rfl) (fun _ h => by cases h) textBack_row_tie rfl ⟨rfl, rfl⟩ (by kernel_rfl) rfl
    (fun f fn hf hfn => by
      obtain rfl : f = 3 := Option.some.inj ((show Tryz.prog.funcNamed "cloakroom/cloakroomlaw14.TextBack" = some 3 by kernel_rfl).symm.trans hf) |>.symm
      obtain rfl : fn = Tryz.f3 := (Option.some.inj (Tryz.func3.symm.trans hfn)).symm
      exact ⟨by kernel_rfl, fun j t ht => by
        rw [Tryz.params3] at ht
        have hm : t ∈ ([28, 29] : List TypeId) := by simpa using Array.mem_of_getElem? ht
        have hall : (([28, 29] : List TypeId).all fun u => !Tryz.prog.wantsStandIn u) = true := by kernel_rfl
        exact (show Tryz.prog.wantsStandIn t = false by simpa using List.all_eq_true.1 hall t hm)⟩)
    (by kernel_rfl)
#print axioms textBack_card
end Go.Proofs.YtldnkminhppngaaGreatDoor
