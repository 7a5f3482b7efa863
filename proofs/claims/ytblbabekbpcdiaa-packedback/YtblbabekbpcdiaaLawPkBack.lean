/-
  PackedBack: an answer that is written as a packet is read back, alone, whatever comes behind. No condition.
-/
import Derived.Test.YtblbabekbpcdiaaPkK
namespace Go.Proofs.Ytblbabekbpcdiaa
open Go.Proofs.Ytblbabekbpcdiaa.It
open Go.ChangeShapes Go.WideShapes Go.ChangeAt Go.RowKit
open Go.ChangeMaps (open_string shut_string)
set_option linter.unusedSimpArgs false
set_option linter.unusedVariables false
set_option maxRecDepth 100000

set_option maxHeartbeats 4000000 in
theorem packedBack_walk (w : World) (x : An) (ko : Option Addr) (kc : Nat) (h : AnIn w x ko kc) (mo : Option Addr) (M : List UInt8) (mc : Nat) (hm : GRd EY w mo M mc) :
    Calls Try.prog 6 #[.agg (x.arr (.slice ko x.items.length kc)), .slice mo M.length mc] w fun e w' => e = .returned (.bool true) ∧ Below w.heap.size w w' := by
  obtain ⟨W, hW⟩ : ∃ W, W = w.alloc (.cells (x.arr (.slice ko x.items.length kc)) 31) := ⟨_, rfl⟩
  have HB0 : Hid (Below w.heap.size w W) := by rw [hW]; exact g_alloc _ _
  have HX0 : Hid (GBx W w.heap.size (x.cl (.slice ko x.items.length kc))) := by rw [hW]; exact GBx.made w (x.cl _) _
  have HL := Hid.mk2 (fun V (hV : Below w.heap.size w V) => long15_any x ko kc V (h.rd.below hV) h.key (fun y hy => (h.its y hy).1))
  have HA := Hid.mk2 (fun V (hV : Below w.heap.size w V) => alive17_any V)
  have HP := Hid.mk2 (fun V (hV : Below w.heap.size w V) => pwrite_any x ko kc V (h.rd.below hV) h.key h.pf)
  have HK := Hid.mk2 (fun V (hV : Below w.heap.size w V) => h.rd.below hV)
  have HM := Hid.mk2 (fun V (hV : Below w.heap.size w V) => hm.below hV)
  have hml : (M.length : Int) ≤ 9223372036854775807 := by have := hm.len; omega
  have HWE := Hid.mk2 (fun hE : x.wpE = 0 => And.intro (wp_len hE) (read_wp hE h.pf M))
  have HWN := Hid.mk2 (@wp_nil x)
  obtain ⟨ML, hML⟩ : ∃ n, n = M.length := ⟨_, rfl⟩
  have HML := Hid.mk2 hML
  rw [← hML] at hml
  rw [← hML]
  obtain ⟨LG, hLG⟩ : ∃ LG, LG = x.lg := ⟨_, rfl⟩
  rw [← hLG] at HL
  have HP2 : Hid (∀ V, Below w.heap.size w V → Calls Try.prog 8 #[.agg (x.arr (.slice ko x.items.length kc))] V fun e w' => (∃ (ao : Option Addr) (cap : Nat), e = .returned (.tuple #[.slice ao x.wp.length cap, .int .i64 x.wpE]) ∧ GRd EY w' ao x.wp cap) ∧ Below V.heap.size V w') := fun V hV => (HP.out V hV).mono fun e w' q => ⟨q.ex, q.below⟩
  clear HP
  obtain ⟨RW, hRW⟩ : ∃ RW, RW = x.wp := ⟨_, rfl⟩
  obtain ⟨RE, hRE⟩ : ∃ RE, RE = x.wpE := ⟨_, rfl⟩
  rw [← hRW, ← hRE] at HP2 HWE
  rw [← hRW, ← hRE] at HWN
  obtain ⟨CX, hCX⟩ : ∃ CX, CX = x.cl (.slice ko x.items.length kc) := ⟨_, rfl⟩
  have hAX : x.arr (.slice ko x.items.length kc) = CX.toArray := by rw [hCX]; rfl
  have HCL : Hid (CX.length = 7) := by show _ = _; rw [hCX]; rfl
  rw [← hCX] at HX0
  rw [hAX] at hW HP2 HL
  rw [hAX]
  have HAX := Hid.mk2 hAX
  clear hLG hRW hRE hCX hAX h hm hML
  go_enter Try.func6, Try.ntmps6
  go_upto_region 1 with (fail)
  rw [← hW]
  clear hW
  cases LG
  case true =>
    go_wp2_with (first
      | (go_at_call 10; refine (HA.out _ HB0.out).mono ?_; rintro e w1 ⟨rfl, hb1⟩; have HB1 := Hid.mk2 (g_on HB0.out hb1); have HX1 := Hid.mk2 (HX0.out.below hb1); clear hb1)
      | (go_at_call 11; refine (HL.out _ HB1.out).mono ?_; rintro e w2 ⟨rfl, hb2⟩; have HB2 := Hid.mk2 (g_on HB1.out hb2); have HX2 := Hid.mk2 (HX1.out.below hb2); clear hb2)
      | (refine ywpl_load_g (by first | rfl | simp [Region.wanted, yielded]) 31 _ rfl w.heap.size rfl CX HX1.out _ Try.underlying31 rfl (by rw [HCL.out]; kernel_rfl) ?_))
    go_ret
    exact ⟨rfl, HB2.out⟩
  by_cases hl : (8000 : Int) < (ML : Int)
  · go_wp2_with (first
      | (go_at_call 10; refine (HA.out _ HB0.out).mono ?_; rintro e w1 ⟨rfl, hb1⟩; have HB1 := Hid.mk2 (g_on HB0.out hb1); have HX1 := Hid.mk2 (HX0.out.below hb1); clear hb1)
      | (go_at_call 11; refine (HL.out _ HB1.out).mono ?_; rintro e w2 ⟨rfl, hb2⟩; have HB2 := Hid.mk2 (g_on HB1.out hb2); have HX2 := Hid.mk2 (HX1.out.below hb2); clear hb2)
      | (refine ywpl_load_g (by first | rfl | simp [Region.wanted, yielded]) 31 _ rfl w.heap.size rfl CX HX1.out _ Try.underlying31 rfl (by rw [HCL.out]; kernel_rfl) ?_))
    go_ret
    exact ⟨rfl, HB2.out⟩
  by_cases hE : RE = 0
  · subst hE
    obtain ⟨hwl, hfw⟩ := HWE.out rfl
    have HFW := Hid.mk2 hfw
    have HRL : Hid (RW.length + M.length ≤ 14200) := by show _ ≤ _; have := HML.out; omega
    obtain ⟨RN, hRN⟩ : ∃ n, n = RW.length := ⟨_, rfl⟩
    have HRN := Hid.mk2 hRN
    rw [← hRN] at HP2 hwl
    have hAL : (RW ++ M).length = RN + ML := by rw [List.length_append, ← hRN, ← HML.out]
    have HAL := Hid.mk2 hAL
    have q1 : ((RN : Int) == (RN : Int)) = true := by simp
    clear hfw hRN hAL
    go_wp2_with (first
      | (go_at_call 10; refine (HA.out _ HB0.out).mono ?_; rintro e w1 ⟨rfl, hb1⟩; have HB1 := Hid.mk2 (g_on HB0.out hb1); have HX1 := Hid.mk2 (HX0.out.below hb1); clear hb1)
      | (go_at_call 11; refine (HL.out _ HB1.out).mono ?_; rintro e w2 ⟨rfl, hb2⟩; have HB2 := Hid.mk2 (g_on HB1.out hb2); have HX2 := Hid.mk2 (HX1.out.below hb2); clear hb2)
      | (refine ywpl_load_g (by first | rfl | simp [Region.wanted, yielded]) 31 _ rfl w.heap.size rfl CX HX1.out _ Try.underlying31 rfl (by rw [HCL.out]; kernel_rfl) ?_)
      | (refine ywpl_load_g (by first | rfl | simp [Region.wanted, yielded]) 31 _ rfl w.heap.size rfl CX HX2.out _ Try.underlying31 rfl (by rw [HCL.out]; kernel_rfl) ?_)
      | (go_at_call 8; refine (HP2.out _ HB2.out).mono ?_; rintro e w3 ⟨⟨a3, c3, rfl, hg3⟩, hb3⟩; have HG3 := Hid.mk2 hg3; have HB3 := Hid.mk2 (g_on HB2.out hb3); have HX3 := Hid.mk2 (HX2.out.below hb3); have hcap3 := (hg3.hc); have hlc3 := hg3.hl; rw [← HRN.out] at hlc3; clear hb3 hg3 HX2)
      | (refine g_app okY rfl _ _ _ rfl rfl w3.heap.size _ [] (GOwn.nil _ _) rfl a3 c3 RW RN HRN.out rfl HG3.out (by have := HRL.out; simp; omega) (Nat.le_refl _) ?_; intro v4 w4 hO4 hgr4; have HB4 := Hid.mk2 (g_on HB3.out (hgr4.below (GOwn.nil (E := EY) w3 w3.heap.size) (Nat.le_refl _))); rw [List.nil_append] at hO4; have HO4 := Hid.mk2 hO4; have HX4 := Hid.mk2 (HX3.out.below (hgr4.below (GOwn.nil (E := EY) w3 w3.heap.size) (Nat.le_refl _))); have HS4 : Hid (w3.heap.size ≤ w4.heap.size) := hgr4.grown.size; clear hO4 hgr4)
      | (refine g_app okY rfl _ _ _ rfl rfl w3.heap.size _ RW HO4.out rfl mo mc M ML HML.out rfl (HM.out _ HB4.out) (by have := HRL.out; omega) HS4.out ?_; intro v5 w5 hO5 hgr5; have hb5 : Below w3.heap.size w4 w5 := hgr5.below HO4.out HS4.out; have HB5 : Hid (Below w.heap.size w w5) := HB4.out.trans (hb5.mono HB3.out.size); have HX5 : Hid (GBx w5 w.heap.size CX) := HX4.out.grown hgr5.grown (by intro e; have h1 := HO4.out.lt _ e; have h2 := HX3.out.lt; omega); obtain ⟨a5, c5, hv5, hr5⟩ := hO5.rd okY; rw [HAL.out] at hv5; subst hv5; have HR5 := Hid.mk2 hr5; clear hO5 hgr5 hb5 hr5)
      | (go_at_call 9; refine (pread_any w5 a5 (RW ++ M) c5 HR5.out (RN + ML) HAL.out.symm (by rw [List.length_append]; have := HRL.out; omega)).mono ?_; rintro e w6 hN6; rw [HFW.out (by rw [List.length_append]; have := HRL.out; omega), ← HRN.out] at hN6; obtain ⟨⟨k6, c6, he6, hk6⟩, hb6⟩ := hN6; dsimp only at he6 hk6; obtain ⟨CS, hCS⟩ : ∃ CS, CS = x.cl (.slice k6 x.items.length c6) := ⟨_, rfl⟩; have hAS : x.arr (.slice k6 x.items.length c6) = CS.toArray := (by rw [hCS]; rfl); rw [hAS] at he6; subst he6; have HK6 := Hid.mk2 hk6; have HB6 := Hid.mk2 (g_on HB5.out hb6); have HX6 := Hid.mk2 (HX5.out.below hb6); have HAS := Hid.mk2 hAS; have HCS : Hid (CS.length = 7 ∧ ∀ v ∈ CS, v.oneCell' = true) := (by rw [hCS]; exact ⟨rfl, ancl_one _ _ _ _⟩); clear hk6 hb6 hCS hAS)
      | (refine ywpl_store rfl 31 _ _ rfl w6.heap.size CS (zan.cl (.slice none 0 0)) rfl rfl (by rw [HCS.out.1]; kernel_rfl) (GBx.made w6 _ _) (by rw [HCS.out.1]; rfl) HCS.out.2 ?_; obtain ⟨w7, hw7⟩ : ∃ w7, w7 = ysets (w6.alloc (.cells (zan.cl (.slice none 0 0)).toArray 31)) w6.heap.size 0 CS := ⟨_, rfl⟩; (first | rw [← hw7] | (change wpList _ _ _ _ _ (ysets (w6.alloc (.cells (zan.cl (.slice none 0 0)).toArray 31)) w6.heap.size 0 CS); rw [← hw7])); have hb7 : Below w6.heap.size w6 w7 := (by rw [hw7]; exact (g_alloc w6 _).grown (ysets_grown _ _ _ _) (by simp) (fun k hk => by cases hk; exact Nat.le_refl _)); have HD7 : Hid (GBx w7 w6.heap.size CS) := (by rw [hw7]; exact ybox (GBx.made w6 _ _) _ (by rw [HCS.out.1]; rfl)); have HB7 := Hid.mk2 (g_on HB6.out hb7); have HK7 := Hid.mk2 (HK6.out.below hb7); have HX7 := Hid.mk2 (HX6.out.below hb7); clear hw7 hb7)
      | (refine ywpl_load_g (by first | rfl | simp [Region.wanted, yielded]) 31 _ rfl w6.heap.size rfl CS HD7.out _ Try.underlying31 rfl (by rw [HCS.out.1]; kernel_rfl) ?_)
      | (refine ywpl_load_g (by first | rfl | simp [Region.wanted, yielded]) 31 _ rfl w.heap.size rfl CX HX7.out _ Try.underlying31 rfl (by rw [HCL.out]; kernel_rfl) ?_)
      | (go_at_call 14; rw [← HAS.out, ← HAX.out]; refine (same15_any x _ _ _ _ w7 HK7.out (HK.out _ HB7.out)).mono ?_; rintro e w9 ⟨rfl, hb9⟩; have HB9 := Hid.mk2 (g_on HB7.out hb9); clear hb9))
    go_ret
    exact ⟨by first | rfl | simp, HB9.out⟩
  · have hr0 := HWN.out hE
    subst hr0
    have hE2 : ¬ (RE = 0) := hE
    go_wp2_with (first
      | (go_at_call 10; refine (HA.out _ HB0.out).mono ?_; rintro e w1 ⟨rfl, hb1⟩; have HB1 := Hid.mk2 (g_on HB0.out hb1); have HX1 := Hid.mk2 (HX0.out.below hb1); clear hb1)
      | (go_at_call 11; refine (HL.out _ HB1.out).mono ?_; rintro e w2 ⟨rfl, hb2⟩; have HB2 := Hid.mk2 (g_on HB1.out hb2); have HX2 := Hid.mk2 (HX1.out.below hb2); clear hb2)
      | (refine ywpl_load_g (by first | rfl | simp [Region.wanted, yielded]) 31 _ rfl w.heap.size rfl CX HX1.out _ Try.underlying31 rfl (by rw [HCL.out]; kernel_rfl) ?_)
      | (refine ywpl_load_g (by first | rfl | simp [Region.wanted, yielded]) 31 _ rfl w.heap.size rfl CX HX2.out _ Try.underlying31 rfl (by rw [HCL.out]; kernel_rfl) ?_)
      | (go_at_call 8; refine (HP2.out _ HB2.out).mono ?_; rintro e w3 ⟨⟨a3, c3, rfl, hg3⟩, hb3⟩; have HB3 := Hid.mk2 (g_on HB2.out hb3); clear hb3 hg3 HX2))
    go_ret
    exact ⟨by first | rfl | simp, HB3.out⟩

set_option maxRecDepth 100000 in
theorem packedBack_lifted (os : Os) (started : os.Started) (H : Type) (enc : TypeId × Value → H) :
    ReturnsInHanded {} Try.checked os 6 .any (Rows.packedBackSpec.pre6 enc Try.prog Try.f6 Rows.packedBackRow.domain false) (Rows.packedBackSpec.post enc Try.prog Try.f6 false true false false) := by
  refine returnsInHanded_of_change (C := Try.checked) (by kernel_rfl) started (by kernel_rfl) Try.func6
    (ChangeSpec.witness6 (enc := enc) (C := Try.checked) false ⟨#[], #[.agg #[.int .u8 0, .int .u8 0, .int .u8 0, .slice none 0 0, .int .u64 0, .bool false, .string ⟨#[]⟩], .slice none 0 0], []⟩ 8 (by kernel_rfl) (by kernel_rfl) (by kernel_rfl) (by kernel_rfl)) ?_
  intro W base args ds gs before hval0 hW hcnd _
  have hval : ∀ (j : Nat) t v, Try.f6.params[j]? = some t → args[j]? = some v → Value.okWide Try.prog W .any base t v := hval0
  have hW' := hW
  obtain ⟨p, q, hA0, hV, rfl, hfz, hnd⟩ := hW
  have hA : DataW.TrodAll enc Try.prog W 0 (fun _ => true) true Try.f6.params.toList args.toList ds p := hA0
  rw [Try.params6] at hA hval
  obtain ⟨v0, vs0, d0, ds0, p0, q0, hargs, rfl, rfl, h0, r0⟩ := trodAll_cons hA
  obtain ⟨v1, vs1, d1, ds1, p1, q1, rfl, rfl, rfl, h1, r1⟩ := trodAll_cons r0
  obtain ⟨rfl, rfl, rfl⟩ := trodAll_nil r1
  obtain rfl : args = #[v0, v1] := by cases args; simp_all
  obtain ⟨rfl, rfl⟩ := trodVars_none hV
  have k0 := h0
  have lt0 : ∀ x ∈ p0, x.block < W.heap.size := by obtain ⟨m, hm⟩ := k0; exact DataW.trod_lt m _ _ _ hm
  obtain ⟨c0, ko0, kc0, rfl, g0⟩ := inAns_of (fun _ => rfl) (hval 0 31 v0 rfl rfl) h0
  have k1 := h1
  have lt1 : ∀ x ∈ p1, x.block < W.heap.size := by obtain ⟨m, hm⟩ := k1; exact DataW.trod_lt m _ _ _ hm
  obtain ⟨ao1, l1, cap1, rfl, g1⟩ := inBytes14_of (fun _ => rfl) (hval 1 22 v1 rfl rfl) h1
  clear hA0 hval0
  refine (packedBack_walk W c0 ko0 kc0 g0 ao1 l1 cap1 g1).mono fun e W' ⟨he, bel⟩ => ?_
  subst he
  exact ⟨_, rfl, _, _, _, [], _, [], hW', trodAll_mk1 (shut_bool Try.underlying4 _), (trodAll_cons_mk (Below.trod laidOut_all (by kernel_rfl) (of_decide_eq_true (by kernel_rfl)) k0 bel lt0) (trodAll_cons_mk (Below.trod laidOut_all (by kernel_rfl) (of_decide_eq_true (by kernel_rfl)) k1 bel lt1) trodAll_mk0)), rfl, bel.frame _, fun h => by cases h⟩

theorem packedBack_proved : Rows.PackedBackSaid :=
  OpenClaim.holds_of_wide 6 Try.f6 rfl rfl rfl rfl rfl rfl rfl ⟨rfl, rfl, rfl, rfl, rfl⟩ rfl rfl rfl rfl rfl (by kernel_rfl) Try.func6 (by kernel_rfl)
    (of_decide_eq_true (by kernel_rfl)) (by unfold Func.isWrapper; first | (rw [if_pos (by decide +kernel)]; kernel_rfl) | (rw [if_neg (by decide +kernel)]; exact ⟨rfl, rfl⟩))
    (fun os started H enc _ => packedBack_lifted os started H enc)
#print axioms packedBack_proved
end Go.Proofs.Ytblbabekbpcdiaa
