/-
  WordsWrites: which answers may be, and their lines, are the document's. Condition: the listed variables (powers of ten, the words of results among them) are as their texts lay them (the card ties them).
-/
import Derived.Test.YtfmpbddhejpjaaaDoorG01
import Derived.Test.YtfmpbddhejpjaaaDoorWpB
namespace Go.Proofs.YtfmpbddhejpjaaaDoor
open Go.Proofs.YtfmpbddhejpjaaaDoor.It
open Go.ChangeShapes Go.WideShapes Go.ChangeAt Go.RowKit
open Go.ChangeMaps (open_string shut_string)
set_option linter.unusedSimpArgs false
set_option linter.unusedVariables false
set_option maxRecDepth 100000

set_option maxHeartbeats 4000000 in
theorem wordsWrites_walk (w : World) (ht : Tab w) (hr : Rt w) (a : An) (io : Option Addr) (ic : Nat) (h : AnIn w a io ic) :
    Calls Tryd.prog 4 #[.agg (a.arr (.slice io a.items.length ic))] w fun e w' => e = .returned (.bool true) ∧ Below w.heap.size w w' := by
  obtain ⟨W, hW⟩ : ∃ W, W = w.alloc (.cells (a.arr (.slice io a.items.length ic)) 27) := ⟨_, rfl⟩
  have HB : Hid (Below w.heap.size w W) := by rw [hW]; exact g_alloc _ _
  have HX : Hid (GBx W w.heap.size (a.cl (.slice io a.items.length ic))) := by rw [hW]; exact GBx.made w (a.cl _) _
  have HLO := Hid.mk2 (fun V (hV : Below w.heap.size w V) => long15_any a io ic V (h.rd.below hV) h.key (fun y hy => (h.its y hy).1))
  have HP : Hid (∀ V, Below w.heap.size w V → Calls Tryd.prog 10 #[.agg (a.arr (.slice io a.items.length ic))] V fun e w' => (∃ (ao : Option Addr) (cap : Nat), e = .returned (.tuple #[.slice ao a.wr.length cap, .int .i64 a.wrE]) ∧ GRd EY w' ao a.wr cap) ∧ Below V.heap.size V w') := fun V hV => (wWrite_any a io ic V (h.rd.below hV) h.key (fun y hy => (h.its y hy).1.1) h.fit (ht.below hV) (hr.below hV)).mono fun e w' q => ⟨q.ex, q.below⟩
  have HQ : Hid (∀ V, Below w.heap.size w V → Calls Tryd.prog 13 #[.agg (a.arr (.slice io a.items.length ic))] V fun e w' => (∃ (ao : Option Addr) (cap : Nat), e = .returned (.tuple #[.slice ao a.wr.length cap, .int .i64 a.wrE]) ∧ GRd EY w' ao a.wr cap) ∧ Below V.heap.size V w') := fun V hV => (rwrite15_any a io ic V (h.rd.below hV) h.key h.fit).mono fun e w' q => ⟨q.ex, q.below⟩
  have HC := Hid.mk2 (fun V (hV : Below w.heap.size w V) => wCheck_any a io ic V (h.rd.below hV) h.key)
  have HR := Hid.mk2 (fun V (hV : Below w.heap.size w V) => rcheck15_any a io ic V (h.rd.below hV) h.key h.fit)
  obtain ⟨LG, hLG⟩ : ∃ LG, LG = a.lg := ⟨_, rfl⟩
  obtain ⟨RW, hRW⟩ : ∃ RW, RW = a.wr := ⟨_, rfl⟩
  obtain ⟨RE, hRE⟩ : ∃ RE, RE = a.wrE := ⟨_, rfl⟩
  obtain ⟨CE, hCE⟩ : ∃ CE : Int, CE = if a.may = true then 0 else 8 := ⟨_, rfl⟩
  rw [← hLG] at HLO
  rw [← hRW, ← hRE] at HP HQ
  rw [← hCE] at HC HR
  clear hLG hRW hRE hCE h ht hr
  have hcl : a.cl (.slice io a.items.length ic) = [.int .u8 a.kind, .int .u8 a.of_, .int .u8 a.rk, .slice io a.items.length ic, .int .u64 a.num, .bool a.yes, .string a.key] := rfl
  have har : a.arr (.slice io a.items.length ic) = #[.int .u8 a.kind, .int .u8 a.of_, .int .u8 a.rk, .slice io a.items.length ic, .int .u64 a.num, .bool a.yes, .string a.key] := rfl
  rw [hcl] at HX
  rw [har] at hW HLO HP HQ HC HR ⊢
  clear hcl har
  generalize a.items.length = N at HX hW HLO HP HQ HC HR ⊢
  generalize a.kind = A0 at HX hW HLO HP HQ HC HR ⊢
  generalize a.of_ = A1 at HX hW HLO HP HQ HC HR ⊢
  generalize a.rk = A2 at HX hW HLO HP HQ HC HR ⊢
  generalize a.num = A4 at HX hW HLO HP HQ HC HR ⊢
  generalize a.yes = A5 at HX hW HLO HP HQ HC HR ⊢
  generalize a.key = A6 at HX hW HLO HP HQ HC HR ⊢
  obtain ⟨RN, hRN⟩ : ∃ n, n = RW.length := ⟨_, rfl⟩
  rw [← hRN] at HP HQ
  have HRN := Hid.mk2 hRN
  clear hRN
  have x0 := HX.out.c 0 (by simp)
  have x1 := HX.out.c 1 (by simp)
  have x2 := HX.out.c 2 (by simp)
  have x3 := HX.out.c 3 (by simp)
  have x4 := HX.out.c 4 (by simp)
  have x5 := HX.out.c 5 (by simp)
  have x6 := HX.out.c 6 (by simp)
  simp only [List.getElem_cons_zero, List.getElem_cons_succ] at x0 x1 x2 x3 x4 x5 x6
  go_enter Tryd.func4, Tryd.ntmps4
  go_upto_region 1 with (fail)
  rw [← hW]
  clear hW
  cases LG with
  | true =>
    go_wp2_with (go_at_call 12; refine (HLO.out _ HB.out).mono ?_; rintro e w1 ⟨rfl, hb⟩; have HB1 := Hid.mk2 (g_on HB.out hb); clear hb)
    go_ret
    exact ⟨rfl, HB1.out⟩
  | false =>
    go_upto_region 3 with (go_at_call 12; refine (HLO.out _ HB.out).mono ?_; rintro e w1 ⟨rfl, hb⟩; have HB1 := Hid.mk2 (g_on HB.out hb); have HX1 := Hid.mk2 (HX.out.below hb); clear hb)
    clear x0 x1 x2 x3 x4 x5 x6
    have x0 := HX1.out.c 0 (by simp)
    have x1 := HX1.out.c 1 (by simp)
    have x2 := HX1.out.c 2 (by simp)
    have x3 := HX1.out.c 3 (by simp)
    have x4 := HX1.out.c 4 (by simp)
    have x5 := HX1.out.c 5 (by simp)
    have x6 := HX1.out.c 6 (by simp)
    simp only [List.getElem_cons_zero, List.getElem_cons_succ] at x0 x1 x2 x3 x4 x5 x6
    go_upto_region 4 with (go_at_call 10; refine (HP.out _ HB1.out).mono ?_; rintro e w3 ⟨⟨a3, c3, rfl, hg3⟩, hb⟩; have HG3 := Hid.mk2 hg3; have HB3 := Hid.mk2 (g_on HB1.out hb); have HX3 := Hid.mk2 (HX1.out.below hb); clear hb hg3)
    clear x0 x1 x2 x3 x4 x5 x6
    have x0 := HX3.out.c 0 (by simp)
    have x1 := HX3.out.c 1 (by simp)
    have x2 := HX3.out.c 2 (by simp)
    have x3 := HX3.out.c 3 (by simp)
    have x4 := HX3.out.c 4 (by simp)
    have x5 := HX3.out.c 5 (by simp)
    have x6 := HX3.out.c 6 (by simp)
    simp only [List.getElem_cons_zero, List.getElem_cons_succ] at x0 x1 x2 x3 x4 x5 x6
    go_upto_region 5 with (go_at_call 13; refine (HQ.out _ HB3.out).mono ?_; rintro e w4 ⟨⟨a4, c4, rfl, hg4⟩, hb⟩; have HG4 := Hid.mk2 hg4; have HB4 := Hid.mk2 (g_on HB3.out hb); have HX4 := Hid.mk2 (HX3.out.below hb); have HG5 := Hid.mk2 (HG3.out.below hb); clear hb hg4)
    clear x0 x1 x2 x3 x4 x5 x6
    have x0 := HX4.out.c 0 (by simp)
    have x1 := HX4.out.c 1 (by simp)
    have x2 := HX4.out.c 2 (by simp)
    have x3 := HX4.out.c 3 (by simp)
    have x4 := HX4.out.c 4 (by simp)
    have x5 := HX4.out.c 5 (by simp)
    have x6 := HX4.out.c 6 (by simp)
    simp only [List.getElem_cons_zero, List.getElem_cons_succ] at x0 x1 x2 x3 x4 x5 x6
    have hlt := HX4.out.lt
    obtain ⟨X, hXX⟩ : ∃ X : ByteArray, X = ⟨RW.toArray⟩ := ⟨_, rfl⟩
    have hcv1 : ∀ p : Beh w4, (convert 31 9 (.slice a3 RN c3)).run Tryd.prog p.v = .ok (.string X) p.v := by
      intro p
      have h := conv_rd (HG5.out.below p.ok)
      rw [← HRN.out, ← hXX] at h
      exact h
    have hcv2 : ∀ p : Beh w4, (convert 31 9 (.slice a4 RN c4)).run Tryd.prog p.v = .ok (.string X) p.v := by
      intro p
      have h := conv_rd (HG4.out.below p.ok)
      rw [← HRN.out, ← hXX] at h
      exact h
    have HCK := Hid.mk2 (fun (p : Beh w4) => HC.out p.v (g_on HB4.out p.ok))
    have HRK := Hid.mk2 (fun (p : Beh w4) => HR.out p.v (g_on HB4.out p.ok))
    have d0 : ∀ p : Beh w4, p.v.cell? ⟨w.heap.size, 0, none⟩ = _ := cell_beh hlt x0
    have d1 : ∀ p : Beh w4, p.v.cell? ⟨w.heap.size, 1, none⟩ = _ := cell_beh hlt x1
    have d2 : ∀ p : Beh w4, p.v.cell? ⟨w.heap.size, 2, none⟩ = _ := cell_beh hlt x2
    have d3 : ∀ p : Beh w4, p.v.cell? ⟨w.heap.size, 3, none⟩ = _ := cell_beh hlt x3
    have d4 : ∀ p : Beh w4, p.v.cell? ⟨w.heap.size, 4, none⟩ = _ := cell_beh hlt x4
    have d5 : ∀ p : Beh w4, p.v.cell? ⟨w.heap.size, 5, none⟩ = _ := cell_beh hlt x5
    have d6 : ∀ p : Beh w4, p.v.cell? ⟨w.heap.size, 6, none⟩ = _ := cell_beh hlt x6
    have hmix : Tryd.prog.follows .mixedOrders = true := by kernel_rfl
    have hxx : (X.toList == X.toList) = true := by simp
    have hcc : (CE == CE) = true := by simp
    have hre : (RE == RE) = true := by simp
    clear x0 x1 x2 x3 x4 x5 x6 hXX hlt
    refine wp_region_quiet_beh hmix (by kernel_rfl) ?_
    repeat (first | go_big_quiet_skip | (quiet_step (first
      | (go_at_call 14; exact Calls.beh_of (HCK.out _))
      | (go_at_call 15; exact Calls.beh_of (HRK.out _)))))
    refine wpQuiet_nil ?_
    intro _ hw'
    obtain ⟨⟨wq, hq⟩, hw2⟩ := hw'
    subst hw2
    go_wp2
    go_ret
    exact ⟨by first | rfl | simp, g_on HB4.out hq⟩

set_option maxRecDepth 100000 in
theorem wordsWrites_lifted (os : Os) (started : os.Started) (H : Type) (enc : TypeId × Value → H) :
    ReturnsInHanded {} Tryd.checked os 4 .any (fun w args => (Rows.wordsWritesSpec.pre enc Tryd.prog Tryd.f4 [] false w args ∧ laidMetH Tryd.prog laid4 w) ∧ sizedMet enc Tryd.prog Tryd.f4 (OpenSpec.ofChange Rows.wordsWritesSpec) false w args) (Rows.wordsWritesSpec.post enc Tryd.prog Tryd.f4 false true false false) := by
  refine handed_shaped_and (C := Tryd.checked) (X := fun w _ => laidMetH Tryd.prog laid4 w) (fun _ _ _ hh h => h.of_heap hh) own started (by kernel_rfl) Tryd.func4
    (ChangeSpec.witness_shaped (enc := enc) (C := Tryd.checked) (os := os) (X := fun w _ => laidMetH Tryd.prog laid4 w) false (World.laidAll Tryd.prog os laid4) #[.agg #[.int .u8 0, .int .u8 0, .int .u8 0, .slice none 0 0, .int .u64 0, .bool false, .string ⟨#[]⟩]] 8 (World.laidAll_os _ _ _)
      (World.shaped_of_ZipB (by kernel_rfl) (by kernel_rfl)) (by kernel_rfl) (by kernel_rfl) (by kernel_rfl)
      (by rw [MakeChecks.laidMetH_plain _ _ _ (by kernel_rfl)]; exact laidMet_laidAll _ (by kernel_rfl) (by kernel_rfl))) ?_
  intro W base args ds gs before hval0 hW hcnd _ hL hsh
  have hval : ∀ (j : Nat) t v, Tryd.f4.params[j]? = some t → args[j]? = some v → Value.okWide Tryd.prog W .any base t v := hval0
  have hW' := hW
  obtain ⟨p, q, hA0, hV, rfl, hfz, hnd⟩ := hW
  have hA : DataW.TrodAll enc Tryd.prog W 0 (fun _ => true) true Tryd.f4.params.toList args.toList ds p := hA0
  rw [Tryd.params4] at hA hval
  obtain ⟨v0, vs0, d0, ds0, p0, q0, hargs, rfl, rfl, h0, r0⟩ := trodAll_cons hA
  obtain ⟨rfl, rfl, rfl⟩ := trodAll_nil r0
  obtain rfl : args = #[v0] := by cases args; simp_all
  obtain ⟨rfl, rfl⟩ := trodVars_none hV
  have k0 := h0
  have lt0 : ∀ x ∈ p0, x.block < W.heap.size := by obtain ⟨m, hm⟩ := k0; exact DataW.trod_lt m _ _ _ hm
  obtain ⟨c0, ko0, kc0, rfl, g0⟩ := inAns_of (fun _ => rfl) (hval 0 27 v0 rfl rfl) h0
  clear hA0 hval0
  refine (wordsWrites_walk W (tab_of4 hL) (rt_of4 hL) c0 ko0 kc0 g0).mono fun e W' ⟨he, bel⟩ => ?_
  subst he
  exact ⟨_, rfl, _, _, _, [], _, [], hW', trodAll_mk1 (shut_bool Tryd.underlying4 _), (trodAll_cons_mk (Below.trod laidOut_all (by kernel_rfl) (of_decide_eq_true (by kernel_rfl)) k0 bel lt0) trodAll_mk0), rfl, bel.frame _, fun h => by cases h⟩

theorem wordsWrites_proved : Rows.WordsWritesSaid :=
  OpenClaim.holds_of_wide 4 Tryd.f4 rfl rfl rfl rfl rfl rfl rfl ⟨rfl, rfl, rfl, rfl, rfl⟩ rfl rfl rfl rfl rfl (by kernel_rfl) Tryd.func4 (by kernel_rfl)
    (of_decide_eq_true (by kernel_rfl)) (by unfold Func.isWrapper; first | (rw [if_pos (by decide +kernel)]; kernel_rfl) | (rw [if_neg (by decide +kernel)]; exact ⟨rfl, rfl⟩))
    (fun os started H enc _ => wordsWrites_lifted os started H enc)

theorem wordsWrites_card : Rows.WordsWritesCardSaid :=
  Claim7.holds_tied_plain_at .later [] [.data, .data, .data, .data] true Rows.wordsWritesCard.stood.harness false
    wordsWrites_proved (fun _ h => by cases h) (by kernel_rfl) (fun _ h => by cases h) wordsWrites_row_tie rfl ⟨rfl, rfl⟩ (by kernel_rfl) rfl
    (fun f fn hf hfn => by
      obtain rfl : f = 4 := Option.some.inj ((show Tryd.prog.funcNamed "cloakroom/cloakroomlaw15.WordsWrites" = some 4 by kernel_rfl).symm.trans hf) |>.symm
      obtain rfl : fn = Tryd.f4 := (Option.some.inj (Tryd.func4.symm.trans hfn)).symm
      exact ⟨by kernel_rfl, fun j t ht => by
        rw [Tryd.params4] at ht
        have hm : t ∈ ([27] : List TypeId) := by simpa using Array.mem_of_getElem? ht
        have hall : (([27] : List TypeId).all fun u => !Tryd.prog.wantsStandIn u) = true := by kernel_rfl
        exact (show Tryd.prog.wantsStandIn t = false by simpa using List.all_eq_true.1 hall t hm)⟩)
    (by kernel_rfl)
#print axioms wordsWrites_card
end Go.Proofs.YtfmpbddhejpjaaaDoor
