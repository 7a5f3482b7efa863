/-
  TextWrites: a request's line, or the error, is the document's. Condition: the tables of powers of ten and of the commands' words are as their texts lay them (the card ties them).
-/
import Derived.Test.YthndmaajidobpaaDoorTxI
import Derived.Test.YthndmaajidobpaaDoorTxJ
namespace Go.Proofs.YthndmaajidobpaaDoor
open Go.Proofs.YthndmaajidobpaaDoor.It
open Go.ChangeShapes Go.WideShapes Go.ChangeAt Go.RowKit
open Go.ChangeMaps (open_string shut_string)
set_option linter.unusedSimpArgs false
set_option linter.unusedVariables false
set_option maxRecDepth 100000

theorem uy14 {w : World} {ao : Option Addr} {l : List UInt8} {cap : Nat} (h : GRd EY w ao l cap) (hne : l ≠ []) : ∃ b off, ao = some ⟨b, off, none⟩ ∧ b < w.heap.size ∧ ∀ i (hi : i < l.length), w.cell? ⟨b, off + i, none⟩ = some (.int .u8 (l[i].toNat : Int)) := by
  obtain ⟨b, off, e, hb, hc⟩ := h.lies hne
  refine ⟨b, off, e, hb, fun i hi => ?_⟩
  have := hc i hi 0 (by decide)
  simpa [EY] using this
/-- string(b) -/
theorem conv_rd14 {w : World} {ao : Option Addr} {l : List UInt8} {cap : Nat} (h : GRd EY w ao l cap) :
    (convert 34 9 (.slice ao l.length cap)).run Tryd.prog w = .ok (.string ⟨l.toArray⟩) w := by
  by_cases hne : l = []
  · subst hne
    rw [run_convert_bytes_string w 34 9 5 ao _ cap Tryd.underlying34 Tryd.underlying5 Tryd.underlying9]
    cases ao with
    | none => simp [Conv.bytesToString]; rfl
    | some a =>
      have h2 := run_bytesToString (P := Tryd.prog) w a 0 cap [] (by simp [loadCells, loadCellsFrom])
      exact h2
  · obtain ⟨b, off, rfl, hb, hc⟩ := uy14 h hne
    exact run_convert_bytes_back (P := Tryd.prog) w 34 9 5 ⟨b, off, none⟩ cap l Tryd.underlying34 Tryd.underlying5 Tryd.underlying9 (fun j hj => by
      rw [g_add]
      exact hc j hj)

set_option maxHeartbeats 2000000 in
theorem textWrites_walk (w : World) (ht : Tab w) (hkw : KwT w) (r : Rq) (ko : Option Addr) (kc : Nat) (h : RqIn w r ko kc) :
    Calls Tryd.prog 5 #[.agg (r.arr (.slice ko r.cmd.keys.length kc))] w fun e w' => e = .returned (.bool true) ∧ Below w.heap.size w w' := by
  have HL := Hid.mk2 (fun V (hV : Below w.heap.size w V) => rlong_any r.cmd ko kc V (h.rd.below hV))
  have HP := Hid.mk2 (fun V (hV : Below w.heap.size w V) => write14_any r ko kc V (h.rd.below hV) h.keys h.sec h.fit (ht.below hV) (hkw.below hV))
  have HD := Hid.mk2 (fun V (hV : Below w.heap.size w V) => rwrite14_any r ko kc V (h.rd.below hV) h.keys h.sec h.fit)
  have hsec : (r.secret.size : Int) ≤ 9223372036854775807 := by have := h.sec; have e : maxLen = 9223372036854775807 := rfl; omega
  obtain ⟨LG, hLG⟩ : ∃ LG, LG = r.cmd.lg := ⟨_, rfl⟩
  rw [← hLG] at HL
  obtain ⟨RW, hRW⟩ : ∃ RW, RW = r.wr := ⟨_, rfl⟩
  obtain ⟨RE, hRE⟩ : ∃ RE, RE = r.wrE := ⟨_, rfl⟩
  rw [← hRW, ← hRE] at HP HD
  have HC := Hid.mk2 (fun (V : World) ao cap (hg : GRd EY V ao RW cap) => conv_rd14 hg)
  obtain ⟨X, hX⟩ : ∃ X : ByteArray, X = ⟨RW.toArray⟩ := ⟨_, rfl⟩
  rw [← hX] at HC
  have hXX : (X.toList == X.toList) = true := by simp
  clear hLG hRW hRE hX h ht hkw
  obtain ⟨W, hW⟩ : ∃ W, W = w.alloc (.cells (r.arr (.slice ko r.cmd.keys.length kc)) 28) := ⟨_, rfl⟩
  have HB : Hid (Below w.heap.size w W) := by rw [hW]; exact g_alloc _ _
  have HX : Hid (GBx W w.heap.size (r.cl (.slice ko r.cmd.keys.length kc))) := by rw [hW]; exact GBx.made w (r.cl _) _
  obtain ⟨rk, ⟨kind, tenant, keys, value, flags, life, unique, by_⟩, rt, secret, on, close⟩ := r
  unfold Rq.arr Rq.cl at *
  unfold Cm.arr at HL
  dsimp only at *
  have c0 := HX.out.c 0 (by simp)
  have c1 := HX.out.c 1 (by simp)
  have c2 := HX.out.c 2 (by simp)
  have c3 := HX.out.c 3 (by simp)
  have c4 := HX.out.c 4 (by simp)
  have c5 := HX.out.c 5 (by simp)
  have c6 := HX.out.c 6 (by simp)
  have c7 := HX.out.c 7 (by simp)
  have c8 := HX.out.c 8 (by simp)
  have c9 := HX.out.c 9 (by simp)
  have c10 := HX.out.c 10 (by simp)
  have c11 := HX.out.c 11 (by simp)
  have c12 := HX.out.c 12 (by simp)
  simp only [List.getElem_cons_zero, List.getElem_cons_succ] at c0 c1 c2 c3 c4 c5 c6 c7 c8 c9 c10 c11 c12
  have hlt := HX.out.lt
  go_enter Tryd.func5, Tryd.ntmps5
  go_upto_region 1 with (fail)
  rw [← hW]
  clear hW
  cases LG
  case true =>
    go_wp2_with (go_at_call 15; refine (HL.out _ HB.out).mono ?_; rintro e w5 ⟨rfl, hb5⟩)
    go_ret
    exact ⟨rfl, g_on HB.out hb5⟩
  by_cases hs : (1000 : Int) < (secret.size : Int)
  · go_wp2_with (go_at_call 15; refine (HL.out _ HB.out).mono ?_; rintro e w5 ⟨rfl, hb5⟩; have HX5 := Hid.mk2 (HX.out.below hb5); have HB5 := Hid.mk2 (g_on HB.out hb5); have d0 := HX5.out.c 0 (by simp); have d1 := HX5.out.c 1 (by simp); have d2 := HX5.out.c 2 (by simp); have d3 := HX5.out.c 3 (by simp); have d4 := HX5.out.c 4 (by simp); have d5 := HX5.out.c 5 (by simp); have d6 := HX5.out.c 6 (by simp); have d7 := HX5.out.c 7 (by simp); have d8 := HX5.out.c 8 (by simp); have d9 := HX5.out.c 9 (by simp); have d10 := HX5.out.c 10 (by simp); have d11 := HX5.out.c 11 (by simp); have d12 := HX5.out.c 12 (by simp); simp only [List.getElem_cons_zero, List.getElem_cons_succ] at d0 d1 d2 d3 d4 d5 d6 d7 d8 d9 d10 d11 d12; have hlt5 := HX5.out.lt; clear hb5)
    go_ret
    exact ⟨rfl, HB5.out⟩
  go_wp2_with (first | (go_at_call 15; refine (HL.out _ HB.out).mono ?_; rintro e w5 ⟨rfl, hb5⟩; have HX5 := Hid.mk2 (HX.out.below hb5); have HB5 := Hid.mk2 (g_on HB.out hb5); have d0 := HX5.out.c 0 (by simp); have d1 := HX5.out.c 1 (by simp); have d2 := HX5.out.c 2 (by simp); have d3 := HX5.out.c 3 (by simp); have d4 := HX5.out.c 4 (by simp); have d5 := HX5.out.c 5 (by simp); have d6 := HX5.out.c 6 (by simp); have d7 := HX5.out.c 7 (by simp); have d8 := HX5.out.c 8 (by simp); have d9 := HX5.out.c 9 (by simp); have d10 := HX5.out.c 10 (by simp); have d11 := HX5.out.c 11 (by simp); have d12 := HX5.out.c 12 (by simp); simp only [List.getElem_cons_zero, List.getElem_cons_succ] at d0 d1 d2 d3 d4 d5 d6 d7 d8 d9 d10 d11 d12; have hlt5 := HX5.out.lt; clear hb5) | (go_at_call 16; refine (HP.out _ HB5.out).mono ?_; rintro e w6 ⟨a6, c6, rfl, hg6, hb6⟩; have HG6 := Hid.mk2 hg6; have HXn := Hid.mk2 (HX5.out.below hb6); have HBn := Hid.mk2 (g_on HB5.out hb6); clear HX5 HB5; have HX5 := HXn; have HB5 := HBn; clear HXn HBn; clear d0 d1 d2 d3 d4 d5 d6 d7 d8 d9 d10 d11 d12 hlt5; have d0 := HX5.out.c 0 (by simp); have d1 := HX5.out.c 1 (by simp); have d2 := HX5.out.c 2 (by simp); have d3 := HX5.out.c 3 (by simp); have d4 := HX5.out.c 4 (by simp); have d5 := HX5.out.c 5 (by simp); have d6 := HX5.out.c 6 (by simp); have d7 := HX5.out.c 7 (by simp); have d8 := HX5.out.c 8 (by simp); have d9 := HX5.out.c 9 (by simp); have d10 := HX5.out.c 10 (by simp); have d11 := HX5.out.c 11 (by simp); have d12 := HX5.out.c 12 (by simp); simp only [List.getElem_cons_zero, List.getElem_cons_succ] at d0 d1 d2 d3 d4 d5 d6 d7 d8 d9 d10 d11 d12; have hlt5 := HX5.out.lt; clear hb6 hg6) | (go_at_call 17; refine (HD.out _ HB5.out).mono ?_; rintro e w7 ⟨a7, c7, rfl, hg7, hb7⟩; have hq6 := HC.out _ _ _ (HG6.out.below hb7); have hq7 := HC.out _ _ _ hg7; have HXn := Hid.mk2 (HX5.out.below hb7); have HBn := Hid.mk2 (g_on HB5.out hb7); clear HX5 HB5; have HX5 := HXn; have HB5 := HBn; clear HXn HBn; clear d0 d1 d2 d3 d4 d5 d6 d7 d8 d9 d10 d11 d12 hlt5; have d0 := HX5.out.c 0 (by simp); have d1 := HX5.out.c 1 (by simp); have d2 := HX5.out.c 2 (by simp); have d3 := HX5.out.c 3 (by simp); have d4 := HX5.out.c 4 (by simp); have d5 := HX5.out.c 5 (by simp); have d6 := HX5.out.c 6 (by simp); have d7 := HX5.out.c 7 (by simp); have d8 := HX5.out.c 8 (by simp); have d9 := HX5.out.c 9 (by simp); have d10 := HX5.out.c 10 (by simp); have d11 := HX5.out.c 11 (by simp); have d12 := HX5.out.c 12 (by simp); simp only [List.getElem_cons_zero, List.getElem_cons_succ] at d0 d1 d2 d3 d4 d5 d6 d7 d8 d9 d10 d11 d12; have hlt5 := HX5.out.lt; clear hb7 hg7))
  go_ret
  exact ⟨by first | rfl | simp, HB5.out⟩

set_option maxRecDepth 100000 in
theorem textWrites_lifted (os : Os) (started : os.Started) (H : Type) (enc : TypeId × Value → H) :
    ReturnsInHanded {} Tryd.checked os 5 .any (fun w args => (Rows.textWritesSpec.pre enc Tryd.prog Tryd.f5 [] false w args ∧ laidMetH Tryd.prog laid4 w) ∧ sizedMet enc Tryd.prog Tryd.f5 (OpenSpec.ofChange Rows.textWritesSpec) false w args) (Rows.textWritesSpec.post enc Tryd.prog Tryd.f5 false true false false) := by
  refine returnsInHanded_of_change_and (C := Tryd.checked) (X := fun w _ => laidMetH Tryd.prog laid4 w) (fun _ _ _ hh h => h.of_heap hh) own started (by kernel_rfl) Tryd.func5
    (ChangeSpec.witness_shaped (enc := enc) (C := Tryd.checked) (os := os) (X := fun w _ => laidMetH Tryd.prog laid4 w) false (World.doorLaid Tryd.prog 400 os) #[.agg #[.int .u8 0, .int .u8 0, .int .i64 0, .slice none 0 0, .string ⟨#[]⟩, .int .u32 0, .int .i64 0, .int .u64 0, .int .u64 0, .int .i64 0, .string ⟨#[]⟩, .bool false, .bool false]] 8 rfl (World.shaped_of_RefB (by kernel_rfl) (by kernel_rfl)) (by kernel_rfl) (by kernel_rfl) (by kernel_rfl) (door_met os _)) ?_
  intro W base args ds gs before hval0 hW hcnd _ hL _
  have hval : ∀ (j : Nat) t v, Tryd.f5.params[j]? = some t → args[j]? = some v → Value.okWide Tryd.prog W .any base t v := hval0
  have hW' := hW
  obtain ⟨p, q, hA0, hV, rfl, hfz, hnd⟩ := hW
  have hA : DataW.TrodAll enc Tryd.prog W 0 (fun _ => true) true Tryd.f5.params.toList args.toList ds p := hA0
  rw [Tryd.params5] at hA hval
  obtain ⟨v0, vs0, d0, ds0, p0, q0, hargs, rfl, rfl, h0, r0⟩ := trodAll_cons hA
  obtain ⟨rfl, rfl, rfl⟩ := trodAll_nil r0
  obtain rfl : args = #[v0] := by cases args; simp_all
  obtain ⟨rfl, rfl⟩ := trodVars_none hV
  have k0 := h0
  have lt0 : ∀ x ∈ p0, x.block < W.heap.size := by obtain ⟨m, hm⟩ := k0; exact DataW.trod_lt m _ _ _ hm
  obtain ⟨c0, ko0, kc0, rfl, g0⟩ := inReq_of (fun _ => rfl) (hval 0 28 v0 rfl rfl) h0
  clear hA0 hval0
  refine (textWrites_walk W (tab_of_laid hL) (kw_of_laid hL) c0 ko0 kc0 g0).mono fun e W' ⟨he, bel⟩ => ?_
  subst he
  exact ⟨_, rfl, _, _, _, [], _, [], hW', trodAll_mk1 (shut_bool Tryd.underlying4 _), (trodAll_cons_mk (Below.trod laidOut_all (by kernel_rfl) (of_decide_eq_true (by kernel_rfl)) k0 bel lt0) trodAll_mk0), rfl, bel.frame _, fun h => by cases h⟩

theorem textWrites_proved : Rows.TextWritesSaid :=
  OpenClaim.holds_of_wide 5 Tryd.f5 rfl rfl rfl rfl rfl rfl rfl ⟨rfl, rfl, rfl, rfl, rfl⟩ rfl rfl rfl rfl rfl (by kernel_rfl) Tryd.func5 (by kernel_rfl)
    (of_decide_eq_true (by kernel_rfl)) (by unfold Func.isWrapper; first | (rw [if_pos (by decide +kernel)]; kernel_rfl) | (rw [if_neg (by decide +kernel)]; exact ⟨rfl, rfl⟩))
    (fun os started H enc _ => textWrites_lifted os started H enc)

theorem textWrites_card : Rows.TextWritesCardSaid :=
  Claim7.holds_tied_plain_at .later [] [.data, .data, .data, .data] true Rows.textWritesCard.stood.harness true
    textWrites_proved (fun _ h => by cases h) (by kernel_rfl) (fun _ h => by cases h) textWrites_row_tie rfl ⟨rfl, rfl⟩ (by kernel_rfl) rfl
    (fun f fn hf hfn => by
      obtain rfl : f = 5 := Option.some.inj ((show Tryd.prog.funcNamed "cloakroom/cloakroomlaw14.TextWrites" = some 5 by kernel_rfl).symm.trans hf) |>.symm
      obtain rfl : fn = Tryd.f5 := (Option.some.inj (Tryd.func5.symm.trans hfn)).symm
      exact ⟨by kernel_rfl, fun j t ht => by
        rw [Tryd.params5] at ht
        have hm : t ∈ ([28] : List TypeId) := by simpa using Array.mem_of_getElem? ht
        have hall : (([28] : List TypeId).all fun u => !Tryd.prog.wantsStandIn u) = true := by kernel_rfl
        exact (show Tryd.prog.wantsStandIn t = false by simpa using List.all_eq_true.1 hall t hm)⟩)
    (by kernel_rfl)
#print axioms textWrites_card
end Go.Proofs.YthndmaajidobpaaDoor
