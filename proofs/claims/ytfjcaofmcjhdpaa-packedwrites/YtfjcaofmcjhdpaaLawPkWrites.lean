/-
  PackedWrites: an answer's packet, or the error, is the document's. No condition.
-/
import Derived.Test.YtfjcaofmcjhdpaaPkV
import Derived.Test.YtfjcaofmcjhdpaaPkK
namespace Go.Proofs.Ytfjcaofmcjhdpaa
open Go.Proofs.Ytfjcaofmcjhdpaa.It
open Go.ChangeShapes Go.WideShapes Go.ChangeAt Go.RowKit
open Go.ChangeMaps (open_string shut_string)
set_option linter.unusedSimpArgs false
set_option linter.unusedVariables false
set_option maxRecDepth 100000

set_option maxHeartbeats 4000000 in
theorem packedWrites_walk (w : World) (a : An) (io : Option Addr) (ic : Nat) (h : AnIn w a io ic) :
    Calls Try.prog 4 #[.agg (a.arr (.slice io a.items.length ic))] w fun e w' => e = .returned (.bool true) ∧ Below w.heap.size w w' := by
  obtain ⟨W, hW⟩ : ∃ W, W = w.alloc (.cells (a.arr (.slice io a.items.length ic)) 31) := ⟨_, rfl⟩
  have HB : Hid (Below w.heap.size w W) := by rw [hW]; exact g_alloc _ _
  have HX : Hid (GBx W w.heap.size (a.cl (.slice io a.items.length ic))) := by rw [hW]; exact GBx.made w (a.cl _) _
  have HLO := Hid.mk2 (fun V (hV : Below w.heap.size w V) => long15_any a io ic V (h.rd.below hV) h.key (fun y hy => (h.its y hy).1))
  have HP : Hid (∀ V, Below w.heap.size w V → Calls Try.prog 8 #[.agg (a.arr (.slice io a.items.length ic))] V fun e w' => (∃ (ao : Option Addr) (cap : Nat), e = .returned (.tuple #[.slice ao a.wp.length cap, .int .i64 a.wpE]) ∧ GRd EY w' ao a.wp cap) ∧ Below V.heap.size V w') := fun V hV => (pwrite_any a io ic V (h.rd.below hV) h.key h.pf).mono fun e w' q => ⟨q.ex, q.below⟩
  have HQ : Hid (∀ V, Below w.heap.size w V → Calls Try.prog 12 #[.agg (a.arr (.slice io a.items.length ic))] V fun e w' => (∃ (ao : Option Addr) (cap : Nat), e = .returned (.tuple #[.slice ao a.wp.length cap, .int .i64 a.wpE]) ∧ GRd EY w' ao a.wp cap) ∧ Below V.heap.size V w') := fun V hV => (rWrite17_any a io ic V (h.rd.below hV) h.key h.pf).mono fun e w' q => ⟨q.ex, q.below⟩
  obtain ⟨LG, hLG⟩ : ∃ LG, LG = a.lg := ⟨_, rfl⟩
  obtain ⟨RW, hRW⟩ : ∃ RW, RW = a.wp := ⟨_, rfl⟩
  obtain ⟨RE, hRE⟩ : ∃ RE, RE = a.wpE := ⟨_, rfl⟩
  rw [← hLG] at HLO
  rw [← hRW, ← hRE] at HP HQ
  clear hLG hRW hRE h
  have hcl : a.cl (.slice io a.items.length ic) = [.int .u8 a.kind, .int .u8 a.of_, .int .u8 a.rk, .slice io a.items.length ic, .int .u64 a.num, .bool a.yes, .string a.key] := rfl
  have har : a.arr (.slice io a.items.length ic) = #[.int .u8 a.kind, .int .u8 a.of_, .int .u8 a.rk, .slice io a.items.length ic, .int .u64 a.num, .bool a.yes, .string a.key] := rfl
  rw [hcl] at HX
  rw [har] at hW HLO HP HQ ⊢
  clear hcl har
  generalize a.items.length = N at HX hW HLO HP HQ ⊢
  generalize a.kind = A0 at HX hW HLO HP HQ ⊢
  generalize a.of_ = A1 at HX hW HLO HP HQ ⊢
  generalize a.rk = A2 at HX hW HLO HP HQ ⊢
  generalize a.num = A4 at HX hW HLO HP HQ ⊢
  generalize a.yes = A5 at HX hW HLO HP HQ ⊢
  generalize a.key = A6 at HX hW HLO HP HQ ⊢
  obtain ⟨RN, hRN⟩ : ∃ n, n = RW.length := ⟨_, rfl⟩
  rw [← hRN] at HP HQ
  have HRN := Hid.mk2 hRN
  clear hRN
  have x0 := HX.out.c 0 (by simp); have x1 := HX.out.c 1 (by simp); have x2 := HX.out.c 2 (by simp); have x3 := HX.out.c 3 (by simp); have x4 := HX.out.c 4 (by simp); have x5 := HX.out.c 5 (by simp); have x6 := HX.out.c 6 (by simp); simp only [List.getElem_cons_zero, List.getElem_cons_succ] at x0 x1 x2 x3 x4 x5 x6
  go_enter Try.func4, Try.ntmps4
  go_upto_region 1 with (fail)
  rw [← hW]
  clear hW
  cases LG with
  | true =>
    go_wp2_with (go_at_call 11; refine (HLO.out _ HB.out).mono ?_; rintro e w1 ⟨rfl, hb⟩; have HB1 := Hid.mk2 (g_on HB.out hb); clear hb)
    go_ret
    exact ⟨rfl, HB1.out⟩
  | false =>
    go_upto_region 3 with (go_at_call 11; refine (HLO.out _ HB.out).mono ?_; rintro e w1 ⟨rfl, hb⟩; have HB1 := Hid.mk2 (g_on HB.out hb); have HX1 := Hid.mk2 (HX.out.below hb); clear hb)
    clear x0 x1 x2 x3 x4 x5 x6
    have x0 := HX1.out.c 0 (by simp); have x1 := HX1.out.c 1 (by simp); have x2 := HX1.out.c 2 (by simp); have x3 := HX1.out.c 3 (by simp); have x4 := HX1.out.c 4 (by simp); have x5 := HX1.out.c 5 (by simp); have x6 := HX1.out.c 6 (by simp); simp only [List.getElem_cons_zero, List.getElem_cons_succ] at x0 x1 x2 x3 x4 x5 x6
    go_upto_region 4 with (go_at_call 8; refine (HP.out _ HB1.out).mono ?_; rintro e w3 ⟨⟨a3, c3, rfl, hg3⟩, hb⟩; have HG3 := Hid.mk2 hg3; have HB3 := Hid.mk2 (g_on HB1.out hb); have HX3 := Hid.mk2 (HX1.out.below hb); clear hb hg3)
    clear x0 x1 x2 x3 x4 x5 x6
    have x0 := HX3.out.c 0 (by simp); have x1 := HX3.out.c 1 (by simp); have x2 := HX3.out.c 2 (by simp); have x3 := HX3.out.c 3 (by simp); have x4 := HX3.out.c 4 (by simp); have x5 := HX3.out.c 5 (by simp); have x6 := HX3.out.c 6 (by simp); simp only [List.getElem_cons_zero, List.getElem_cons_succ] at x0 x1 x2 x3 x4 x5 x6
    go_upto_region 5 with (go_at_call 12; refine (HQ.out _ HB3.out).mono ?_; rintro e w4 ⟨⟨a4, c4, rfl, hg4⟩, hb⟩; have HG4 := Hid.mk2 hg4; have HB4 := Hid.mk2 (g_on HB3.out hb); have HG5 := Hid.mk2 (HG3.out.below hb); clear hb hg4)
    clear x0 x1 x2 x3 x4 x5 x6
    obtain ⟨X, hXX⟩ : ∃ X : ByteArray, X = ⟨RW.toArray⟩ := ⟨_, rfl⟩
    have kc1 := conv_rd HG5.out
    have kc2 := conv_rd HG4.out
    rw [← HRN.out, ← hXX] at kc1 kc2
    have hxx : (X.toList == X.toList) = true := by simp
    have hre : (RE == RE) = true := by simp
    clear hXX
    go_wp2
    go_ret
    exact ⟨by first | rfl | simp, HB4.out⟩

set_option maxRecDepth 100000 in
theorem packedWrites_lifted (os : Os) (started : os.Started) (H : Type) (enc : TypeId × Value → H) :
    ReturnsInHanded {} Try.checked os 4 .any (Rows.packedWritesSpec.pre6 enc Try.prog Try.f4 Rows.packedWritesRow.domain false) (Rows.packedWritesSpec.post enc Try.prog Try.f4 false true false false) := by
  refine returnsInHanded_of_change (C := Try.checked) (by kernel_rfl) started (by kernel_rfl) Try.func4
    (ChangeSpec.witness6 (enc := enc) (C := Try.checked) false ⟨#[], #[.agg #[.int .u8 0, .int .u8 0, .int .u8 0, .slice none 0 0, .int .u64 0, .bool false, .string ⟨#[]⟩]], []⟩ 8 (by kernel_rfl) (by kernel_rfl) (by kernel_rfl) (by kernel_rfl)) ?_
  intro W base args ds gs before hval0 hW hcnd _
  have hval : ∀ (j : Nat) t v, Try.f4.params[j]? = some t → args[j]? = some v → Value.okWide Try.prog W .any base t v := hval0
  have hW' := hW
  obtain ⟨p, q, hA0, hV, rfl, hfz, hnd⟩ := hW
  have hA : DataW.TrodAll enc Try.prog W 0 (fun _ => true) true Try.f4.params.toList args.toList ds p := hA0
  rw [Try.params4] at hA hval
  obtain ⟨v0, vs0, d0, ds0, p0, q0, hargs, rfl, rfl, h0, r0⟩ := trodAll_cons hA
  obtain ⟨rfl, rfl, rfl⟩ := trodAll_nil r0
  obtain rfl : args = #[v0] := by cases args; simp_all
  obtain ⟨rfl, rfl⟩ := trodVars_none hV
  have k0 := h0
  have lt0 : ∀ x ∈ p0, x.block < W.heap.size := by obtain ⟨m, hm⟩ := k0; exact DataW.trod_lt m _ _ _ hm
  obtain ⟨c0, ko0, kc0, rfl, g0⟩ := inAns_of (fun _ => rfl) (hval 0 31 v0 rfl rfl) h0
  clear hA0 hval0
  refine (packedWrites_walk W c0 ko0 kc0 g0).mono fun e W' ⟨he, bel⟩ => ?_
  subst he
  exact ⟨_, rfl, _, _, _, [], _, [], hW', trodAll_mk1 (shut_bool Try.underlying4 _), (trodAll_cons_mk (Below.trod laidOut_all (by kernel_rfl) (of_decide_eq_true (by kernel_rfl)) k0 bel lt0) trodAll_mk0), rfl, bel.frame _, fun h => by cases h⟩

theorem packedWrites_proved : Rows.PackedWritesSaid :=
  OpenClaim.holds_of_wide 4 Try.f4 rfl rfl rfl rfl rfl rfl rfl ⟨rfl, rfl, rfl, rfl, rfl⟩ rfl rfl rfl rfl rfl (by kernel_rfl) Try.func4 (by kernel_rfl)
    (of_decide_eq_true (by kernel_rfl)) (by unfold Func.isWrapper; first | (rw [if_pos (by decide +kernel)]; kernel_rfl) | (rw [if_neg (by decide +kernel)]; exact ⟨rfl, rfl⟩))
    (fun os started H enc _ => packedWrites_lifted os started H enc)
#print axioms packedWrites_proved
end Go.Proofs.Ytfjcaofmcjhdpaa
