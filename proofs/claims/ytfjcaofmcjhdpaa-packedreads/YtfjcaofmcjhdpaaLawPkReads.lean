/-
  PackedReads: the answer that bytes begin with is the document's, and the bytes stay. No condition.
-/
import Derived.Test.YtfjcaofmcjhdpaaPkQ
import Derived.Test.YtfjcaofmcjhdpaaPkK
namespace Go.Proofs.Ytfjcaofmcjhdpaa
open Go.Proofs.Ytfjcaofmcjhdpaa.It
open Go.ChangeShapes Go.WideShapes Go.ChangeAt Go.RowKit
open Go.ChangeMaps (open_string shut_string)
set_option linter.unusedSimpArgs false
set_option linter.unusedVariables false
set_option maxRecDepth 100000

set_option maxHeartbeats 4000000 in
theorem packedReads_walk (w : World) (bo : Option Addr) (L : List UInt8) (bc : Nat) (hl : GRd EY w bo L bc) :
    Calls Try.prog 5 #[.slice bo L.length bc] w fun e w' => e = .returned (.bool true) ∧ Below w.heap.size w w' := by
  have HL := Hid.mk2 (fun V (hV : Below w.heap.size w V) => hl.below hV)
  have hll : (L.length : Int) ≤ 9223372036854775807 := by have := hl.len; omega
  obtain ⟨N, hN⟩ : ∃ n, n = L.length := ⟨_, rfl⟩
  have HN := Hid.mk2 hN
  rw [← hN] at hll ⊢
  by_cases hA : 6000 < N ∧ N ≤ 16384
  · have h1 : (6000 : Int) < (N : Int) := by omega
    have h2 : (N : Int) ≤ 16384 := by omega
    clear hl hN hA
    go_enter Try.func5, Try.ntmps5
    go_wp2
    go_ret
    exact ⟨rfl, Below.refl _ _⟩
  by_cases hB : 17000 < N
  · have h1 : (6000 : Int) < (N : Int) := by omega
    have h2 : ¬ (N : Int) ≤ 16384 := by omega
    have h3 : (17000 : Int) < (N : Int) := by omega
    clear hl hN hA hB
    go_enter Try.func5, Try.ntmps5
    go_wp2
    go_ret
    exact ⟨rfl, Below.refl _ _⟩
  have h17 : N ≤ 17000 := by omega
  obtain ⟨⟨⟨xk, xo, xr, xi, xn, xy, xs⟩, n, er⟩, hX⟩ : ∃ q, q = readQ L := ⟨_, rfl⟩
  have HP : Hid (∀ V ao cap, Below w.heap.size w V → GRd EY V ao L cap → Calls Try.prog 9 #[.slice ao N cap] V fun e V' => PrR V V' (⟨xk, xo, xr, xi, xn, xy, xs⟩, n, er) e) := fun V ao cap hV hr => by
    rw [hX]
    exact pread_any V ao L cap hr N hN (by omega)
  have HQ : Hid (∀ V, Below w.heap.size w V → Calls Try.prog 13 #[.slice bo N bc] V fun e V' => PrR V V' (⟨xk, xo, xr, xi, xn, xy, xs⟩, n, er) e) := fun V hV => by
    rw [hX]
    exact rRead17_any V bo L bc (HL.out V hV) N hN (by omega)
  have HS : Hid (∀ V ko kc mo mc, GRd EM V ko xi kc → GRd EM V mo xi mc → Calls Try.prog 14 #[.agg #[.int .u8 xk, .int .u8 xo, .int .u8 xr, .slice ko xi.length kc, .int .u64 xn, .bool xy, .string xs], .agg #[.int .u8 xk, .int .u8 xo, .int .u8 xr, .slice mo xi.length mc, .int .u64 xn, .bool xy, .string xs]] V fun e w' => e = .returned (.bool true) ∧ Below V.heap.size V w') := fun V ko kc mo mc h1 h2 => same15_any ⟨xk, xo, xr, xi, xn, xy, xs⟩ ko kc mo mc V h1 h2
  obtain ⟨I, hI⟩ : ∃ i, i = xi.length := ⟨_, rfl⟩
  rw [← hI] at HS
  have HI := Hid.mk2 hI
  have HLC : Hid (([] : List UInt8).length + L.length ≤ 1000000) := by show _ ≤ _; rw [← hN]; simp; omega
  have HLW := Hid.mk2 hl
  clear hl hX hI hN
  have hfront : ((6000 : Int) < (N : Int) ∧ ¬ (N : Int) ≤ 16384 ∧ ¬ (17000 : Int) < (N : Int)) ∨ (¬ (6000 : Int) < (N : Int) ∧ ¬ (17000 : Int) < (N : Int)) := by omega
  clear hA hB
  go_enter Try.func5, Try.ntmps5
  go_upto_region 1 with (fail)
  go_cut [22] from 10 to 21 (fun s24 wx => s24 = .bool false ∧ w = wx)
  case first =>
    rcases hfront with ⟨h1, h2, h3⟩ | ⟨h1, h3⟩
    all_goals
      go_wp2
      go_meet
      case rel => exact ⟨by first | rfl | simp, rfl⟩
  case rest =>
    rename_i hK
    refine hK _ _ ?_
    clear hK hfront
    obtain ⟨rfl, rfl⟩ := hcut
    go_upto_region 5 with (at_builtin; refine g_app okY rfl _ _ _ rfl rfl w.heap.size (.slice none 0 0) [] (GOwn.nil _ _) rfl bo bc L N HN.out rfl HLW.out HLC.out (Nat.le_refl _) ?_; intro v4 w4 hO4 hG4; obtain ⟨oo, oc, hv4, hro⟩ := hO4.rd okY; rw [List.nil_append, ← HN.out] at hv4; rw [List.nil_append] at hro; subst hv4; have HB4 := Hid.mk2 (hG4.below (GOwn.nil (E := EY) w w.heap.size) (Nat.le_refl _)); have HO4 := Hid.mk2 hro; clear hO4 hG4 hro)
    go_upto_region 6 with (go_at_call 9; refine (HP.out _ _ _ HB4.out HO4.out).mono ?_; rintro e w5 ⟨⟨lo1, lc1, rfl, hr1⟩, hb5⟩; have HR1 := Hid.mk2 hr1; have HB5 := Hid.mk2 (g_on HB4.out hb5); have HO5 := Hid.mk2 (HO4.out.below hb5); clear hr1 hb5; simp only [An.arr]; rw [← HI.out])
    obtain ⟨W6, hW6⟩ : ∃ W6, W6 = w5.alloc (.cells #[.int .u8 xk, .int .u8 xo, .int .u8 xr, .slice lo1 I lc1, .int .u64 xn, .bool xy, .string xs] 31) := ⟨_, rfl⟩
    have HP6 : Hid (GBx W6 w5.heap.size [.int .u8 xk, .int .u8 xo, .int .u8 xr, .slice lo1 I lc1, .int .u64 xn, .bool xy, .string xs]) := by rw [hW6]; exact GBx.made w5 [.int .u8 xk, .int .u8 xo, .int .u8 xr, .slice lo1 I lc1, .int .u64 xn, .bool xy, .string xs] _
    have hb6 : Below w5.heap.size w5 W6 := by rw [hW6]; exact g_alloc _ _
    have HB6 := Hid.mk2 (g_on HB5.out hb6)
    have HO6 := Hid.mk2 (HO5.out.below hb6)
    have HR6 := Hid.mk2 (HR1.out.below hb6)
    rw [← hW6]
    clear hW6 hb6
    obtain ⟨P, hP⟩ : ∃ P, P = w5.heap.size := ⟨_, rfl⟩
    rw [← hP] at HP6 ⊢
    clear hP
    go_upto_region 7 with (go_at_call 13; refine (HQ.out _ HB6.out).mono ?_; rintro e w7 ⟨⟨lo2, lc2, rfl, hr2⟩, hb7⟩; have HR7 := Hid.mk2 hr2; have HB7 := Hid.mk2 (g_on HB6.out hb7); have HO7 := Hid.mk2 (HO6.out.below hb7); have HP7 := Hid.mk2 (HP6.out.below hb7); have HRA := Hid.mk2 (HR6.out.below hb7); clear hr2 hb7; simp only [An.arr]; rw [← HI.out])
    obtain ⟨W8, hW8⟩ : ∃ W8, W8 = w7.alloc (.cells #[.int .u8 xk, .int .u8 xo, .int .u8 xr, .slice lo2 I lc2, .int .u64 xn, .bool xy, .string xs] 31) := ⟨_, rfl⟩
    have HQ8 : Hid (GBx W8 w7.heap.size [.int .u8 xk, .int .u8 xo, .int .u8 xr, .slice lo2 I lc2, .int .u64 xn, .bool xy, .string xs]) := by rw [hW8]; exact GBx.made w7 [.int .u8 xk, .int .u8 xo, .int .u8 xr, .slice lo2 I lc2, .int .u64 xn, .bool xy, .string xs] _
    have hb8 : Below w7.heap.size w7 W8 := by rw [hW8]; exact g_alloc _ _
    have HB8 := Hid.mk2 (g_on HB7.out hb8)
    have HO8 := Hid.mk2 (HO7.out.below hb8)
    have HR8 := Hid.mk2 (HR7.out.below hb8)
    have HRB := Hid.mk2 (HRA.out.below hb8)
    have HP8 := Hid.mk2 (HP7.out.below hb8)
    rw [← hW8]
    clear hW8 hb8
    obtain ⟨Q, hQ⟩ : ∃ Q, Q = w7.heap.size := ⟨_, rfl⟩
    rw [← hQ] at HQ8 ⊢
    clear hQ
    have p0 := HP8.out.c 0 (by simp); have p1 := HP8.out.c 1 (by simp); have p2 := HP8.out.c 2 (by simp); have p3 := HP8.out.c 3 (by simp); have p4 := HP8.out.c 4 (by simp); have p5 := HP8.out.c 5 (by simp); have p6 := HP8.out.c 6 (by simp); simp only [List.getElem_cons_zero, List.getElem_cons_succ] at p0 p1 p2 p3 p4 p5 p6
    have q0 := HQ8.out.c 0 (by simp); have q1 := HQ8.out.c 1 (by simp); have q2 := HQ8.out.c 2 (by simp); have q3 := HQ8.out.c 3 (by simp); have q4 := HQ8.out.c 4 (by simp); have q5 := HQ8.out.c 5 (by simp); have q6 := HQ8.out.c 6 (by simp); simp only [List.getElem_cons_zero, List.getElem_cons_succ] at q0 q1 q2 q3 q4 q5 q6
    obtain ⟨X, hXX⟩ : ∃ X : ByteArray, X = ⟨L.toArray⟩ := ⟨_, rfl⟩
    have HKC : Hid (∀ V, Below W8.heap.size W8 V → (convert 22 9 (.slice oo N oc)).run Try.prog V = .ok (.string X) V ∧ (convert 22 9 (.slice bo N bc)).run Try.prog V = .ok (.string X) V) := fun V hV => by
      have h1 := conv_rd (HO8.out.below hV)
      have h2 := conv_rd (HL.out V (g_on HB8.out hV))
      rw [← HN.out, ← hXX] at h1 h2
      exact ⟨h1, h2⟩
    have hxx : (X.toList == X.toList) = true := by simp
    clear hXX
    go_wp2_with (go_at_call 14; refine (HS.out _ _ _ _ _ HRB.out HR8.out).mono ?_; rintro e w9 ⟨rfl, hb9⟩; have HB9 := Hid.mk2 (g_on HB8.out hb9); obtain ⟨kc1, kc2⟩ := HKC.out _ hb9; clear hb9)
    go_ret
    exact ⟨by first | rfl | simp, HB9.out⟩

set_option maxRecDepth 100000 in
theorem packedReads_lifted (os : Os) (started : os.Started) (H : Type) (enc : TypeId × Value → H) :
    ReturnsInHanded {} Try.checked os 5 .any (Rows.packedReadsSpec.pre6 enc Try.prog Try.f5 Rows.packedReadsRow.domain false) (Rows.packedReadsSpec.post enc Try.prog Try.f5 false true false false) := by
  refine returnsInHanded_of_change (C := Try.checked) (by kernel_rfl) started (by kernel_rfl) Try.func5
    (ChangeSpec.witness6 (enc := enc) (C := Try.checked) false ⟨#[], #[.slice none 0 0], []⟩ 8 (by kernel_rfl) (by kernel_rfl) (by kernel_rfl) (by kernel_rfl)) ?_
  intro W base args ds gs before hval0 hW hcnd _
  have hval : ∀ (j : Nat) t v, Try.f5.params[j]? = some t → args[j]? = some v → Value.okWide Try.prog W .any base t v := hval0
  have hW' := hW
  obtain ⟨p, q, hA0, hV, rfl, hfz, hnd⟩ := hW
  have hA : DataW.TrodAll enc Try.prog W 0 (fun _ => true) true Try.f5.params.toList args.toList ds p := hA0
  rw [Try.params5] at hA hval
  obtain ⟨v0, vs0, d0, ds0, p0, q0, hargs, rfl, rfl, h0, r0⟩ := trodAll_cons hA
  obtain ⟨rfl, rfl, rfl⟩ := trodAll_nil r0
  obtain rfl : args = #[v0] := by cases args; simp_all
  obtain ⟨rfl, rfl⟩ := trodVars_none hV
  have k0 := h0
  have lt0 : ∀ x ∈ p0, x.block < W.heap.size := by obtain ⟨m, hm⟩ := k0; exact DataW.trod_lt m _ _ _ hm
  obtain ⟨ao0, l0, cap0, rfl, g0⟩ := inBytes14_of (fun _ => rfl) (hval 0 22 v0 rfl rfl) h0
  clear hA0 hval0
  refine (packedReads_walk W ao0 l0 cap0 g0).mono fun e W' ⟨he, bel⟩ => ?_
  subst he
  exact ⟨_, rfl, _, _, _, [], _, [], hW', trodAll_mk1 (shut_bool Try.underlying4 _), (trodAll_cons_mk (Below.trod laidOut_all (by kernel_rfl) (of_decide_eq_true (by kernel_rfl)) k0 bel lt0) trodAll_mk0), rfl, bel.frame _, fun h => by cases h⟩

theorem packedReads_proved : Rows.PackedReadsSaid :=
  OpenClaim.holds_of_wide 5 Try.f5 rfl rfl rfl rfl rfl rfl rfl ⟨rfl, rfl, rfl, rfl, rfl⟩ rfl rfl rfl rfl rfl (by kernel_rfl) Try.func5 (by kernel_rfl)
    (of_decide_eq_true (by kernel_rfl)) (by unfold Func.isWrapper; first | (rw [if_pos (by decide +kernel)]; kernel_rfl) | (rw [if_neg (by decide +kernel)]; exact ⟨rfl, rfl⟩))
    (fun os started H enc _ => packedReads_lifted os started H enc)
#print axioms packedReads_proved
end Go.Proofs.Ytfjcaofmcjhdpaa
