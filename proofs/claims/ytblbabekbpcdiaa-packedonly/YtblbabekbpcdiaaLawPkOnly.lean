/-
  PackedOnly: what is read of bytes may be, and is written as the bytes that it was read of. No condition.
-/
import Derived.Test.YtblbabekbpcdiaaPkK
namespace Go.Proofs.Ytblbabekbpcdiaa
open Go.Proofs.Ytblbabekbpcdiaa.It
open Go.ChangeShapes Go.WideShapes Go.ChangeAt Go.RowKit
open Go.ChangeMaps (open_string shut_string)
set_option linter.unusedSimpArgs false
set_option linter.unusedVariables false
set_option maxRecDepth 100000

set_option maxHeartbeats 4000000 in
theorem packedOnly_walk (w : World) (bo : Option Addr) (L : List UInt8) (bc : Nat) (hl : GRd EY w bo L bc) :
    Calls Try.prog 7 #[.slice bo L.length bc] w fun e w' => e = .returned (.bool true) ∧ Below w.heap.size w w' := by
  have HA := Hid.mk2 (fun V (hV : Below w.heap.size w V) => alive17_any V)
  have HL := Hid.mk2 (fun V (hV : Below w.heap.size w V) => hl.below hV)
  have hll : (L.length : Int) ≤ 9223372036854775807 := by have := hl.len; omega
  obtain ⟨LL, hLL⟩ : ∃ n, n = L.length := ⟨_, rfl⟩
  have HLL := Hid.mk2 hLL
  rw [← hLL] at hll
  rw [← hLL]
  by_cases h1 : (6000 : Int) < (LL : Int)
  · clear hl hLL
    go_enter Try.func7, Try.ntmps7
    go_wp2_with (go_at_call 10; refine (HA.out _ (Below.refl _ _)).mono ?_; rintro e w0 ⟨rfl, hb0⟩; have HB0 := Hid.mk2 hb0; clear hb0)
    go_ret
    exact ⟨rfl, HB0.out⟩
  obtain ⟨⟨x, n, er⟩, hX⟩ : ∃ q, q = readQ L := ⟨_, rfl⟩
  have HFW : Hid (readQ L = (x, n, er)) := hX.symm
  have HN : Hid (∀ V, Below w.heap.size w V → Calls Try.prog 9 #[.slice bo LL bc] V fun e V' => (∃ lo lc, e = .returned (.tuple #[.agg (x.arr (.slice lo x.items.length lc)), .int .i64 (n : Int), .int .i64 er]) ∧ GRd EM V' lo x.items lc) ∧ Below V.heap.size V V') := fun V hV => (pread_any V bo L bc (HL.out V hV) LL hLL (by omega)).mono fun e V' q => by
    have q1 := q.ex
    rw [HFW.out] at q1
    exact ⟨q1, q.below⟩
  obtain ⟨o1, o2⟩ := readQ_none HFW.out
  by_cases hz : er ≠ 0 ∨ n = 0
  · have hn : n = 0 := hz.elim (fun h => o2 h) (fun h => h)
    have hx := o1 hn
    subst hx
    subst hn
    have HZ := Hid.mk2 zan_arr
    by_cases he : er = 0
    · subst he
      clear hl hLL hX o1 o2 hz
      go_enter Try.func7, Try.ntmps7
      go_wp2_with (first
        | (go_at_call 10; refine (HA.out _ (Below.refl _ _)).mono ?_; rintro e w0 ⟨rfl, hb0⟩; have HB0 := Hid.mk2 hb0; clear hb0)
        | (go_at_call 9; refine (HN.out w0 HB0.out).mono ?_; rintro e w1 ⟨⟨k1, c1, he1, hk1⟩, hb1⟩; (try dsimp only at he1 hk1); obtain ⟨CS1, hCS⟩ : ∃ CS, CS = zan.cl (.slice k1 zan.items.length c1) := ⟨_, rfl⟩; have hAS : zan.arr (.slice k1 zan.items.length c1) = CS1.toArray := (by rw [hCS]; rfl); rw [hAS] at he1; subst he1; have HK1 := Hid.mk2 hk1; have HB1 := Hid.mk2 (g_on HB0.out hb1); have HAS1 := Hid.mk2 hAS; have HCS1 : Hid (CS1.length = 7 ∧ (∀ v ∈ CS1, v.oneCell' = true) ∧ CS1[0]? = some (.int .u8 zan.kind) ∧ CS1[1]? = some (.int .u8 zan.of_)) := (by rw [hCS]; exact ⟨rfl, ancl_one _ _ _ _, rfl, rfl⟩); clear hk1 hb1 hCS hAS)
        | (refine ywpl_store rfl 31 _ _ rfl w1.heap.size CS1 (zan.cl (.slice none 0 0)) rfl rfl (by rw [HCS1.out.1]; kernel_rfl) (GBx.made w1 _ _) (by rw [HCS1.out.1]; rfl) HCS1.out.2.1 ?_; obtain ⟨w2, hw2⟩ : ∃ w2, w2 = ysets (w1.alloc (.cells (zan.cl (.slice none 0 0)).toArray 31)) w1.heap.size 0 CS1 := ⟨_, rfl⟩; (first | rw [← hw2] | (change wpList _ _ _ _ _ (ysets (w1.alloc (.cells (zan.cl (.slice none 0 0)).toArray 31)) w1.heap.size 0 CS1); rw [← hw2])); have hb2 : Below w1.heap.size w1 w2 := (by rw [hw2]; exact (g_alloc w1 _).grown (ysets_grown _ _ _ _) (by simp) (fun k hk => by cases hk; exact Nat.le_refl _)); have HD2 : Hid (GBx w2 w1.heap.size CS1) := (by rw [hw2]; exact ybox (GBx.made w1 _ _) _ (by rw [HCS1.out.1]; rfl)); have HB2 := Hid.mk2 (g_on HB1.out hb2); have HK2 := Hid.mk2 (HK1.out.below hb2); clear hw2 hb2)
        | (refine ywpl_load_g (by first | rfl | simp [Region.wanted, yielded]) 31 _ rfl w1.heap.size rfl CS1 HD2.out _ Try.underlying31 rfl (by rw [HCS1.out.1]; kernel_rfl) ?_)
        | (go_at_call 14; rw [← HAS1.out, ← HZ.out]; refine (same15_any zan _ _ none 0 w2 HK2.out (GRd.nil _)).mono ?_; rintro e w9 ⟨rfl, hb9⟩; have HB9 := Hid.mk2 (g_on HB2.out hb9); clear hb9))
      go_ret
      exact ⟨by first | rfl | simp, HB9.out⟩
    · have heb : (er == 0) = false := by simpa using he
      clear hl hLL hX o1 o2 hz
      go_enter Try.func7, Try.ntmps7
      go_wp2_with (first
        | (go_at_call 10; refine (HA.out _ (Below.refl _ _)).mono ?_; rintro e w0 ⟨rfl, hb0⟩; have HB0 := Hid.mk2 hb0; clear hb0)
        | (go_at_call 9; refine (HN.out w0 HB0.out).mono ?_; rintro e w1 ⟨⟨k1, c1, he1, hk1⟩, hb1⟩; (try dsimp only at he1 hk1); obtain ⟨CS1, hCS⟩ : ∃ CS, CS = zan.cl (.slice k1 zan.items.length c1) := ⟨_, rfl⟩; have hAS : zan.arr (.slice k1 zan.items.length c1) = CS1.toArray := (by rw [hCS]; rfl); rw [hAS] at he1; subst he1; have HK1 := Hid.mk2 hk1; have HB1 := Hid.mk2 (g_on HB0.out hb1); have HAS1 := Hid.mk2 hAS; have HCS1 : Hid (CS1.length = 7 ∧ (∀ v ∈ CS1, v.oneCell' = true) ∧ CS1[0]? = some (.int .u8 zan.kind) ∧ CS1[1]? = some (.int .u8 zan.of_)) := (by rw [hCS]; exact ⟨rfl, ancl_one _ _ _ _, rfl, rfl⟩); clear hk1 hb1 hCS hAS)
        | (refine ywpl_store rfl 31 _ _ rfl w1.heap.size CS1 (zan.cl (.slice none 0 0)) rfl rfl (by rw [HCS1.out.1]; kernel_rfl) (GBx.made w1 _ _) (by rw [HCS1.out.1]; rfl) HCS1.out.2.1 ?_; obtain ⟨w2, hw2⟩ : ∃ w2, w2 = ysets (w1.alloc (.cells (zan.cl (.slice none 0 0)).toArray 31)) w1.heap.size 0 CS1 := ⟨_, rfl⟩; (first | rw [← hw2] | (change wpList _ _ _ _ _ (ysets (w1.alloc (.cells (zan.cl (.slice none 0 0)).toArray 31)) w1.heap.size 0 CS1); rw [← hw2])); have hb2 : Below w1.heap.size w1 w2 := (by rw [hw2]; exact (g_alloc w1 _).grown (ysets_grown _ _ _ _) (by simp) (fun k hk => by cases hk; exact Nat.le_refl _)); have HD2 : Hid (GBx w2 w1.heap.size CS1) := (by rw [hw2]; exact ybox (GBx.made w1 _ _) _ (by rw [HCS1.out.1]; rfl)); have HB2 := Hid.mk2 (g_on HB1.out hb2); have HK2 := Hid.mk2 (HK1.out.below hb2); clear hw2 hb2)
        | (refine ywpl_load_g (by first | rfl | simp [Region.wanted, yielded]) 31 _ rfl w1.heap.size rfl CS1 HD2.out _ Try.underlying31 rfl (by rw [HCS1.out.1]; kernel_rfl) ?_)
        | (go_at_call 14; rw [← HAS1.out, ← HZ.out]; refine (same15_any zan _ _ none 0 w2 HK2.out (GRd.nil _)).mono ?_; rintro e w9 ⟨rfl, hb9⟩; have HB9 := Hid.mk2 (g_on HB2.out hb9); clear hb9))
      go_ret
      exact ⟨by first | rfl | simp, HB9.out⟩
  have he : er = 0 := by
    by_cases h : er = 0
    · exact h
    · exact absurd (.inl h) hz
  subst he
  have h0 : n ≠ 0 := fun h => hz (.inr h)
  have h0i : ¬ ((n : Int) = 0) := by omega
  have h0b : ((n : Int) == 0) = false := by simpa using h0
  obtain ⟨m1, m2, m3, m4, m6⟩ := wp_read HFW.out h0
  have HWL : Hid (x.wp.length = n) := by show _ = _; rw [m3, List.length_take]; omega
  have HWR := Hid.mk2 m3
  have HWS := Hid.mk2 (pmay_short m1 m6)
  have HFT := Hid.mk2 m6
  have HWE0 := Hid.mk2 m2
  have HMY := Hid.mk2 m1
  have HO1 : Hid (n ≤ LL) := by rw [hLL]; exact m4
  have hn1 : ¬ (LL : Int) < (n : Int) := by have := HO1.out; omega
  have hn2 : (n : Int) ≤ (LL : Int) := by have := HO1.out; omega
  have hne : L ≠ [] := by intro e; rw [e] at hLL; simp at hLL; have := HO1.out; omega
  obtain ⟨b, off, rfl, _, _⟩ := hl.uy hne
  have hbc : (n : Int) ≤ (bc : Int) := by have := hl.hl; have := HO1.out; omega
  have hbcc : (bc : Int) ≤ 9223372036854775807 := by have := hl.hc; omega
  have hn0 : (0 : Int) ≤ (n : Int) := by omega
  obtain ⟨X, hXX⟩ : ∃ X : ByteArray, X = ⟨(L.take n).toArray⟩ := ⟨_, rfl⟩
  have HXX := Hid.mk2 hXX
  have hxx : (X.toList == X.toList) = true := by simp
  obtain ⟨xk, hxk⟩ : ∃ k, k = x.kind := ⟨_, rfl⟩
  have HXK := Hid.mk2 hxk
  obtain ⟨xo, hxo⟩ : ∃ k, k = x.of_ := ⟨_, rfl⟩
  have HXO := Hid.mk2 hxo
  clear hl hLL hX o1 o2 m1 m2 m3 m4 m6 hz hne hXX hxk hxo
  go_enter Try.func7, Try.ntmps7
  go_upto_region 8 with (first
    | (go_at_call 10; refine (HA.out _ (Below.refl _ _)).mono ?_; rintro e w0 ⟨rfl, hb0⟩; have HB0 := Hid.mk2 hb0; clear hb0)
    | (go_at_call 9; refine (HN.out w0 HB0.out).mono ?_; rintro e w1 ⟨⟨k1, c1, he1, hk1⟩, hb1⟩; (try dsimp only at he1 hk1); obtain ⟨CS1, hCS⟩ : ∃ CS, CS = x.cl (.slice k1 x.items.length c1) := ⟨_, rfl⟩; have hAS : x.arr (.slice k1 x.items.length c1) = CS1.toArray := (by rw [hCS]; rfl); rw [hAS] at he1; subst he1; have HK1 := Hid.mk2 hk1; have HB1 := Hid.mk2 (g_on HB0.out hb1); have HAS1 := Hid.mk2 hAS; have HCS1 : Hid (CS1.length = 7 ∧ (∀ v ∈ CS1, v.oneCell' = true) ∧ CS1[0]? = some (.int .u8 x.kind) ∧ CS1[1]? = some (.int .u8 x.of_)) := (by rw [hCS]; exact ⟨rfl, ancl_one _ _ _ _, rfl, rfl⟩); clear hk1 hb1 hCS hAS)
    | (refine ywpl_store rfl 31 _ _ rfl w1.heap.size CS1 (zan.cl (.slice none 0 0)) rfl rfl (by rw [HCS1.out.1]; kernel_rfl) (GBx.made w1 _ _) (by rw [HCS1.out.1]; rfl) HCS1.out.2.1 ?_; obtain ⟨w2, hw2⟩ : ∃ w2, w2 = ysets (w1.alloc (.cells (zan.cl (.slice none 0 0)).toArray 31)) w1.heap.size 0 CS1 := ⟨_, rfl⟩; (first | rw [← hw2] | (change wpList _ _ _ _ _ (ysets (w1.alloc (.cells (zan.cl (.slice none 0 0)).toArray 31)) w1.heap.size 0 CS1); rw [← hw2])); have hb2 : Below w1.heap.size w1 w2 := (by rw [hw2]; exact (g_alloc w1 _).grown (ysets_grown _ _ _ _) (by simp) (fun k hk => by cases hk; exact Nat.le_refl _)); have HD2 : Hid (GBx w2 w1.heap.size CS1) := (by rw [hw2]; exact ybox (GBx.made w1 _ _) _ (by rw [HCS1.out.1]; rfl)); have HB2 := Hid.mk2 (g_on HB1.out hb2); have HK2 := Hid.mk2 (HK1.out.below hb2); clear hw2 hb2)
    | (refine ywpl_load_g (by first | rfl | simp [Region.wanted, yielded]) 31 _ rfl w1.heap.size rfl CS1 HD2.out _ Try.underlying31 rfl (by rw [HCS1.out.1]; kernel_rfl) ?_)
    | (go_at_call 8; rw [← HAS1.out]; refine (pwrite_any x k1 c1 w2 HK2.out HWS.out HFT.out).mono ?_; rintro e w3 ⟨⟨a3, c3, he3, hg3⟩, hb3⟩; rw [HWE0.out, HWL.out] at he3; subst he3; rw [HWR.out] at hg3; have HG3 := Hid.mk2 hg3; have HB3 := Hid.mk2 (g_on HB2.out hb3); have HD3 := Hid.mk2 (HD2.out.below hb3); have HK3 := Hid.mk2 (HK2.out.below hb3); clear hb3 hg3))
  have hcv1 : ∀ p : Beh w3, (convert 22 9 (.slice a3 n c3)).run Try.prog p.v = .ok (.string X) p.v := by
    intro p
    have h := conv_rd (HG3.out.below p.ok)
    rw [List.length_take, ← HLL.out, show min n LL = n by have := HO1.out; omega, ← HXX.out] at h
    exact h
  have hcv2 : ∀ p : Beh w3, (convert 22 9 (.slice (some ⟨b, off, none⟩) n bc)).run Try.prog p.v = .ok (.string X) p.v := by
    intro p
    have h := conv_rd ((gr_take (HL.out w3 HB3.out) n).below p.ok)
    rw [List.length_take, ← HLL.out, show min n LL = n by have := HO1.out; omega, ← HXX.out] at h
    exact h
  have hlt := HD3.out.lt
  have HCK : Hid (∀ p : Beh w3, Calls Try.prog 15 #[.agg CS1.toArray] p.v fun e w' => e = .returned (.int .i64 0) ∧ Below p.v.heap.size p.v w') := by
    intro p
    have h := wCheck_any x k1 c1 p.v (HK3.out.below p.ok) HWS.out
    rw [if_pos HMY.out, HAS1.out] at h
    exact h
  obtain ⟨v0, v1, v2, v3, v4, v5, v6, hcs⟩ := seven HCS1.out.1
  have e0 : v0 = .int .u8 xk := by have h := HCS1.out.2.2.1; rw [hcs] at h; rw [HXK.out]; exact Option.some.inj h
  have e1 : v1 = .int .u8 xo := by have h := HCS1.out.2.2.2; rw [hcs] at h; rw [HXO.out]; exact Option.some.inj h
  rw [e0, e1] at hcs
  have HD4 : Hid (GBx w3 w1.heap.size [.int .u8 xk, .int .u8 xo, v2, v3, v4, v5, v6]) := by show GBx _ _ _; rw [← hcs]; exact HD3.out
  have HCK2 : Hid (∀ p : Beh w3, Calls Try.prog 15 #[.agg #[.int .u8 xk, .int .u8 xo, v2, v3, v4, v5, v6]] p.v fun e w' => e = .returned (.int .i64 0) ∧ Below p.v.heap.size p.v w') := by
    intro p
    have h := HCK.out p
    rw [hcs] at h
    exact h
  have o2 := HCS1.out.2.1
  rw [hcs] at o2
  have y0 := HD4.out.c 0 (by simp)
  have y1 := HD4.out.c 1 (by simp)
  have y2 := HD4.out.c 2 (by simp)
  have y3 := HD4.out.c 3 (by simp)
  have y4 := HD4.out.c 4 (by simp)
  have y5 := HD4.out.c 5 (by simp)
  have y6 := HD4.out.c 6 (by simp)
  simp only [List.getElem_cons_zero, List.getElem_cons_succ] at y0 y1 y2 y3 y4 y5 y6
  have d0 : ∀ p : Beh w3, p.v.cell? ⟨w1.heap.size, 0, none⟩ = _ := cell_beh hlt y0
  have d1 : ∀ p : Beh w3, p.v.cell? ⟨w1.heap.size, 1, none⟩ = _ := cell_beh hlt y1
  have d2 : ∀ p : Beh w3, p.v.cell? ⟨w1.heap.size, 2, none⟩ = _ := cell_beh hlt y2
  have d3 : ∀ p : Beh w3, p.v.cell? ⟨w1.heap.size, 3, none⟩ = _ := cell_beh hlt y3
  have d4 : ∀ p : Beh w3, p.v.cell? ⟨w1.heap.size, 4, none⟩ = _ := cell_beh hlt y4
  have d5 : ∀ p : Beh w3, p.v.cell? ⟨w1.heap.size, 5, none⟩ = _ := cell_beh hlt y5
  have d6 : ∀ p : Beh w3, p.v.cell? ⟨w1.heap.size, 6, none⟩ = _ := cell_beh hlt y6
  have hmix : Try.prog.follows .mixedOrders = true := by kernel_rfl
  clear y0 y1 y2 y3 y4 y5 y6 hcs e0 e1 HCK
  clear hlt
  go_upto_region 8 with (fail)
  refine wp_region_quiet_beh hmix (by kernel_rfl) ?_
  repeat (first | go_big_quiet_skip | (quiet_step (first
    | (go_at_call 15; exact Calls.beh_of (HCK2.out _)))))
  refine wpQuiet_nil ?_
  intro _ hw'
  obtain ⟨⟨wq, hq⟩, hw2⟩ := hw'
  subst hw2
  go_wp2
  go_ret
  exact ⟨by first | rfl | simp, g_on HB3.out hq⟩

set_option maxRecDepth 100000 in
theorem packedOnly_lifted (os : Os) (started : os.Started) (H : Type) (enc : TypeId × Value → H) :
    ReturnsInHanded {} Try.checked os 7 .any (Rows.packedOnlySpec.pre6 enc Try.prog Try.f7 Rows.packedOnlyRow.domain false) (Rows.packedOnlySpec.post enc Try.prog Try.f7 false true false false) := by
  refine returnsInHanded_of_change (C := Try.checked) (by kernel_rfl) started (by kernel_rfl) Try.func7
    (ChangeSpec.witness6 (enc := enc) (C := Try.checked) false ⟨#[], #[.slice none 0 0], []⟩ 8 (by kernel_rfl) (by kernel_rfl) (by kernel_rfl) (by kernel_rfl)) ?_
  intro W base args ds gs before hval0 hW hcnd _
  have hval : ∀ (j : Nat) t v, Try.f7.params[j]? = some t → args[j]? = some v → Value.okWide Try.prog W .any base t v := hval0
  have hW' := hW
  obtain ⟨p, q, hA0, hV, rfl, hfz, hnd⟩ := hW
  have hA : DataW.TrodAll enc Try.prog W 0 (fun _ => true) true Try.f7.params.toList args.toList ds p := hA0
  rw [Try.params7] at hA hval
  obtain ⟨v0, vs0, d0, ds0, p0, q0, hargs, rfl, rfl, h0, r0⟩ := trodAll_cons hA
  obtain ⟨rfl, rfl, rfl⟩ := trodAll_nil r0
  obtain rfl : args = #[v0] := by cases args; simp_all
  obtain ⟨rfl, rfl⟩ := trodVars_none hV
  have k0 := h0
  have lt0 : ∀ x ∈ p0, x.block < W.heap.size := by obtain ⟨m, hm⟩ := k0; exact DataW.trod_lt m _ _ _ hm
  obtain ⟨ao0, l0, cap0, rfl, g0⟩ := inBytes14_of (fun _ => rfl) (hval 0 22 v0 rfl rfl) h0
  clear hA0 hval0
  refine (packedOnly_walk W ao0 l0 cap0 g0).mono fun e W' ⟨he, bel⟩ => ?_
  subst he
  exact ⟨_, rfl, _, _, _, [], _, [], hW', trodAll_mk1 (shut_bool Try.underlying4 _), (trodAll_cons_mk (Below.trod laidOut_all (by kernel_rfl) (of_decide_eq_true (by kernel_rfl)) k0 bel lt0) trodAll_mk0), rfl, bel.frame _, fun h => by cases h⟩

theorem packedOnly_proved : Rows.PackedOnlySaid :=
  OpenClaim.holds_of_wide 7 Try.f7 rfl rfl rfl rfl rfl rfl rfl ⟨rfl, rfl, rfl, rfl, rfl⟩ rfl rfl rfl rfl rfl (by kernel_rfl) Try.func7 (by kernel_rfl)
    (of_decide_eq_true (by kernel_rfl)) (by unfold Func.isWrapper; first | (rw [if_pos (by decide +kernel)]; kernel_rfl) | (rw [if_neg (by decide +kernel)]; exact ⟨rfl, rfl⟩))
    (fun os started H enc _ => packedOnly_lifted os started H enc)
#print axioms packedOnly_proved
end Go.Proofs.Ytblbabekbpcdiaa
