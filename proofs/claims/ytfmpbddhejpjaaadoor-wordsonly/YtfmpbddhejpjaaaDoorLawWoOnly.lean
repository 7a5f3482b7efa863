/-
  WordsOnly: what is read may be, and is written as the bytes that it was read of. Condition: the listed variables are as their texts lay them (the card ties them).
-/
import Derived.Test.YtfmpbddhejpjaaaDoorWpB
import Derived.Test.YtfmpbddhejpjaaaDoorWpE
namespace Go.Proofs.YtfmpbddhejpjaaaDoor
open Go.Proofs.YtfmpbddhejpjaaaDoor.It
open Go.ChangeShapes Go.WideShapes Go.ChangeAt Go.RowKit
open Go.ChangeMaps (open_string shut_string)
set_option linter.unusedSimpArgs false
set_option linter.unusedVariables false
set_option maxRecDepth 100000

theorem gbx_get {w : World} {b : Nat} {vs : List Value} (h : GBx w b vs) : ∀ j v, vs[j]? = some v → w.cell? ⟨b, j, none⟩ = some v := by
  intro j v hv
  obtain ⟨hj, e⟩ := List.getElem?_eq_some_iff.1 hv
  rw [h.c j hj, e]
theorem gr_take {α : Type} {E : GEl α} {w : World} {ao : Option Addr} {l : List α} {cap : Nat} (h : GRd E w ao l cap) (k : Nat) : GRd E w ao (l.take k) cap := by
  refine ⟨by have := h.hl; simp; omega, h.hc, h.hn, ?_⟩
  rcases h.at_ with rfl | ⟨b, off, e, hb, hc⟩
  · exact .inl (by simp)
  · refine .inr ⟨b, off, e, hb, fun i hi j hj => ?_⟩
    rw [List.length_take] at hi
    simpa [List.getElem_take] using hc i (by omega) j (by simpa [List.getElem_take] using hj)
theorem seven {l : List Value} (h : l.length = 7) : ∃ a b c d e f g, l = [a, b, c, d, e, f, g] := by
  match l, h with
  | [a, b, c, d, e, f, g], _ => exact ⟨a, b, c, d, e, f, g, rfl⟩
set_option maxHeartbeats 4000000 in
theorem wordsOnly_walk (w : World) (hv : Vw w) (bo : Option Addr) (L : List UInt8) (bc : Nat) (hl : GRd EY w bo L bc) (of_ : Int) (hof : (Lit.int .u8 of_).wf = true) :
    Calls Tryd.prog 7 #[.slice bo L.length bc, .int .u8 of_] w fun e w' => e = .returned (.bool true) ∧ Below w.heap.size w w' := by
  have HA := Hid.mk2 (fun V (hV : Below w.heap.size w V) => alive15_any V (hv.below hV))
  have HV := Hid.mk2 (fun V (hV : Below w.heap.size w V) => hv.below hV)
  have HL := Hid.mk2 (fun V (hV : Below w.heap.size w V) => hl.below hV)
  have hll : (L.length : Int) ≤ 9223372036854775807 := by have := hl.len; omega
  obtain ⟨LL, hLL⟩ : ∃ n, n = L.length := ⟨_, rfl⟩
  have HLL := Hid.mk2 hLL
  rw [← hLL] at hll
  rw [← hLL]
  by_cases h1 : (6000 : Int) < (LL : Int)
  · clear hv hl hLL hof
    go_enter Tryd.func7, Tryd.ntmps7
    go_wp2_with (go_at_call 11; refine (HA.out _ (Below.refl _ _)).mono ?_; rintro e w0 ⟨rfl, hb0⟩; have HB0 := Hid.mk2 hb0; clear hb0)
    go_ret
    exact ⟨rfl, HB0.out⟩
  obtain ⟨⟨x, n, er⟩, hX⟩ : ∃ q, q = readW L of_ := ⟨_, rfl⟩
  have HFW : Hid (readW L of_ = (x, n, er)) := hX.symm
  have HN : Hid (∀ V, Below w.heap.size w V → Calls Tryd.prog 8 #[.slice bo LL bc, .int .u8 of_] V fun e V' => (∃ lo lc, e = .returned (.tuple #[.agg (x.arr (.slice lo x.items.length lc)), .int .i64 (n : Int), .int .i64 er]) ∧ GRd EM V' lo x.items lc) ∧ Below V.heap.size V V') := fun V hV => (wRead_any V bo L bc (HL.out V hV) (by omega) of_ (HV.out V hV).gw (HV.out V hV).rt LL hLL).mono fun e V' q => by
    have q1 := q.ex
    rw [HFW.out] at q1
    exact ⟨q1, q.below⟩
  obtain ⟨o1, o2⟩ := readW_none HFW.out
  by_cases hz : er ≠ 0 ∨ n = 0
  · have hn : n = 0 := hz.elim (fun h => o2 h) (fun h => h)
    have hx := o1 hn
    subst hx
    subst hn
    have HZ := Hid.mk2 az_arr
    by_cases he : er = 0
    · subst he
      clear hv hl hLL hX o1 o2 hz hof
      go_enter Tryd.func7, Tryd.ntmps7
      go_wp2_with (first
        | (go_at_call 11; refine (HA.out _ (Below.refl _ _)).mono ?_; rintro e w0 ⟨rfl, hb0⟩; have HB0 := Hid.mk2 hb0; clear hb0)
        | (go_at_call 8; refine (HN.out w0 HB0.out).mono ?_; rintro e w1 ⟨⟨k1, c1, he1, hk1⟩, hb1⟩; (try dsimp only at he1 hk1); obtain ⟨CS1, hCS⟩ : ∃ CS, CS = az.cl (.slice k1 az.items.length c1) := ⟨_, rfl⟩; have hAS : az.arr (.slice k1 az.items.length c1) = CS1.toArray := (by rw [hCS]; rfl); rw [hAS] at he1; subst he1; have HK1 := Hid.mk2 hk1; have HB1 := Hid.mk2 (g_on HB0.out hb1); have HAS1 := Hid.mk2 hAS; have HCS1 : Hid (CS1.length = 7 ∧ (∀ v ∈ CS1, v.oneCell' = true) ∧ CS1[0]? = some (.int .u8 az.kind) ∧ CS1[1]? = some (.int .u8 az.of_)) := (by rw [hCS]; exact ⟨rfl, ancl_one _ _ _ _, rfl, rfl⟩); clear hk1 hb1 hCS hAS)
        | (refine ywpl_store rfl 27 _ _ rfl w1.heap.size CS1 (az.cl (.slice none 0 0)) rfl rfl (by rw [HCS1.out.1]; kernel_rfl) (GBx.made w1 _ _) (by rw [HCS1.out.1]; rfl) HCS1.out.2.1 ?_; obtain ⟨w2, hw2⟩ : ∃ w2, w2 = ysets (w1.alloc (.cells (az.cl (.slice none 0 0)).toArray 27)) w1.heap.size 0 CS1 := ⟨_, rfl⟩; (first | rw [← hw2] | (change wpList _ _ _ _ _ (ysets (w1.alloc (.cells (az.cl (.slice none 0 0)).toArray 27)) w1.heap.size 0 CS1); rw [← hw2])); have hb2 : Below w1.heap.size w1 w2 := (by rw [hw2]; exact (g_alloc w1 _).grown (ysets_grown _ _ _ _) (by simp) (fun k hk => by cases hk; exact Nat.le_refl _)); have HD2 : Hid (GBx w2 w1.heap.size CS1) := (by rw [hw2]; exact ybox (GBx.made w1 _ _) _ (by rw [HCS1.out.1]; rfl)); have HB2 := Hid.mk2 (g_on HB1.out hb2); have HK2 := Hid.mk2 (HK1.out.below hb2); clear hw2 hb2)
        | (refine ywpl_load_g (by first | rfl | simp [Region.wanted, yielded]) 27 _ rfl w1.heap.size rfl CS1 HD2.out _ Tryd.underlying27 rfl (by rw [HCS1.out.1]; kernel_rfl) ?_)
        | (go_at_call 17; rw [← HAS1.out, ← HZ.out]; refine (same15_any az _ _ none 0 w2 HK2.out (GRd.nil _)).mono ?_; rintro e w9 ⟨rfl, hb9⟩; have HB9 := Hid.mk2 (g_on HB2.out hb9); clear hb9))
      go_ret
      exact ⟨by first | rfl | simp, HB9.out⟩
    · have heb : (er == 0) = false := by simpa using he
      clear hv hl hLL hX o1 o2 hz hof
      go_enter Tryd.func7, Tryd.ntmps7
      go_wp2_with (first
        | (go_at_call 11; refine (HA.out _ (Below.refl _ _)).mono ?_; rintro e w0 ⟨rfl, hb0⟩; have HB0 := Hid.mk2 hb0; clear hb0)
        | (go_at_call 8; refine (HN.out w0 HB0.out).mono ?_; rintro e w1 ⟨⟨k1, c1, he1, hk1⟩, hb1⟩; (try dsimp only at he1 hk1); obtain ⟨CS1, hCS⟩ : ∃ CS, CS = az.cl (.slice k1 az.items.length c1) := ⟨_, rfl⟩; have hAS : az.arr (.slice k1 az.items.length c1) = CS1.toArray := (by rw [hCS]; rfl); rw [hAS] at he1; subst he1; have HK1 := Hid.mk2 hk1; have HB1 := Hid.mk2 (g_on HB0.out hb1); have HAS1 := Hid.mk2 hAS; have HCS1 : Hid (CS1.length = 7 ∧ (∀ v ∈ CS1, v.oneCell' = true) ∧ CS1[0]? = some (.int .u8 az.kind) ∧ CS1[1]? = some (.int .u8 az.of_)) := (by rw [hCS]; exact ⟨rfl, ancl_one _ _ _ _, rfl, rfl⟩); clear hk1 hb1 hCS hAS)
        | (refine ywpl_store rfl 27 _ _ rfl w1.heap.size CS1 (az.cl (.slice none 0 0)) rfl rfl (by rw [HCS1.out.1]; kernel_rfl) (GBx.made w1 _ _) (by rw [HCS1.out.1]; rfl) HCS1.out.2.1 ?_; obtain ⟨w2, hw2⟩ : ∃ w2, w2 = ysets (w1.alloc (.cells (az.cl (.slice none 0 0)).toArray 27)) w1.heap.size 0 CS1 := ⟨_, rfl⟩; (first | rw [← hw2] | (change wpList _ _ _ _ _ (ysets (w1.alloc (.cells (az.cl (.slice none 0 0)).toArray 27)) w1.heap.size 0 CS1); rw [← hw2])); have hb2 : Below w1.heap.size w1 w2 := (by rw [hw2]; exact (g_alloc w1 _).grown (ysets_grown _ _ _ _) (by simp) (fun k hk => by cases hk; exact Nat.le_refl _)); have HD2 : Hid (GBx w2 w1.heap.size CS1) := (by rw [hw2]; exact ybox (GBx.made w1 _ _) _ (by rw [HCS1.out.1]; rfl)); have HB2 := Hid.mk2 (g_on HB1.out hb2); have HK2 := Hid.mk2 (HK1.out.below hb2); clear hw2 hb2)
        | (refine ywpl_load_g (by first | rfl | simp [Region.wanted, yielded]) 27 _ rfl w1.heap.size rfl CS1 HD2.out _ Tryd.underlying27 rfl (by rw [HCS1.out.1]; kernel_rfl) ?_)
        | (go_at_call 17; rw [← HAS1.out, ← HZ.out]; refine (same15_any az _ _ none 0 w2 HK2.out (GRd.nil _)).mono ?_; rintro e w9 ⟨rfl, hb9⟩; have HB9 := Hid.mk2 (g_on HB2.out hb9); clear hb9))
      go_ret
      exact ⟨by first | rfl | simp, HB9.out⟩
  have he : er = 0 := by
    by_cases h : er = 0
    · exact h
    · exact absurd (.inl h) hz
  subst he
  have h0 : n ≠ 0 := fun h => hz (.inr h)
  have h0i : ¬ ((n : Int) = 0) := by omega
  have h0b : ((n : Int) == 0) = false := by simpa using h0
  obtain ⟨m1, m2, m3, m4, m5, m6⟩ := wr_read HFW.out h0
  have HWL : Hid (x.wr.length = n) := by show _ = _; rw [m3, List.length_take]; omega
  have HWR := Hid.mk2 m3
  have HWS := Hid.mk2 (may_short m2 m6)
  have HFT := Hid.mk2 m6
  have HWE0 := Hid.mk2 m2
  have HMY := Hid.mk2 m1
  have HO1 : Hid (n ≤ LL) := by rw [hLL]; exact m4
  have hn1 : ¬ (LL : Int) < (n : Int) := by have := HO1.out; omega
  have hn2 : (n : Int) ≤ (LL : Int) := by have := HO1.out; omega
  have hne : L ≠ [] := by intro e; rw [e] at hLL; simp at hLL; have := HO1.out; omega
  obtain ⟨b, off, rfl, _, _⟩ := hl.uy hne
  have hbc : (n : Int) ≤ (bc : Int) := by have := hl.hl; have := HO1.out; omega
  have hbcc : (bc : Int) ≤ 9223372036854775807 := by have := hl.hc; omega
  have hn0 : (0 : Int) ≤ (n : Int) := by omega
  obtain ⟨X, hXX⟩ : ∃ X : ByteArray, X = ⟨(L.take n).toArray⟩ := ⟨_, rfl⟩
  have HXX := Hid.mk2 hXX
  have hxx : (X.toList == X.toList) = true := by simp
  obtain ⟨xk, hxk⟩ : ∃ k, k = x.kind := ⟨_, rfl⟩
  have HXK := Hid.mk2 hxk
  obtain ⟨xo, hxo⟩ : ∃ k, k = x.of_ := ⟨_, rfl⟩
  have HXO := Hid.mk2 hxo
  rw [← hxk, ← hxo] at m5
  have HM5 := Hid.mk2 m5
  clear hv hl hLL hX o1 o2 m1 m2 m3 m4 m5 m6 hz hne hXX hxk hxo hof
  go_enter Tryd.func7, Tryd.ntmps7
  go_upto_region 8 with (first
    | (go_at_call 11; refine (HA.out _ (Below.refl _ _)).mono ?_; rintro e w0 ⟨rfl, hb0⟩; have HB0 := Hid.mk2 hb0; clear hb0)
    | (go_at_call 8; refine (HN.out w0 HB0.out).mono ?_; rintro e w1 ⟨⟨k1, c1, he1, hk1⟩, hb1⟩; (try dsimp only at he1 hk1); obtain ⟨CS1, hCS⟩ : ∃ CS, CS = x.cl (.slice k1 x.items.length c1) := ⟨_, rfl⟩; have hAS : x.arr (.slice k1 x.items.length c1) = CS1.toArray := (by rw [hCS]; rfl); rw [hAS] at he1; subst he1; have HK1 := Hid.mk2 hk1; have HB1 := Hid.mk2 (g_on HB0.out hb1); have HAS1 := Hid.mk2 hAS; have HCS1 : Hid (CS1.length = 7 ∧ (∀ v ∈ CS1, v.oneCell' = true) ∧ CS1[0]? = some (.int .u8 x.kind) ∧ CS1[1]? = some (.int .u8 x.of_)) := (by rw [hCS]; exact ⟨rfl, ancl_one _ _ _ _, rfl, rfl⟩); clear hk1 hb1 hCS hAS)
    | (refine ywpl_store rfl 27 _ _ rfl w1.heap.size CS1 (az.cl (.slice none 0 0)) rfl rfl (by rw [HCS1.out.1]; kernel_rfl) (GBx.made w1 _ _) (by rw [HCS1.out.1]; rfl) HCS1.out.2.1 ?_; obtain ⟨w2, hw2⟩ : ∃ w2, w2 = ysets (w1.alloc (.cells (az.cl (.slice none 0 0)).toArray 27)) w1.heap.size 0 CS1 := ⟨_, rfl⟩; (first | rw [← hw2] | (change wpList _ _ _ _ _ (ysets (w1.alloc (.cells (az.cl (.slice none 0 0)).toArray 27)) w1.heap.size 0 CS1); rw [← hw2])); have hb2 : Below w1.heap.size w1 w2 := (by rw [hw2]; exact (g_alloc w1 _).grown (ysets_grown _ _ _ _) (by simp) (fun k hk => by cases hk; exact Nat.le_refl _)); have HD2 : Hid (GBx w2 w1.heap.size CS1) := (by rw [hw2]; exact ybox (GBx.made w1 _ _) _ (by rw [HCS1.out.1]; rfl)); have HB2 := Hid.mk2 (g_on HB1.out hb2); have HK2 := Hid.mk2 (HK1.out.below hb2); clear hw2 hb2)
    | (refine ywpl_load_g (by first | rfl | simp [Region.wanted, yielded]) 27 _ rfl w1.heap.size rfl CS1 HD2.out _ Tryd.underlying27 rfl (by rw [HCS1.out.1]; kernel_rfl) ?_)
    | (go_at_call 10; rw [← HAS1.out]; refine (wWrite_any x k1 c1 w2 HK2.out HWS.out.1 HWS.out.2 HFT.out (HV.out _ HB2.out).tab (HV.out _ HB2.out).rt).mono ?_; rintro e w3 ⟨⟨a3, c3, he3, hg3⟩, hb3⟩; rw [HWE0.out, HWL.out] at he3; subst he3; rw [HWR.out] at hg3; have HG3 := Hid.mk2 hg3; have HB3 := Hid.mk2 (g_on HB2.out hb3); have HD3 := Hid.mk2 (HD2.out.below hb3); have HK3 := Hid.mk2 (HK2.out.below hb3); clear hb3 hg3))
  have hcv1 : ∀ p : Beh w3, (convert 31 9 (.slice a3 n c3)).run Tryd.prog p.v = .ok (.string X) p.v := by
    intro p
    have h := conv_rd (HG3.out.below p.ok)
    rw [List.length_take, ← HLL.out, show min n LL = n by have := HO1.out; omega, ← HXX.out] at h
    exact h
  have hcv2 : ∀ p : Beh w3, (convert 31 9 (.slice (some ⟨b, off, none⟩) n bc)).run Tryd.prog p.v = .ok (.string X) p.v := by
    intro p
    have h := conv_rd ((gr_take (HL.out w3 HB3.out) n).below p.ok)
    rw [List.length_take, ← HLL.out, show min n LL = n by have := HO1.out; omega, ← HXX.out] at h
    exact h
  have hlt := HD3.out.lt
  have HCK : Hid (∀ p : Beh w3, Calls Tryd.prog 14 #[.agg CS1.toArray] p.v fun e w' => e = .returned (.int .i64 0) ∧ Below p.v.heap.size p.v w') := by
    intro p
    have h := wCheck_any x k1 c1 p.v (HK3.out.below p.ok) HWS.out.1
    rw [if_pos HMY.out, HAS1.out] at h
    exact h
  obtain ⟨v0, v1, v2, v3, v4, v5, v6, hcs⟩ := seven HCS1.out.1
  have e0 : v0 = .int .u8 xk := by have h := HCS1.out.2.2.1; rw [hcs] at h; rw [HXK.out]; exact Option.some.inj h
  have e1 : v1 = .int .u8 xo := by have h := HCS1.out.2.2.2; rw [hcs] at h; rw [HXO.out]; exact Option.some.inj h
  rw [e0, e1] at hcs
  have HD4 : Hid (GBx w3 w1.heap.size [.int .u8 xk, .int .u8 xo, v2, v3, v4, v5, v6]) := by show GBx _ _ _; rw [← hcs]; exact HD3.out
  have HCK2 : Hid (∀ p : Beh w3, Calls Tryd.prog 14 #[.agg #[.int .u8 xk, .int .u8 xo, v2, v3, v4, v5, v6]] p.v fun e w' => e = .returned (.int .i64 0) ∧ Below p.v.heap.size p.v w') := by
    intro p
    have h := HCK.out p
    rw [hcs] at h
    exact h
  have o2 := HCS1.out.2.1
  rw [hcs] at o2
  have y0 := HD4.out.c 0 (by simp)
  have y1 := HD4.out.c 1 (by simp)
  have y2 := HD4.out.c 2 (by simp)
  have y3 := HD4.out.c 3 (by simp)
  have y4 := HD4.out.c 4 (by simp)
  have y5 := HD4.out.c 5 (by simp)
  have y6 := HD4.out.c 6 (by simp)
  simp only [List.getElem_cons_zero, List.getElem_cons_succ] at y0 y1 y2 y3 y4 y5 y6
  have d0 : ∀ p : Beh w3, p.v.cell? ⟨w1.heap.size, 0, none⟩ = _ := cell_beh hlt y0
  have d1 : ∀ p : Beh w3, p.v.cell? ⟨w1.heap.size, 1, none⟩ = _ := cell_beh hlt y1
  have d2 : ∀ p : Beh w3, p.v.cell? ⟨w1.heap.size, 2, none⟩ = _ := cell_beh hlt y2
  have d3 : ∀ p : Beh w3, p.v.cell? ⟨w1.heap.size, 3, none⟩ = _ := cell_beh hlt y3
  have d4 : ∀ p : Beh w3, p.v.cell? ⟨w1.heap.size, 4, none⟩ = _ := cell_beh hlt y4
  have d5 : ∀ p : Beh w3, p.v.cell? ⟨w1.heap.size, 5, none⟩ = _ := cell_beh hlt y5
  have d6 : ∀ p : Beh w3, p.v.cell? ⟨w1.heap.size, 6, none⟩ = _ := cell_beh hlt y6
  have hmix : Tryd.prog.follows .mixedOrders = true := by kernel_rfl
  clear y0 y1 y2 y3 y4 y5 y6 hcs e0 e1 HCK
  by_cases hk : xk = 1
  · have hxe : xo = of_ := HM5.out.elim (fun h => absurd hk h) (fun h => h)
    subst hk
    subst hxe
    have hoe : (xo == xo) = true := by simp
    have hkk : ((1 : Int) != 1) = false := rfl
    clear hlt
    go_upto_region 8 with (fail)
    refine wp_region_quiet_beh hmix (by kernel_rfl) ?_
    repeat (first | go_big_quiet_skip | (quiet_step (first
      | (go_at_call 14; exact Calls.beh_of (HCK2.out _)))))
    refine wpQuiet_nil ?_
    intro _ hw'
    obtain ⟨⟨wq, hq⟩, hw2⟩ := hw'
    subst hw2
    go_wp2
    go_ret
    exact ⟨by first | rfl | simp, g_on HB3.out hq⟩
  · have hkk : (xk != 1) = true := by simpa using hk
    clear hlt
    go_upto_region 8 with (fail)
    refine wp_region_quiet_beh hmix (by kernel_rfl) ?_
    repeat (first | go_big_quiet_skip | (quiet_step (first
      | (go_at_call 14; exact Calls.beh_of (HCK2.out _)))))
    refine wpQuiet_nil ?_
    intro _ hw'
    obtain ⟨⟨wq, hq⟩, hw2⟩ := hw'
    subst hw2
    go_wp2
    go_ret
    exact ⟨by first | rfl | simp, g_on HB3.out hq⟩

set_option maxRecDepth 100000 in
theorem wordsOnly_lifted (os : Os) (started : os.Started) (H : Type) (enc : TypeId × Value → H) :
    ReturnsInHanded {} Tryd.checked os 7 .any (fun w args => (Rows.wordsOnlySpec.pre enc Tryd.prog Tryd.f7 [] false w args ∧ laidMetH Tryd.prog laid6 w) ∧ sizedMet enc Tryd.prog Tryd.f7 (OpenSpec.ofChange Rows.wordsOnlySpec) false w args) (Rows.wordsOnlySpec.post enc Tryd.prog Tryd.f7 false true false false) := by
  refine handed_shaped_and (C := Tryd.checked) (X := fun w _ => laidMetH Tryd.prog laid6 w) (fun _ _ _ hh h => h.of_heap hh) own started (by kernel_rfl) Tryd.func7
    (ChangeSpec.witness_shaped (enc := enc) (C := Tryd.checked) (os := os) (X := fun w _ => laidMetH Tryd.prog laid6 w) false (World.laidAll Tryd.prog os laid6) #[.slice none 0 0, .int .u8 0] 8 (World.laidAll_os _ _ _)
      (World.shaped_of_ZipB (by kernel_rfl) (by kernel_rfl)) (by kernel_rfl) (by kernel_rfl) (by kernel_rfl)
      (by rw [MakeChecks.laidMetH_plain _ _ _ (by kernel_rfl)]; exact laidMet_laidAll _ (by kernel_rfl) (by kernel_rfl))) ?_
  intro W base args ds gs before hval0 hW hcnd _ hL hsh
  have hval : ∀ (j : Nat) t v, Tryd.f7.params[j]? = some t → args[j]? = some v → Value.okWide Tryd.prog W .any base t v := hval0
  have hW' := hW
  obtain ⟨p, q, hA0, hV, rfl, hfz, hnd⟩ := hW
  have hA : DataW.TrodAll enc Tryd.prog W 0 (fun _ => true) true Tryd.f7.params.toList args.toList ds p := hA0
  rw [Tryd.params7] at hA hval
  obtain ⟨v0, vs0, d0, ds0, p0, q0, hargs, rfl, rfl, h0, r0⟩ := trodAll_cons hA
  obtain ⟨v1, vs1, d1, ds1, p1, q1, rfl, rfl, rfl, h1, r1⟩ := trodAll_cons r0
  obtain ⟨rfl, rfl, rfl⟩ := trodAll_nil r1
  obtain rfl : args = #[v0, v1] := by cases args; simp_all
  obtain ⟨rfl, rfl⟩ := trodVars_none hV
  have k0 := h0
  have lt0 : ∀ x ∈ p0, x.block < W.heap.size := by obtain ⟨m, hm⟩ := k0; exact DataW.trod_lt m _ _ _ hm
  obtain ⟨ao0, l0, cap0, rfl, g0⟩ := inBytes14_of (fun _ => rfl) (hval 0 31 v0 rfl rfl) h0
  obtain ⟨a1, rfl, rfl, rfl, w1⟩ := open_int Tryd.underlying5 (hval 1 5 v1 rfl rfl) h1
  clear hA0 hval0
  refine (wordsOnly_walk W (vw_of6 hL hsh) ao0 l0 cap0 g0 a1 w1).mono fun e W' ⟨he, bel⟩ => ?_
  subst he
  exact ⟨_, rfl, _, _, _, [], _, [], hW', trodAll_mk1 (shut_bool Tryd.underlying4 _), (trodAll_cons_mk (Below.trod laidOut_all (by kernel_rfl) (of_decide_eq_true (by kernel_rfl)) k0 bel lt0) (trodAll_cons_mk (shut_int Tryd.underlying5 w1) trodAll_mk0)), rfl, bel.frame _, fun h => by cases h⟩

theorem wordsOnly_proved : Rows.WordsOnlySaid :=
  OpenClaim.holds_of_wide 7 Tryd.f7 rfl rfl rfl rfl rfl rfl rfl ⟨rfl, rfl, rfl, rfl, rfl⟩ rfl rfl rfl rfl rfl (by kernel_rfl) Tryd.func7 (by kernel_rfl)
    (of_decide_eq_true (by kernel_rfl)) (by unfold Func.isWrapper; first | (rw [if_pos (by decide +kernel)]; kernel_rfl) | (rw [if_neg (by decide +kernel)]; exact ⟨rfl, rfl⟩))
    (fun os started H enc _ => wordsOnly_lifted os started H enc)

theorem wordsOnly_card : Rows.WordsOnlyCardSaid :=
  Claim7.holds_tied_plain_at .later [] [.data, .data, .data, .data, .data, .pinned] true Rows.wordsOnlyCard.stood.harness false
    wordsOnly_proved (fun _ h => by cases h) (by kernel_rfl) (fun _ h => by cases h) wordsOnly_row_tie rfl ⟨rfl, rfl⟩ (by kernel_rfl) rfl
    (fun f fn hf hfn => by
      obtain rfl : f = 7 := Option.some.inj ((show Tryd.prog.funcNamed "cloakroom/cloakroomlaw15.WordsOnly" = some 7 by kernel_rfl).symm.trans hf) |>.symm
      obtain rfl : fn = Tryd.f7 := (Option.some.inj (Tryd.func7.symm.trans hfn)).symm
      exact ⟨by kernel_rfl, fun j t ht => by
        rw [Tryd.params7] at ht
        have hm : t ∈ ([31, 5] : List TypeId) := by simpa using Array.mem_of_getElem? ht
        have hall : (([31, 5] : List TypeId).all fun u => !Tryd.prog.wantsStandIn u) = true := by kernel_rfl
        exact (show Tryd.prog.wantsStandIn t = false by simpa using List.all_eq_true.1 hall t hm)⟩)
    (by kernel_rfl)
#print axioms wordsOnly_card
end Go.Proofs.YtfmpbddhejpjaaaDoor
