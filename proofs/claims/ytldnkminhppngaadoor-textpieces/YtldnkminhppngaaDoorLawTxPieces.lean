/-
  TextPieces: requests are read alike, whether their bytes come at once or in two pieces. Condition: the listed variables are as their texts lay them (the card ties them).
-/
import Derived.Test.YtldnkminhppngaaDoorG05
import Derived.Test.YtldnkminhppngaaDoorTyW
namespace Go.Proofs.YtldnkminhppngaaDoor
open Go.Proofs.YtldnkminhppngaaDoor.It
open Go.ChangeShapes Go.WideShapes Go.ChangeAt Go.RowKit
open Go.ChangeMaps (open_string shut_string)
set_option linter.unusedSimpArgs false
set_option linter.unusedVariables false
set_option maxRecDepth 100000

set_option maxHeartbeats 8000000 in
theorem textPieces_walk (w : World) (hg : Gl w) (bo : Option Addr) (L : List UInt8) (bc : Nat) (hl : GRd EY w bo L bc) (cut : Int) (hcut : (Lit.int .i64 cut).wf = true) :
    Calls Tryd.prog 6 #[.slice bo L.length bc, .int .i64 cut] w fun e w' => e = .returned (.bool true) ∧ Below w.heap.size w w' := by
  have hcb := bounds_i64 hcut
  have HA := Hid.mk2 (fun V (hV : Below w.heap.size w V) => alive14_any V (hg.below hV))
  have hll : (L.length : Int) ≤ 9223372036854775807 := by have := hl.len; omega
  obtain ⟨LL, hLL⟩ : ∃ n, n = L.length := ⟨_, rfl⟩
  have HLL := Hid.mk2 hLL
  rw [← hLL] at hll
  rw [← hLL]
  have hc1 : -9223372036854775808 ≤ cut := hcb.1
  have hc2 : cut ≤ 9223372036854775807 := by have := hcb.2; omega
  by_cases h1 : (3000 : Int) < (LL : Int)
  · clear hg hl hLL hcut hcb
    go_enter Tryd.func6, Tryd.ntmps6
    go_wp2_with (go_at_call 10; refine (HA.out _ (Below.refl _ _)).mono ?_; rintro e w0 ⟨rfl, hb0⟩; have HB0 := Hid.mk2 hb0; clear hb0)
    go_ret
    exact ⟨rfl, HB0.out⟩
  by_cases h2 : cut < 0
  · clear hg hl hLL hcut hcb
    go_enter Tryd.func6, Tryd.ntmps6
    go_wp2_with (go_at_call 10; refine (HA.out _ (Below.refl _ _)).mono ?_; rintro e w0 ⟨rfl, hb0⟩; have HB0 := Hid.mk2 hb0; clear hb0)
    go_ret
    exact ⟨rfl, HB0.out⟩
  by_cases h3 : (LL : Int) < cut
  · clear hg hl hLL hcut hcb
    go_enter Tryd.func6, Tryd.ntmps6
    go_wp2_with (go_at_call 10; refine (HA.out _ (Below.refl _ _)).mono ?_; rintro e w0 ⟨rfl, hb0⟩; have HB0 := Hid.mk2 hb0; clear hb0)
    go_ret
    exact ⟨rfl, HB0.out⟩
  obtain ⟨c, rfl⟩ : ∃ c : Nat, cut = (c : Int) := ⟨cut.toNat, by omega⟩
  have hcL : c ≤ LL := by omega
  have hcbc : c ≤ bc := by have := hl.hl; omega
  have hsplit : L.take c ++ L.drop c = L := List.take_append_drop c L
  obtain ⟨N, hN⟩ : ∃ N, N = (allW L).2 := ⟨_, rfl⟩
  obtain ⟨m, hm⟩ : ∃ m, m = (allW (L.take c)).2 := ⟨_, rfl⟩
  obtain ⟨T, hT⟩ : ∃ T, T = (allW (L.drop m)).2 := ⟨_, rfl⟩
  have hP := all_pieces (L.take c).length (L.take c) (L.drop c) (Nat.le_refl _)
  rw [hsplit, ← hm] at hP
  have hle1 := allW_le L.length L (Nat.le_refl _)
  have hle2 := allW_le (L.take c).length (L.take c) (Nat.le_refl _)
  have hle3 := allW_le (L.drop m).length (L.drop m) (Nat.le_refl _)
  have hlen2 : (L.take c).length = c := by rw [List.length_take]; omega
  rw [hlen2, ← hm] at hle2
  rw [← hN, ← hLL] at hle1
  have hmc : m ≤ c := hle2.1
  have hN1 : N ≤ LL := hle1.1
  have HALL1 := Hid.mk2 (fun V (hV : Below w.heap.size w V) => all14_any V bo L bc (hl.below hV) (by omega) (hg.below hV) LL hLL)
  have HALL2 := Hid.mk2 (fun V (hV : Below w.heap.size w V) => all14_any V (headA bo bc) (L.take c) bc ((head_rd hl c (by omega)).below hV) (by omega) (hg.below hV) c hlen2.symm)
  have HALL3 := Hid.mk2 (fun V (hV : Below w.heap.size w V) => all14_any V (restA bo m bc) (L.drop m) (bc - m) ((rest_rd hl m (by omega)).below hV) (by rw [List.length_drop]; omega) (hg.below hV) (LL - m) (by rw [List.length_drop, ← hLL]))
  have HLEN3 : Hid ((allW (L.drop m)).1.length ≤ 3000) := by show _ ≤ _; have := hle3.2; rw [List.length_drop] at this; omega
  have HLEN2 : Hid ((allW (L.take c)).1.length ≤ 3000) := by show _ ≤ _; have := hle2.2; omega
  have HN3 : Hid (N ≤ 3000) := by show _ ≤ _; omega
  have HALL1 : Hid (∀ V, Below w.heap.size w V → Calls Tryd.prog 8 #[.slice bo LL bc] V fun e V' => (∃ v X, e = .returned (.tuple #[v, .int .i64 (N : Int), .int .i64 0]) ∧ X.map (·.r) = (allW L).1 ∧ GOwn EQ V' V.heap.size v X ∧ (∀ x ∈ X, GRd ES V' x.ko x.r.cmd.keys x.kc) ∧ (∀ x ∈ X, ∀ g o, x.ko = some ⟨g, o, none⟩ → x.r.cmd.keys ≠ [] → v.ownBlock ≠ some g)) ∧ Below V.heap.size V V') := fun V hV => by rw [hN]; exact (HALL1.out V hV).mono fun e V' h => ⟨h.ex, h.below⟩
  have HALL2 : Hid (∀ V, Below w.heap.size w V → Calls Tryd.prog 8 #[.slice (headA bo bc) c bc] V fun e V' => (∃ v X, e = .returned (.tuple #[v, .int .i64 (m : Int), .int .i64 0]) ∧ X.map (·.r) = (allW (L.take c)).1 ∧ GOwn EQ V' V.heap.size v X ∧ (∀ x ∈ X, GRd ES V' x.ko x.r.cmd.keys x.kc) ∧ (∀ x ∈ X, ∀ g o, x.ko = some ⟨g, o, none⟩ → x.r.cmd.keys ≠ [] → v.ownBlock ≠ some g)) ∧ Below V.heap.size V V') := fun V hV => by rw [hm]; exact (HALL2.out V hV).mono fun e V' h => ⟨h.ex, h.below⟩
  have HALL3 : Hid (∀ V, Below w.heap.size w V → Calls Tryd.prog 8 #[.slice (restA bo m bc) (LL - m) (bc - m)] V fun e V' => (∃ v X, e = .returned (.tuple #[v, .int .i64 (T : Int), .int .i64 0]) ∧ X.map (·.r) = (allW (L.drop m)).1 ∧ GOwn EQ V' V.heap.size v X ∧ (∀ x ∈ X, GRd ES V' x.ko x.r.cmd.keys x.kc) ∧ (∀ x ∈ X, ∀ g o, x.ko = some ⟨g, o, none⟩ → x.r.cmd.keys ≠ [] → v.ownBlock ≠ some g)) ∧ Below V.heap.size V V') := fun V hV => by rw [hT]; exact (HALL3.out V hV).mono fun e V' h => ⟨h.ex, h.below⟩
  have HP := Hid.mk2 hP
  have HNE := Hid.mk2 hN
  have HTE := Hid.mk2 hT
  have hmi1 : ¬ ((c : Int) < (m : Int)) := by omega
  have hni1 : ¬ ((LL : Int) < (N : Int)) := by omega
  have hT3 : (T : Int) ≤ 3000 := by have := hle3.1; rw [← hT, List.length_drop] at this; omega
  have hT0 : (0 : Int) ≤ (T : Int) := by omega
  have hm0 : (0 : Int) ≤ (m : Int) := by omega
  have hm3 : (m : Int) ≤ 3000 := by omega
  clear hg hl hLL hcut hcb hN hm hT hP hle1 hle2 hle3 hlen2 hsplit
  go_enter Tryd.func6, Tryd.ntmps6
  go_upto_region 5 with (first
    | (go_at_call 10; refine (HA.out _ (Below.refl _ _)).mono ?_; rintro e w0 ⟨rfl, hb0⟩; have HB0 := Hid.mk2 hb0; clear hb0)
    | (go_at_call 8; refine (HALL1.out w0 HB0.out).mono ?_; rintro e1 w1 hA1; obtain ⟨⟨v1, X1, he1, hX1, hO1, hK1, -⟩, hb1⟩ := hA1; obtain ⟨a1, c1, hv1, hr1⟩ := hO1.rd okQ; obtain ⟨n1, hxn1⟩ : ∃ n, n = X1.length := ⟨_, rfl⟩; rw [← hxn1] at hv1; subst hv1; subst he1; have HXN1 := Hid.mk2 hxn1; have HX1 := Hid.mk2 hX1; have HQ1 : Hid (Rqs w1 a1 X1 c1) := ⟨hr1, hK1⟩; have HB1 := Hid.mk2 (g_on HB0.out hb1); clear hX1 hO1 hK1 hr1 hxn1))
  go_upto_region 8 with (first
    | (refine wpl_slice_h rfl _ _ rfl bo c LL bc rfl rfl hcbc ?_)
    | (go_at_call 8; refine (HALL2.out w1 HB1.out).mono ?_; rintro e2 w2 hA2; obtain ⟨⟨v2, X2, he2, hX2, hO2, hK2, -⟩, hb2⟩ := hA2; obtain ⟨a2, c2, hv2, hr2⟩ := hO2.rd okQ; obtain ⟨n2, hxn2⟩ : ∃ n, n = X2.length := ⟨_, rfl⟩; rw [← hxn2] at hv2; subst hv2; subst he2; have HXN2 := Hid.mk2 hxn2; have HX2 := Hid.mk2 hX2; have HQ2 : Hid (Rqs w2 a2 X2 c2) := ⟨hr2, hK2⟩; have HB2 := Hid.mk2 (g_on HB1.out hb2); have HB12 := Hid.mk2 hb2; clear hX2 hO2 hK2 hr2 hxn2))
  have hn2 : (n2 : Int) ≤ 3000 := by have := HXN2.out; have h := HLEN2.out; rw [← HX2.out] at h; simp at h; omega
  have HL2 : Hid (X2.length ≤ 3000) := by show _ ≤ _; have := HXN2.out; omega
  have HMAP : Hid ((∀ x ∈ (allW (L.take c)).1, lastR x = false) → (∀ X3 : List Rm, X3.map (·.r) = (allW (L.drop m)).1 → (X2 ++ X3).map (·.r) = X1.map (·.r)) ∧ m + T = N) := by
    intro hno
    rcases HP.out with ⟨Lx, x, e1, e2, _⟩ | ⟨_, e1, e2⟩
    · have := hno x (by rw [e1]; simp)
      rw [e2] at this
      cases this
    · refine ⟨fun X3 h => ?_, by rw [HTE.out, HNE.out]; exact e2.symm⟩
      rw [List.map_append, h, HX1.out, HX2.out, e1]
  by_cases hz : n2 = 0
  · have hno : ∀ x ∈ (allW (L.take c)).1, lastR x = false := by
      have h0 : X2 = [] := List.eq_nil_of_length_eq_zero (by have := HXN2.out; omega)
      have h := HX2.out
      rw [h0] at h
      intro x hx
      rw [← h] at hx
      cases hx
    obtain ⟨q1, q2⟩ := HMAP.out hno
    have HMAP3 := Hid.mk2 q1
    have HSUM := Hid.mk2 q2
    have hz2 : ¬ (0 : Int) < (n2 : Int) := by omega
    subst hz
    have HB2Y : Hid (Below w2.heap.size w2 w2) := Below.refl _ _
    clear q1 q2 hno HMAP
    have hmL : m ≤ LL := by omega
    have hmi : (m : Int) ≤ (LL : Int) := by omega
    have hsum : ((m : Int) + (T : Int)) = (N : Int) := by have := HSUM.out; omega
    have hsw : ((N : Int) == (N : Int)) = true := by simp
    have hnn : (N : Int) ≤ 3000 := by have := HN3.out; omega
    go_wp2_with (first
      | (refine wpl_slice_l rfl _ _ rfl bo m LL bc rfl rfl hmL ?_)
      | (go_at_call 8; refine (HALL3.out w2 HB2.out).mono ?_; rintro e3 w3 hA3; obtain ⟨⟨v3, X3, he3, hX3, hO3, hK3, -⟩, hb3⟩ := hA3; obtain ⟨a3, c3, hv3, hr3⟩ := hO3.rd okQ; obtain ⟨n3, hxn3⟩ : ∃ n, n = X3.length := ⟨_, rfl⟩; rw [← hxn3] at hv3; subst hv3; subst he3; have HXN3 := Hid.mk2 hxn3; have HX3 := Hid.mk2 hX3; have HQ3 : Hid (Rqs w3 a3 X3 c3) := ⟨hr3, hK3⟩; have HB3 := Hid.mk2 (g_on HB2.out hb3); have HB23 := Hid.mk2 (g_on HB2Y.out hb3); have HL3 : Hid (X3.length ≤ 3000) := (by show _ ≤ _; have h := HLEN3.out; rw [← hX3] at h; simpa using h); clear hX3 hO3 hK3 hr3 hxn3)
      | (refine g_app okQ rfl _ _ _ rfl rfl w3.heap.size _ [] (GOwn.nil _ _) rfl a2 c2 X2 0 HXN2.out rfl ((HQ2.out.below HB23.out).row) (by have := HL2.out; simp; omega) (Nat.le_refl _) ?_; intro v4 w4 hO4 hgr4; have hb4 : Below w3.heap.size w3 w4 := hgr4.below (GOwn.nil (E := EQ) w3 w3.heap.size) (Nat.le_refl _); rw [List.nil_append] at hO4; have HO4 := Hid.mk2 hO4; have HB34 := Hid.mk2 hb4; have HS4 : Hid (w3.heap.size ≤ w4.heap.size) := hgr4.grown.size; clear hO4 hgr4 hb4)
      | (refine g_app okQ rfl _ _ _ rfl rfl w3.heap.size _ X2 HO4.out rfl a3 c3 X3 n3 HXN3.out rfl ((HQ3.out.below HB34.out).row) (by have := HL2.out; have := HL3.out; have := HXN2.out; have := HXN3.out; omega) HS4.out ?_; intro v5 w5 hO5 hgr5; have hb5 : Below w3.heap.size w4 w5 := hgr5.below HO4.out HS4.out; have HB35 : Hid (Below w3.heap.size w3 w5) := HB34.out.trans hb5; obtain ⟨a5, c5, hv5, hr5⟩ := hO5.rd okQ; subst hv5; have HR5 := Hid.mk2 hr5; clear hO5 hgr5 hb5 hr5)
      | (go_at_call 14; refine (sameAll_any (X2 ++ X3) X1 (HMAP3.out X3 HX3.out) a5 a1 c5 c1 w5 ⟨HR5.out, fun x hx => (List.mem_append.1 hx).elim (fun h => ((HQ2.out.keys x h).below HB23.out).below HB35.out) (fun h => (HQ3.out.keys x h).below HB35.out)⟩ (((HQ1.out.below HB12.out).below HB23.out).below HB35.out) (X2.length + X3.length) (by rw [List.length_append]) n1 HXN1.out).mono ?_; rintro e w6 ⟨rfl, hb6⟩; have HB6 : Hid (Below w.heap.size w w6) := g_on (g_on HB3.out HB35.out) hb6; clear hb6))
    go_ret
    exact ⟨by first | rfl | simp, HB6.out⟩
  · obtain ⟨k, hk⟩ : ∃ k, n2 = k + 1 := ⟨n2 - 1, by omega⟩
    have hkx : k < X2.length := by have := HXN2.out; omega
    have hz2 : (0 : Int) < (n2 : Int) := by omega
    have hsub : (n2 : Int) - 1 = (k : Int) := by omega
    have hkn : (k : Int) < (n2 : Int) := by omega
    have hk0 : (0 : Int) ≤ (k : Int) := by omega
    have hk3 : (k : Int) ≤ 3000 := by omega
    obtain ⟨b, off, hbo, hbl, hcs⟩ := HQ2.out.row.rq (by intro e; rw [e] at hkx; simp at hkx)
    subst hbo
    obtain ⟨x0, x1, x2, x3, x4, x5, x6, x7, x8, x9, x10, x11, x12⟩ := hcs k hkx
    obtain ⟨x, hxe⟩ : ∃ x, x = X2[k] := ⟨_, rfl⟩
    rw [← hxe] at x0 x1 x2 x3 x4 x5 x6 x7 x8 x9 x10 x11 x12
    have HXE : Hid ((allW (L.take c)).1[k]? = some x.r) := by
      show _ = _
      rw [← HX2.out, List.getElem?_map, List.getElem?_eq_getElem hkx, hxe]
      rfl
    have HXL : Hid ((allW (L.take c)).1.length = k + 1) := by show _ = _; rw [← HX2.out, List.length_map]; have := HXN2.out; omega
    clear hcs hxe
    go_upto_region 10 with (refine ywpl_store rfl 28 _ _ rfl w2.heap.size (x.r.cl (.slice x.ko x.r.cmd.keys.length x.kc)) (rz.cl (.slice none 0 0)) rfl rfl (req_info x.r (.slice x.ko x.r.cmd.keys.length x.kc)) (GBx.made w2 _ _) rfl (rqcl_one x.r _ _ _) ?_; obtain ⟨w2b, hw7⟩ : ∃ w7, w7 = ysets (w2.alloc (.cells (rz.cl (.slice none 0 0)).toArray 28)) w2.heap.size 0 (x.r.cl (.slice x.ko x.r.cmd.keys.length x.kc)) := ⟨_, rfl⟩; (first | rw [← hw7] | (change wpList _ _ _ _ _ (ysets (w2.alloc (.cells (rz.cl (.slice none 0 0)).toArray 28)) w2.heap.size 0 (x.r.cl (.slice x.ko x.r.cmd.keys.length x.kc))); rw [← hw7])); have hb7 : Below w2.heap.size w2 w2b := (by rw [hw7]; exact (g_alloc w2 _).grown (ysets_grown _ _ _ _) (by simp) (fun k hk => by cases hk; exact Nat.le_refl _)); have hD7 : GBx w2b w2.heap.size (x.r.cl (.slice x.ko x.r.cmd.keys.length x.kc)) := (by rw [hw7]; exact ybox (GBx.made w2 _ _) _ rfl); have d0 := hD7.get 0 _ rfl; have d12 := hD7.get 12 _ rfl; have hlt7 := hD7.lt; have HB2Y := Hid.mk2 hb7; have HB2b : Hid (Below w.heap.size w w2b) := g_on HB2.out hb7; clear hw7 hb7 hD7 x0 x1 x2 x3 x4 x5 x6 x7 x8 x9 x10 x11 x12)
    have HLS : Hid (lastR x.r = (x.r.close || (x.r.kind == 5))) := rfl
    obtain ⟨xk, hxk⟩ : ∃ k, k = x.r.kind := ⟨_, rfl⟩
    obtain ⟨xc, hxc⟩ : ∃ c, c = x.r.close := ⟨_, rfl⟩
    have HXC := Hid.mk2 hxc
    rw [← hxk] at d0 HLS
    rw [← hxc] at d12 HLS
    clear hxk hxc
    cases hc : (xc || (xk == 5)) with
    | true =>
      have hfin : xc = true ∨ n2 ≤ n1 := by
        rcases HP.out with ⟨Lx, y, e1, e2, e3⟩ | ⟨e1, _⟩
        · have h9 := HXE.out
          have h8 := HXL.out
          rw [e1] at h9 h8
          have h7 : Lx.length = k := by simpa using h8
          rw [← h7, List.getElem?_append_right (Nat.le_refl _)] at h9
          simp at h9
          rw [e1] at e3
          rcases e3 with e3 | e3
          · left; rw [HXC.out, ← h9]; exact e3
          · right
            rw [← HX1.out] at e3
            simp at e3
            have := HXN1.out
            omega
        · have h9 := HXE.out
          have h8 := e1 x.r (List.mem_of_getElem? h9)
          rw [HLS.out, hc] at h8
          cases h8
      by_cases hle : n2 ≤ n1
      · have hlei : (n2 : Int) ≤ (n1 : Int) := by omega
        cases xc with
        | true =>
          clear hfin hc
          go_wp2
          go_ret
          exact ⟨by first | rfl | simp, HB2b.out⟩
        | false =>
          have h5 : (xk == 5) = true := by simpa using hc
          clear hfin hc
          go_wp2
          go_ret
          exact ⟨by first | rfl | simp, HB2b.out⟩
      · have hlei : ¬ (n2 : Int) ≤ (n1 : Int) := by omega
        have hx : xc = true := by rcases hfin with h | h; exact h; exact absurd h hle
        subst hx
        clear hfin hc
        go_wp2
        go_ret
        exact ⟨by first | rfl | simp, HB2b.out⟩
    | false =>
      have hno : ∀ y ∈ (allW (L.take c)).1, lastR y = false := by
        rcases HP.out with ⟨Lx, y, e1, e2, _⟩ | ⟨e1, _⟩
        · have h9 := HXE.out
          have h8 := HXL.out
          rw [e1] at h9 h8
          have h7 : Lx.length = k := by simpa using h8
          rw [← h7, List.getElem?_append_right (Nat.le_refl _)] at h9
          simp at h9
          rw [h9, HLS.out, hc] at e2
          cases e2
        · exact e1
      obtain ⟨q1, q2⟩ := HMAP.out hno
      have HMAP3 := Hid.mk2 q1
      have HSUM := Hid.mk2 q2
      simp only [Bool.or_eq_false_iff] at hc
      obtain ⟨rfl, h5⟩ := hc
      clear q1 q2 hno HMAP
      have hmL : m ≤ LL := by omega
      have hmi : (m : Int) ≤ (LL : Int) := by omega
      have hsum : ((m : Int) + (T : Int)) = (N : Int) := by have := HSUM.out; omega
      have hsw : ((N : Int) == (N : Int)) = true := by simp
      have hnn : (N : Int) ≤ 3000 := by have := HN3.out; omega
      go_wp2_with (first
        | (refine wpl_slice_l rfl _ _ rfl bo m LL bc rfl rfl hmL ?_)
        | (go_at_call 8; refine (HALL3.out w2b HB2b.out).mono ?_; rintro e3 w3 hA3; obtain ⟨⟨v3, X3, he3, hX3, hO3, hK3, -⟩, hb3⟩ := hA3; obtain ⟨a3, c3, hv3, hr3⟩ := hO3.rd okQ; obtain ⟨n3, hxn3⟩ : ∃ n, n = X3.length := ⟨_, rfl⟩; rw [← hxn3] at hv3; subst hv3; subst he3; have HXN3 := Hid.mk2 hxn3; have HX3 := Hid.mk2 hX3; have HQ3 : Hid (Rqs w3 a3 X3 c3) := ⟨hr3, hK3⟩; have HB3 := Hid.mk2 (g_on HB2b.out hb3); have HB23 := Hid.mk2 (g_on HB2Y.out hb3); have HL3 : Hid (X3.length ≤ 3000) := (by show _ ≤ _; have h := HLEN3.out; rw [← hX3] at h; simpa using h); clear hX3 hO3 hK3 hr3 hxn3)
        | (refine g_app okQ rfl _ _ _ rfl rfl w3.heap.size _ [] (GOwn.nil _ _) rfl (some ⟨b, off, none⟩) c2 X2 (k + 1) (by have := HXN2.out; omega) rfl ((HQ2.out.below HB23.out).row) (by have := HL2.out; simp; omega) (Nat.le_refl _) ?_; intro v4 w4 hO4 hgr4; have hb4 : Below w3.heap.size w3 w4 := hgr4.below (GOwn.nil (E := EQ) w3 w3.heap.size) (Nat.le_refl _); rw [List.nil_append] at hO4; have HO4 := Hid.mk2 hO4; have HB34 := Hid.mk2 hb4; have HS4 : Hid (w3.heap.size ≤ w4.heap.size) := hgr4.grown.size; clear hO4 hgr4 hb4)
        | (refine g_app okQ rfl _ _ _ rfl rfl w3.heap.size _ X2 HO4.out rfl a3 c3 X3 n3 HXN3.out rfl ((HQ3.out.below HB34.out).row) (by have := HL2.out; have := HL3.out; have := HXN2.out; have := HXN3.out; omega) HS4.out ?_; intro v5 w5 hO5 hgr5; have hb5 : Below w3.heap.size w4 w5 := hgr5.below HO4.out HS4.out; have HB35 : Hid (Below w3.heap.size w3 w5) := HB34.out.trans hb5; obtain ⟨a5, c5, hv5, hr5⟩ := hO5.rd okQ; subst hv5; have HR5 := Hid.mk2 hr5; clear hO5 hgr5 hb5 hr5)
        | (go_at_call 14; refine (sameAll_any (X2 ++ X3) X1 (HMAP3.out X3 HX3.out) a5 a1 c5 c1 w5 ⟨HR5.out, fun x hx => (List.mem_append.1 hx).elim (fun h => ((HQ2.out.keys x h).below HB23.out).below HB35.out) (fun h => (HQ3.out.keys x h).below HB35.out)⟩ (((HQ1.out.below HB12.out).below HB23.out).below HB35.out) (X2.length + X3.length) (by rw [List.length_append]) n1 HXN1.out).mono ?_; rintro e w6 ⟨rfl, hb6⟩; have HB6 : Hid (Below w.heap.size w w6) := g_on (g_on HB3.out HB35.out) hb6; clear hb6))
      go_ret
      exact ⟨by first | rfl | simp, HB6.out⟩

set_option maxRecDepth 100000 in
theorem textPieces_lifted (os : Os) (started : os.Started) (H : Type) (enc : TypeId × Value → H) :
    ReturnsInHanded {} Tryd.checked os 6 .any (fun w args => (Rows.textPiecesSpec.pre enc Tryd.prog Tryd.f6 [] false w args ∧ laidMetH Tryd.prog laid8 w) ∧ sizedMet enc Tryd.prog Tryd.f6 (OpenSpec.ofChange Rows.textPiecesSpec) false w args) (Rows.textPiecesSpec.post enc Tryd.prog Tryd.f6 false true false false) := by
  refine handed_shaped_and (C := Tryd.checked) (X := fun w _ => laidMetH Tryd.prog laid8 w) (fun _ _ _ hh h => h.of_heap hh) own started (by kernel_rfl) Tryd.func6
    (ChangeSpec.witness_shaped (enc := enc) (C := Tryd.checked) (os := os) (X := fun w _ => laidMetH Tryd.prog laid8 w) false (World.laidAll Tryd.prog os laid8) #[.slice none 0 0, .int .i64 0] 8 (World.laidAll_os _ _ _)
      (World.shaped_of_ZipB (by kernel_rfl) (by kernel_rfl)) (by kernel_rfl) (by kernel_rfl) (by kernel_rfl)
      (by rw [MakeChecks.laidMetH_plain _ _ _ (by kernel_rfl)]; exact laidMet_laidAll _ (by kernel_rfl) (by kernel_rfl))) ?_
  intro W base args ds gs before hval0 hW hcnd _ hL hsh
  have hval : ∀ (j : Nat) t v, Tryd.f6.params[j]? = some t → args[j]? = some v → Value.okWide Tryd.prog W .any base t v := hval0
  have hW' := hW
  obtain ⟨p, q, hA0, hV, rfl, hfz, hnd⟩ := hW
  have hA : DataW.TrodAll enc Tryd.prog W 0 (fun _ => true) true Tryd.f6.params.toList args.toList ds p := hA0
  rw [Tryd.params6] at hA hval
  obtain ⟨v0, vs0, d0, ds0, p0, q0, hargs, rfl, rfl, h0, r0⟩ := trodAll_cons hA
  obtain ⟨v1, vs1, d1, ds1, p1, q1, rfl, rfl, rfl, h1, r1⟩ := trodAll_cons r0
  obtain ⟨rfl, rfl, rfl⟩ := trodAll_nil r1
  obtain rfl : args = #[v0, v1] := by cases args; simp_all
  obtain ⟨rfl, rfl⟩ := trodVars_none hV
  have k0 := h0
  have lt0 : ∀ x ∈ p0, x.block < W.heap.size := by obtain ⟨m, hm⟩ := k0; exact DataW.trod_lt m _ _ _ hm
  obtain ⟨ao0, l0, cap0, rfl, g0⟩ := inBytes14_of (fun _ => rfl) (hval 0 34 v0 rfl rfl) h0
  obtain ⟨a1, rfl, rfl, rfl, w1⟩ := open_int Tryd.underlying3 (hval 1 3 v1 rfl rfl) h1
  clear hA0 hval0
  refine (textPieces_walk W (gl_of8 hL hsh) ao0 l0 cap0 g0 a1 w1).mono fun e W' ⟨he, bel⟩ => ?_
  subst he
  exact ⟨_, rfl, _, _, _, [], _, [], hW', trodAll_mk1 (shut_bool Tryd.underlying4 _), (trodAll_cons_mk (Below.trod laidOut_all (by kernel_rfl) (of_decide_eq_true (by kernel_rfl)) k0 bel lt0) (trodAll_cons_mk (shut_int Tryd.underlying3 w1) trodAll_mk0)), rfl, bel.frame _, fun h => by cases h⟩

theorem textPieces_proved : Rows.TextPiecesSaid :=
  OpenClaim.holds_of_wide 6 Tryd.f6 rfl rfl rfl rfl rfl rfl rfl ⟨rfl, rfl, rfl, rfl, rfl⟩ rfl rfl rfl rfl rfl (by kernel_rfl) Tryd.func6 (by kernel_rfl)
    (of_decide_eq_true (by kernel_rfl)) (by unfold Func.isWrapper; first | (rw [if_pos (by decide +kernel)]; kernel_rfl) | (rw [if_neg (by decide +kernel)]; exact ⟨rfl, rfl⟩))
    (fun os started H enc _ => textPieces_lifted os started H enc)

theorem textPieces_card : Rows.TextPiecesCardSaid :=
  Claim7.holds_tied_plain_at .later [] [.data, .data, .data, .data, .sentinel, .sentinel, .pinned] true Rows.textPiecesCard.stood.harness true
    textPieces_proved (fun _ h => by cases h) (by kernel_rfl) (fun _ h => by cases h) textPieces_row_tie rfl ⟨rfl, rfl⟩ (by kernel_rfl) rfl
    (fun f fn hf hfn => by
      obtain rfl : f = 6 := Option.some.inj ((show Tryd.prog.funcNamed "cloakroom/cloakroomlaw14.TextPieces" = some 6 by kernel_rfl).symm.trans hf) |>.symm
      obtain rfl : fn = Tryd.f6 := (Option.some.inj (Tryd.func6.symm.trans hfn)).symm
      exact ⟨by kernel_rfl, fun j t ht => by
        rw [Tryd.params6] at ht
        have hm : t ∈ ([34, 3] : List TypeId) := by simpa using Array.mem_of_getElem? ht
        have hall : (([34, 3] : List TypeId).all fun u => !Tryd.prog.wantsStandIn u) = true := by kernel_rfl
        exact (show Tryd.prog.wantsStandIn t = false by simpa using List.all_eq_true.1 hall t hm)⟩)
    (by kernel_rfl)
#print axioms textPieces_card
end Go.Proofs.YtldnkminhppngaaDoor
