/-
  Contracts of the document's without, Del and Until (wheel).
-/
import Derived.Test.YthcekkahkioibadWdF
namespace Go.Proofs.Ythcekkahkioibad
open Go.RowKit
set_option linter.unusedSimpArgs false
set_option linter.unusedVariables false
set_option maxRecDepth 100000

theorem wwo_any (w : World) (now : Int) (ao : Option Addr) (D : List NU) (cap : Nat) (h : De w ao D cap) (hl : D.length ≤ 100000) (k : Int) :
    Calls Try.prog 70 #[wv now ao D.length cap, .int .i64 k] w fun e w' => ∃ ro rc, e = .returned (wv now ro (woI D k).length rc) ∧ OwnE w' w.heap.size (.slice ro (woI D k).length rc) (woI D k) ∧ Below w.heap.size w w' := by
  have HD := Hid.mk2 h
  have hcap := h.hl
  clear h
  go_enter Try.func70, Try.ntmps70
  go_wp2
  obtain ⟨w0, hw0⟩ : ∃ w0, w0 = (w.alloc (Obj.cells #[.int .i64 now, .slice ao D.length cap] 45)).alloc (Obj.cells #[.int .i64 0, .slice none 0 0] 45) := ⟨_, rfl⟩
  rw [← hw0]
  have c0 : w0.cell? ⟨w.heap.size, 0, none⟩ = some (.int .i64 now) := by rw [hw0]; simp
  have c1 : w0.cell? ⟨w.heap.size, 1, none⟩ = some (.slice ao D.length cap) := by rw [hw0]; simp
  have r0 : w0.cell? ⟨w.heap.size + 1, 0, none⟩ = some (.int .i64 0) := by rw [hw0]; simp
  have r1 : w0.cell? ⟨w.heap.size + 1, 1, none⟩ = some (.slice none 0 0) := by rw [hw0]; simp
  have f0 : w0.frozen? ⟨w.heap.size + 1, 0, none⟩ = false := by rw [hw0]; simp
  have f1 : w0.frozen? ⟨w.heap.size + 1, 1, none⟩ = false := by rw [hw0]; simp
  have x0 : w.heap.size + 1 < w0.heap.size := by rw [hw0]; simp
  have HB : Hid (Below w.heap.size w w0) := by rw [hw0]; exact ((Below.refl _ _).alloc (Nat.le_refl _) _).alloc (by simp) _
  clear hw0
  go_loopw [5, 6] (fun l i wr => ∃ (j : Nat), j ≤ D.length ∧ i = .int .i64 j ∧ OwnE wr w0.heap.size l (woI (D.take j) k) ∧ Hid (Below w0.heap.size w0 wr)) (fun _ i _ => D.length - (intOf i).toNat)
  case atStart => exact ⟨0, Nat.zero_le _, rfl, by rw [show woI (D.take 0) k = [] by unfold woI; simp]; exact OwnE.nil _ _, Below.refl _ _⟩
  case round =>
    obtain ⟨j, hj, rfl, hO, HBr⟩ := hrel
    obtain ⟨lo, lc, hv, -⟩ := hO.de
    have hbx := HBr.out.size
    have d0 := (bcl HBr.out _ 0 (Nat.lt_of_succ_lt x0)).trans c0
    have d1 := (bcl HBr.out _ 1 (Nat.lt_of_succ_lt x0)).trans c1
    have HBW : Hid (Below w.heap.size w wr) := HB.out.trans (HBr.out.mono (by omega))
    by_cases hlt : j < D.length
    · have hlt2 : (j : Int) < (D.length : Int) := by omega
      have hw1 := woI_take hlt k
      have hln : (woI (D.take j) k).length ≤ 100000 := Nat.le_trans (woI_len _ _) (by simp; omega)
      by_cases e : (j : Int) = k
      · have e2 : ((j : Int) != k) = false := by simp [e]
        rw [if_pos e] at hw1
        subst hv
        go_wp2
        go_roundw
        case rel => exact ⟨j + 1, by omega, by go_num, by rw [hw1]; exact hO, HBr⟩
        case measure => simp [intOf]; omega
      · have e2 : ((j : Int) != k) = true := by simp [e]
        rw [if_neg e] at hw1
        rcases (HD.out.below HBW.out).at_ with h0 | ⟨b, off, rfl, hbb, hcs⟩
        · rw [h0] at hlt; simp at hlt
        obtain ⟨q0, q1, q2⟩ := hcs j hlt
        obtain ⟨z, hz⟩ : ∃ z, z = D[j] := ⟨_, rfl⟩
        rw [← hz] at q0 q1 q2 hw1
        have HW1 := Hid.mk2 hw1
        have hs0 : w0.heap.size ≤ wr.heap.size := hbx
        have HOO := Hid.mk2 hO
        clear hz hcs hw1
        go_wp2_with (at_builtin; refine app_e rfl (.tmp 17) (.tmp 23) rfl w0.heap.size _ _ hO rfl z rfl _ rfl rfl (by omega) hs0 ?_; intro v4 w4 ho4 hg4)
        go_roundw
        case rel => exact ⟨j + 1, by omega, by go_num, by rw [HW1.out]; exact ho4, grew_below HBr.out HOO.out hs0 hg4⟩
        case measure => simp [intOf]; omega
    · have hlt2 : ¬ (j : Int) < (D.length : Int) := by omega
      have hkt : D.take j = D := List.take_of_length_le (by omega)
      rw [hkt] at hO hv
      have s0 := (bcl HBr.out _ 0 x0).trans r0
      have s1 := (bcl HBr.out _ 1 x0).trans r1
      have g0 := (bfr HBr.out _ 0 x0).trans f0
      have g1 := (bfr HBr.out _ 1 x0).trans f1
      subst hv
      have HO := Hid.mk2 hO
      have z0 := set2_0 (a := .int .i64 now) (b := .slice lo (woI D k).length lc) s0
      have z1 := set2_1 (a := .int .i64 now) (b := .slice lo (woI D k).length lc) s1
      clear hkt hO
      go_wp2
      try simp only [Exit.inBlock, Exit.then]
      refine bodyPost_ret (v := wv now lo (woI D k).length lc) (by simp [results, Try.results70, go_sem, z0, z1]) rfl ⟨lo, lc, rfl, ?_, below_set2 HBW.out (by omega)⟩
      exact (HO.out.set2 x0).down (by omega)
theorem wdel_any (w : World) (now : Int) (ao : Option Addr) (D : List NU) (cap : Nat) (h : De w ao D cap) (hl : D.length ≤ 100000) (ha : D.Pairwise (fun p q => p.1 ≠ q.1)) (y : Nm) :
    Calls Try.prog 42 #[wv now ao D.length cap, .agg #[.int .i64 y.tenant, .string y.key]] w fun e w' => Below w.heap.size w w' ∧ ((¬ (y.ok ∧ ∃ u, (y, u) ∈ D) ∧ e = .returned (.tuple #[wv now ao D.length cap, .int .i64 (delE D y)])) ∨ ((y.ok ∧ ∃ u, (y, u) ∈ D) ∧ ∃ ro rc, e = .returned (.tuple #[wv now ro (strike y D).length rc, .int .i64 0]) ∧ OwnE w' w.heap.size (.slice ro (strike y D).length rc) (strike y D))) := by
  have HD := Hid.mk2 h
  have HA := Hid.mk2 ha
  have HNM := Hid.mk2 (fun W => wname_any y W)
  have HFI := Hid.mk2 (fun W (hb : Below w.heap.size w W) => wfind_any W now ao D cap (h.below hb) hl y)
  have HWO := Hid.mk2 (fun W (hb : Below w.heap.size w W) k => wwo_any W now ao D cap (h.below hb) hl k)
  clear h ha
  go_enter Try.func42, Try.ntmps42
  go_upto_region 1 with (fail)
  obtain ⟨w0, hw0⟩ : ∃ w0, w0 = ((w.alloc (Obj.cells #[.int .i64 now, .slice ao D.length cap] 45)).alloc (Obj.cells #[.int .i64 y.tenant, .string y.key] 24)).alloc (Obj.cells #[.int .i64 0, .slice none 0 0] 45) := ⟨_, rfl⟩
  rw [← hw0]
  have HK : Hid (∀ W, Below w0.heap.size w0 W → W.cell? ⟨w.heap.size, 0, none⟩ = some (.int .i64 now) ∧ W.cell? ⟨w.heap.size, 1, none⟩ = some (.slice ao D.length cap) ∧ W.cell? ⟨w.heap.size + 1, 0, none⟩ = some (.int .i64 y.tenant) ∧ W.cell? ⟨w.heap.size + 1, 1, none⟩ = some (.string y.key) ∧ W.cell? ⟨w.heap.size + 1 + 1, 0, none⟩ = some (.int .i64 0) ∧ W.cell? ⟨w.heap.size + 1 + 1, 1, none⟩ = some (.slice none 0 0) ∧ W.frozen? ⟨w.heap.size + 1 + 1, 0, none⟩ = false ∧ W.frozen? ⟨w.heap.size + 1 + 1, 1, none⟩ = false ∧ w.heap.size + 1 + 1 < W.heap.size) := by
    intro W hb
    have x0 : w.heap.size + 1 + 1 < w0.heap.size := by rw [hw0]; simp
    obtain ⟨w1, hw1⟩ : ∃ w1, w1 = (w.alloc (Obj.cells #[.int .i64 now, .slice ao D.length cap] 45)).alloc (Obj.cells #[.int .i64 y.tenant, .string y.key] 24) := ⟨_, rfl⟩
    rw [← hw1] at hw0
    have hs1 : w1.heap.size = w.heap.size + 1 + 1 := by rw [hw1]; simp
    have hb1 : Below w1.heap.size w1 w0 := by rw [hw0]; exact (Below.refl _ _).alloc (Nat.le_refl _) _
    have t0 : w0.cell? ⟨w1.heap.size, 0, none⟩ = some (.int .i64 0) ∧ w0.cell? ⟨w1.heap.size, 1, none⟩ = some (.slice none 0 0) ∧ w0.frozen? ⟨w1.heap.size, 0, none⟩ = false ∧ w0.frozen? ⟨w1.heap.size, 1, none⟩ = false := by rw [hw0]; simp
    rw [hs1] at t0
    refine ⟨(bcl hb _ _ (by omega)).trans ((bcl hb1 _ _ (by omega)).trans (by rw [hw1]; simp)), (bcl hb _ _ (by omega)).trans ((bcl hb1 _ _ (by omega)).trans (by rw [hw1]; simp)), (bcl hb _ _ (by omega)).trans ((bcl hb1 _ _ (by omega)).trans (by rw [hw1]; simp)), (bcl hb _ _ (by omega)).trans ((bcl hb1 _ _ (by omega)).trans (by rw [hw1]; simp)), (bcl hb _ _ x0).trans t0.1, (bcl hb _ _ x0).trans t0.2.1, (bfr hb _ _ x0).trans t0.2.2.1, (bfr hb _ _ x0).trans t0.2.2.2, Nat.lt_of_lt_of_le x0 hb.size⟩
  have HB : Hid (Below w.heap.size w w0) := by rw [hw0]; exact (((Below.refl _ _).alloc (Nat.le_refl _) _).alloc (by simp) _).alloc (by simp; omega) _
  have hws : w.heap.size ≤ w0.heap.size := HB.out.size
  clear hw0
  obtain ⟨k0, k1, k2, k3, k4, k5, k6, k7, k8⟩ := HK.out _ (Below.refl _ _)
  by_cases hok : y.ok
  · rw [decide_eq_true hok] at HNM
    have HOK := Hid.mk2 hok
    clear hok
    go_upto_region 3 with (go_at_call 68; refine (HNM.out _).mono ?_; rintro e w1 ⟨rfl, hb1⟩; have HB1 : Hid (Below w0.heap.size w0 w1) := hb1; clear hb1 k0 k1 k2 k3 k4 k5 k6 k7 k8; obtain ⟨k0, k1, k2, k3, k4, k5, k6, k7, k8⟩ := HK.out _ HB1.out)
    go_upto_region 4 with (go_at_call 69; refine (HFI.out _ (HB.out.trans (HB1.out.mono hws))).mono ?_; rintro e w2 ⟨hb2, hcase⟩; have HB2 : Hid (Below w0.heap.size w0 w2) := HB1.out.trans (hb2.mono HB1.out.size); clear hb2 k0 k1 k2 k3 k4 k5 k6 k7 k8; obtain ⟨k0, k1, k2, k3, k4, k5, k6, k7, k8⟩ := HK.out _ HB2.out; rcases hcase with ⟨rfl, hno⟩ | ⟨k, u, rfl, hk⟩)
    · have HNO := Hid.mk2 hno
      have z0 := set2_0 (a := .int .i64 now) (b := .slice ao D.length cap) k4
      have z1 := set2_1 (a := .int .i64 now) (b := .slice ao D.length cap) k5
      clear hno
      go_wp2
      try simp only [Exit.inBlock, Exit.then]
      refine bodyPost_ret (v := .tuple #[wv now ao D.length cap, .int .i64 6]) (by simp [results, Try.results42, go_sem, z0, z1]) rfl ⟨below_set2 (HB.out.trans (HB2.out.mono hws)) (by omega), .inl ⟨fun ⟨_, u, hu⟩ => HNO.out _ hu rfl, ?_⟩⟩
      unfold delE
      rw [if_pos HOK.out, if_pos HNO.out]
    · have HKK := Hid.mk2 hk
      have hk0 : decide ((k : Int) < 0) = false := by simp
      clear hk
      go_wp2_with (go_at_call 70; refine (HWO.out _ (HB.out.trans (HB2.out.mono hws)) k).mono ?_; rintro e w3 ⟨ro, rc, rfl, hO, hb3⟩; have HB3 : Hid (Below w0.heap.size w0 w3) := HB2.out.trans (hb3.mono HB2.out.size); clear k0 k1 k2 k3 k4 k5 k6 k7; obtain ⟨k0, k1, k2, k3, k4, k5, k6, k7, k9⟩ := HK.out _ HB3.out)
      have es := woI_strike HA.out HKK.out
      rw [es] at hO ⊢
      have z0 := set2_0 (a := .int .i64 now) (b := .slice ro (strike y D).length rc) k4
      have z1 := set2_1 (a := .int .i64 now) (b := .slice ro (strike y D).length rc) k5
      try simp only [Exit.inBlock, Exit.then]
      refine bodyPost_ret (v := .tuple #[wv now ro (strike y D).length rc, .int .i64 0]) (by simp [results, Try.results42, go_sem, z0, z1]) rfl ⟨below_set2 (HB.out.trans (HB3.out.mono hws)) (by omega), .inr ⟨⟨HOK.out, u, List.mem_of_getElem? HKK.out⟩, ro, rc, rfl, ?_⟩⟩
      exact (hO.set2 k8).down (by omega)
  · rw [decide_eq_false hok] at HNM
    have HOK := Hid.mk2 hok
    clear hok
    go_upto_region 2 with (go_at_call 68; refine (HNM.out _).mono ?_; rintro e w1 ⟨rfl, hb1⟩; have HB1 : Hid (Below w0.heap.size w0 w1) := hb1; clear hb1 k0 k1 k2 k3 k4 k5 k6 k7 k8; obtain ⟨k0, k1, k2, k3, k4, k5, k6, k7, k8⟩ := HK.out _ HB1.out)
    have z0 := set2_0 (a := .int .i64 now) (b := .slice ao D.length cap) k4
    have z1 := set2_1 (a := .int .i64 now) (b := .slice ao D.length cap) k5
    go_wp2
    try simp only [Exit.inBlock, Exit.then]
    refine bodyPost_ret (v := .tuple #[wv now ao D.length cap, .int .i64 8]) (by simp [results, Try.results42, go_sem, z0, z1]) rfl ⟨below_set2 (HB.out.trans (HB1.out.mono hws)) (by omega), .inl ⟨fun h => HOK.out h.1, ?_⟩⟩
    unfold delE
    rw [if_neg HOK.out]
theorem wuntil_any (w : World) (now : Int) (ao : Option Addr) (D : List NU) (cap : Nat) (h : De w ao D cap) (hl : D.length ≤ 100000) (y : Nm) :
    Calls Try.prog 43 #[wv now ao D.length cap, .agg #[.int .i64 y.tenant, .string y.key]] w fun e w' => Below w.heap.size w w' ∧
      ((¬ y.ok ∧ e = .returned (.tuple #[.int .i64 0, .int .i64 8])) ∨ (y.ok ∧ (∀ q ∈ D, q.1 ≠ y) ∧ e = .returned (.tuple #[.int .i64 0, .int .i64 6])) ∨ (y.ok ∧ ∃ u, (y, u) ∈ D ∧ e = .returned (.tuple #[.int .i64 u, .int .i64 0]))) := by
  have HD := Hid.mk2 h
  have hcap := h.hl
  have HNM := Hid.mk2 (fun W => wname_any y W)
  have HFI := Hid.mk2 (fun W (hb : Below w.heap.size w W) => wfind_any W now ao D cap (h.below hb) hl y)
  clear h
  go_enter Try.func43, Try.ntmps43
  go_upto_region 1 with (fail)
  obtain ⟨w0, hw0⟩ : ∃ w0, w0 = (w.alloc (Obj.cells #[.int .i64 now, .slice ao D.length cap] 45)).alloc (Obj.cells #[.int .i64 y.tenant, .string y.key] 24) := ⟨_, rfl⟩
  rw [← hw0]
  have HK : Hid (∀ W, Below w0.heap.size w0 W → W.cell? ⟨w.heap.size, 0, none⟩ = some (.int .i64 now) ∧ W.cell? ⟨w.heap.size, 1, none⟩ = some (.slice ao D.length cap) ∧ W.cell? ⟨w.heap.size + 1, 0, none⟩ = some (.int .i64 y.tenant) ∧ W.cell? ⟨w.heap.size + 1, 1, none⟩ = some (.string y.key)) := by
    intro W hb
    have x0 : w.heap.size + 1 < w0.heap.size := by rw [hw0]; simp
    refine ⟨(bcl hb _ _ (by omega)).trans ?_, (bcl hb _ _ (by omega)).trans ?_, (bcl hb _ _ (by omega)).trans ?_, (bcl hb _ _ (by omega)).trans ?_⟩
    all_goals
      rw [hw0]
      simp
  have HB : Hid (Below w.heap.size w w0) := by rw [hw0]; exact ((Below.refl _ _).alloc (Nat.le_refl _) _).alloc (by simp) _
  have hws : w.heap.size ≤ w0.heap.size := HB.out.size
  clear hw0
  obtain ⟨k0, k1, k2, k3⟩ := HK.out _ (Below.refl _ _)
  by_cases hok : y.ok
  · rw [decide_eq_true hok] at HNM
    have HOK := Hid.mk2 hok
    clear hok
    go_upto_region 3 with (go_at_call 68; refine (HNM.out _).mono ?_; rintro e w1 ⟨rfl, hb1⟩; have HB1 : Hid (Below w0.heap.size w0 w1) := hb1; clear hb1 k0 k1 k2 k3; obtain ⟨k0, k1, k2, k3⟩ := HK.out _ HB1.out)
    go_upto_region 4 with (go_at_call 69; refine (HFI.out _ (HB.out.trans (HB1.out.mono hws))).mono ?_; rintro e w2 ⟨hb2, hcase⟩; have HB2 : Hid (Below w0.heap.size w0 w2) := HB1.out.trans (hb2.mono HB1.out.size); clear hb2 k0 k1 k2 k3; obtain ⟨k0, k1, k2, k3⟩ := HK.out _ HB2.out; rcases hcase with ⟨rfl, hno⟩ | ⟨k, u, rfl, hk⟩)
    · have HNO := Hid.mk2 hno
      clear hno
      go_wp2
      go_ret2
      exact ⟨HB.out.trans (HB2.out.mono hws), .inr (.inl ⟨HOK.out, HNO.out, rfl⟩)⟩
    · obtain ⟨hlt, hk2⟩ := List.getElem?_eq_some_iff.1 hk
      rcases (HD.out.below (HB.out.trans (HB2.out.mono hws))).at_ with h0 | ⟨b, off, rfl, hbb, hcs⟩
      · rw [h0] at hlt; simp at hlt
      obtain ⟨-, -, q2⟩ := hcs k hlt
      rw [hk2] at q2
      have q3 : w2.cell? ⟨b, off + k * 3 + 2, none⟩ = some (.int .i64 u) := q2
      have hk0 : decide ((k : Int) < 0) = false := by simp
      have hlt2 : (k : Int) < (D.length : Int) := by omega
      have HM := Hid.mk2 (List.mem_of_getElem? hk)
      clear hk hk2 q2 hcs
      go_wp2
      go_ret2
      exact ⟨HB.out.trans (HB2.out.mono hws), .inr (.inr ⟨HOK.out, u, HM.out, rfl⟩)⟩
  · rw [decide_eq_false hok] at HNM
    have HOK := Hid.mk2 hok
    clear hok
    go_wp2_with (go_at_call 68; refine (HNM.out _).mono ?_; rintro e w1 ⟨rfl, hb1⟩; have HB1 : Hid (Below w0.heap.size w0 w1) := hb1)
    go_ret2
    exact ⟨HB.out.trans (HB1.out.mono hws), .inl ⟨HOK.out, rfl⟩⟩
end Go.Proofs.Ythcekkahkioibad
