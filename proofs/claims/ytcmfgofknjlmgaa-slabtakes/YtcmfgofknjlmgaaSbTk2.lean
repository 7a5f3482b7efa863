/-
  The walk of SlabTakes.
-/
import Derived.Test.YtcmfgofknjlmgaaSbTk
namespace Go.Proofs.Ytcmfgofknjlmgaa
open Go.RowKit
set_option linter.unusedSimpArgs false
set_option linter.unusedVariables false
set_option maxRecDepth 100000

set_option maxHeartbeats 4000000 in
theorem slabTakes_few (w : World) (ao : Option Addr) (cap : Nat) (ps : List Pg) (h : Sb w ao ps cap) (t c q p k : Int) (hl : ps.length ≤ 100) :
    Calls Try.prog 5 #[.agg #[.slice ao ps.length cap], .int .i64 t, .int .i64 c, .int .i64 q, .int .i64 p, .int .i64 k] w fun e w' => e = .returned (.bool true) ∧ Below w.heap.size w w' := by
  have h100 : decide ((100 : Int) < ps.length) = false := by simp; omega
  have h100n : decide (100 < ps.length) = false := by simp; omega
  obtain ⟨N, hN⟩ : ∃ N, N = newP q := ⟨_, rfl⟩
  obtain ⟨NE, hNE⟩ : ∃ NE, NE = newE q := ⟨_, rfl⟩
  have hNl : N.length ≤ 1000 := by rw [hN]; exact newP_len q
  have HC2 := Hid.mk2 (fun W => new_all q W)
  have HC3 := Hid.mk2 (fun W => rnew_all q W)
  rw [← hN, ← hNE] at HC2 HC3
  obtain ⟨R, I, K, hR⟩ : ∃ R I K, takeR ps t c q = (R, I, K) := ⟨_, _, _, rfl⟩
  obtain ⟨E, hE⟩ : ∃ E, takeE ps t c q = E := ⟨_, rfl⟩
  have hRl : R.length ≤ 1000 := by have := takeR_len ps t c q; rw [hR] at this; have : R.length ≤ ps.length := this; omega
  obtain ⟨F, hF⟩ : ∃ F, freeR ps p k = F := ⟨_, rfl⟩
  obtain ⟨G, hG⟩ : ∃ G, freeE ps p k = G := ⟨_, rfl⟩
  have hFl : F.length ≤ 1000 := by have := freeR_len ps p k; rw [hF] at this; omega
  have HC5 := Hid.mk2 (fun W (hb : Sb W ao ps cap) => rtake_sb W ao ps cap hb t c q E R I K hE hR)
  have HC7 := Hid.mk2 (fun W (hb : Sb W ao ps cap) => rfree_sb W ao ps cap hb p k G F hG hF)
  have HC4 := Hid.mk2 (fun ro rc W (hb : Sb W ro ps rc) => take_sb W ro ps rc hb t c q E R I K hE hR)
  have HC6 := Hid.mk2 (fun ro rc W (hb : Sb W ro ps rc) => free_sb W ro ps rc hb p k G F hG hF)
  have HC1 := Hid.mk2 (fun W (hb : Sb W ao ps cap) => rtwin_any W ao ps cap hb (by omega))
  have HS := Hid.mk2 h
  have HNL := Hid.mk2 hNl
  have HRL := Hid.mk2 hRl
  have HFL := Hid.mk2 hFl
  clear hN hNE hE hR hF hG h hNl hRl hFl
  go_enter Try.func5, Try.ntmps5
  go_upto_region 1 with (fail)
  obtain ⟨w0, hw0⟩ : ∃ w0, w0 = w.alloc (Obj.cells #[Value.slice ao ps.length cap] 46) := ⟨_, rfl⟩
  obtain ⟨b0, hb0⟩ : ∃ b0, b0 = w.heap.size := ⟨_, rfl⟩
  have HB0 : Hid (Below w.heap.size w w0) := by rw [hw0]; exact (Below.refl _ _).alloc (Nat.le_refl _) _
  have HH0 : Hid (Hds w0 [(b0, (Value.slice ao ps.length cap))]) := by rw [hw0, hb0]; exact (Hds.nil w).push _ _
  have HM0 : Hid (Sbs w0 [(ao, ps, cap)]) := (Sbs.nil w0).push (HS.out.below HB0.out)
  rw [← hw0, ← hb0]
  have HBB0 : Hid (b0 = w.heap.size) := hb0
  have c0 := (HH0.out _ (.head _)).c
  have x0 := (HH0.out _ (.head _)).x
  dsimp only at c0 x0
  clear hw0 hb0 HS
  go_upto_region 4 with (go_at_call 23; refine (HC1.out _ (HM0.out _ (.head _))).mono ?_; rintro e v1 ⟨ro1, rc1, rfl, hf1, hb1⟩)
  have hs1 := hf1.sb'
  obtain ⟨w1, hw1⟩ : ∃ x, x = v1.alloc (Obj.cells #[(Value.slice ro1 ps.length rc1)] 46) := ⟨_, rfl⟩
  obtain ⟨b1, hbn1⟩ : ∃ x, x = v1.heap.size := ⟨_, rfl⟩
  rw [← hw1, ← hbn1]
  have hst1 : Below w0.heap.size w0 w1 := by rw [hw1]; exact hb1.alloc hb1.size _
  have hal1 : Below v1.heap.size v1 w1 := by rw [hw1]; exact (Below.refl _ _).alloc (Nat.le_refl _) _
  have HH1 : Hid (Hds w1 [(b1, (Value.slice ro1 ps.length rc1)), (b0, (Value.slice ao ps.length cap))]) := by rw [hw1, hbn1]; exact (Hds.step HH0.out hb1).push _ _
  have HM1 : Hid (Sbs w1 [(ro1, ps, rc1), (ao, ps, cap)]) := (Sbs.step HM0.out hst1).push (hs1.below hal1)
  have HB1 : Hid (Below w.heap.size w w1) := HB0.out.trans (hst1.mono HB0.out.size)
  clear hw1 hbn1 hst1 hal1 hs1 hb1 hf1 c0 x0 HC1
  go_upto_region 5 with (go_at_call 16; refine (HC2.out _).mono ?_; rintro e v2 ⟨ro2, rc2, rfl, hs2, hb2⟩)
  obtain ⟨w2, hw2⟩ : ∃ x, x = v2.alloc (Obj.cells #[(Value.slice ro2 N.length rc2)] 46) := ⟨_, rfl⟩
  obtain ⟨b2, hbn2⟩ : ∃ x, x = v2.heap.size := ⟨_, rfl⟩
  rw [← hw2, ← hbn2]
  have hst2 : Below w1.heap.size w1 w2 := by rw [hw2]; exact hb2.alloc hb2.size _
  have hal2 : Below v2.heap.size v2 w2 := by rw [hw2]; exact (Below.refl _ _).alloc (Nat.le_refl _) _
  have HH2 : Hid (Hds w2 [(b2, (Value.slice ro2 N.length rc2)), (b1, (Value.slice ro1 ps.length rc1)), (b0, (Value.slice ao ps.length cap))]) := by rw [hw2, hbn2]; exact (Hds.step HH1.out hb2).push _ _
  have HM2 : Hid (Sbs w2 [(ro2, N, rc2), (ro1, ps, rc1), (ao, ps, cap)]) := (Sbs.step HM1.out hst2).push (hs2.below hal2)
  have HB2 : Hid (Below w.heap.size w w2) := HB1.out.trans (hst2.mono HB1.out.size)
  clear hw2 hbn2 hst2 hal2 hs2 hb2 HC2 HH1 HM1 HB1
  go_upto_region 6 with (go_at_call 24; refine (HC3.out _).mono ?_; rintro e v3 ⟨ro3, rc3, rfl, hs3, hb3⟩)
  obtain ⟨w3, hw3⟩ : ∃ x, x = v3.alloc (Obj.cells #[(Value.slice ro3 N.length rc3)] 46) := ⟨_, rfl⟩
  obtain ⟨b3, hbn3⟩ : ∃ x, x = v3.heap.size := ⟨_, rfl⟩
  rw [← hw3, ← hbn3]
  have hst3 : Below w2.heap.size w2 w3 := by rw [hw3]; exact hb3.alloc hb3.size _
  have hal3 : Below v3.heap.size v3 w3 := by rw [hw3]; exact (Below.refl _ _).alloc (Nat.le_refl _) _
  have HH3 : Hid (Hds w3 [(b3, (Value.slice ro3 N.length rc3)), (b2, (Value.slice ro2 N.length rc2)), (b1, (Value.slice ro1 ps.length rc1)), (b0, (Value.slice ao ps.length cap))]) := by rw [hw3, hbn3]; exact (Hds.step HH2.out hb3).push _ _
  have HM3 : Hid (Sbs w3 [(ro3, N, rc3), (ro2, N, rc2), (ro1, ps, rc1), (ao, ps, cap)]) := (Sbs.step HM2.out hst3).push (hs3.below hal3)
  have HB3 : Hid (Below w.heap.size w w3) := HB2.out.trans (hst3.mono HB2.out.size)
  clear hw3 hbn3 hst3 hal3 hs3 hb3 HC3 HH2 HM2 HB2
  have c41 := (HH3.out _ (.tail _ (.tail _ (.head _)))).c
  dsimp only at c41
  go_upto_region 7 with (go_at_call 17; refine (HC4.out ro1 rc1 _ (HM3.out _ (.tail _ (.tail _ (.head _))))).mono ?_; rintro e v4 ⟨ro4, rc4, rfl, hs4, hf4, hb4⟩)
  obtain ⟨w4, hw4⟩ : ∃ x, x = v4.alloc (Obj.cells #[(Value.slice ro4 R.length rc4)] 46) := ⟨_, rfl⟩
  obtain ⟨b4, hbn4⟩ : ∃ x, x = v4.heap.size := ⟨_, rfl⟩
  rw [← hw4, ← hbn4]
  have hst4 : Below w3.heap.size w3 w4 := by rw [hw4]; exact hb4.alloc hb4.size _
  have hal4 : Below v4.heap.size v4 w4 := by rw [hw4]; exact (Below.refl _ _).alloc (Nat.le_refl _) _
  have HH4 : Hid (Hds w4 [(b4, (Value.slice ro4 R.length rc4)), (b3, (Value.slice ro3 N.length rc3)), (b2, (Value.slice ro2 N.length rc2)), (b1, (Value.slice ro1 ps.length rc1)), (b0, (Value.slice ao ps.length cap))]) := by rw [hw4, hbn4]; exact (Hds.step HH3.out hb4).push _ _
  have HM4 : Hid (Sbs w4 [(ro4, R, rc4), (ro3, N, rc3), (ro2, N, rc2), (ro1, ps, rc1), (ao, ps, cap)]) := (Sbs.step HM3.out hst4).push (hs4.below hal4)
  have HB4 : Hid (Below w.heap.size w w4) := HB3.out.trans (hst4.mono HB3.out.size)
  have HF4 : Hid (FreshS w4 w3.heap.size (Value.slice ro4 R.length rc4) R) := hf4.below hal4
  have HA4 : Hid (Below w3.heap.size w3 w4) := hst4
  have HG4 : Hid (v4.heap.size = b4) := hbn4.symm
  have HX4 : Hid (∀ k, rowB ro4 R.length = some k → w3.heap.size ≤ k ∧ k < b4) := by rw [hbn4]; exact hf4.rowB
  clear hw4 hbn4 hst4 hal4 hs4 hb4 hf4 c41 HC4
  have c50 := (HH4.out _ (.tail _ (.tail _ (.tail _ (.tail _ (.head _)))))).c
  dsimp only at c50
  go_upto_region 8 with (go_at_call 25; refine (HC5.out _ (HM4.out _ (.tail _ (.tail _ (.tail _ (.tail _ (.head _))))))).mono ?_; rintro e v5 ⟨ro5, rc5, rfl, hs5, hb5⟩)
  obtain ⟨w5, hw5⟩ : ∃ x, x = v5.alloc (Obj.cells #[(Value.slice ro5 R.length rc5)] 46) := ⟨_, rfl⟩
  obtain ⟨b5, hbn5⟩ : ∃ x, x = v5.heap.size := ⟨_, rfl⟩
  rw [← hw5, ← hbn5]
  have hst5 : Below w4.heap.size w4 w5 := by rw [hw5]; exact hb5.alloc hb5.size _
  have hal5 : Below v5.heap.size v5 w5 := by rw [hw5]; exact (Below.refl _ _).alloc (Nat.le_refl _) _
  have HH5 : Hid (Hds w5 [(b5, (Value.slice ro5 R.length rc5)), (b4, (Value.slice ro4 R.length rc4)), (b3, (Value.slice ro3 N.length rc3)), (b2, (Value.slice ro2 N.length rc2)), (b1, (Value.slice ro1 ps.length rc1)), (b0, (Value.slice ao ps.length cap))]) := by rw [hw5, hbn5]; exact (Hds.step HH4.out hb5).push _ _
  have HM5 : Hid (Sbs w5 [(ro5, R, rc5), (ro4, R, rc4), (ro3, N, rc3), (ro2, N, rc2), (ro1, ps, rc1), (ao, ps, cap)]) := (Sbs.step HM4.out hst5).push (hs5.below hal5)
  have HB5 : Hid (Below w.heap.size w w5) := HB4.out.trans (hst5.mono HB4.out.size)
  have HF4 : Hid (FreshS w5 w3.heap.size (Value.slice ro4 R.length rc4) R) := HF4.out.below hst5
  have HA4 : Hid (Below w3.heap.size w3 w5) := HA4.out.trans (hst5.mono HA4.out.size)
  have HL35 : Hid (w3.heap.size ≤ w5.heap.size) := HA4.out.size
  clear hw5 hbn5 hst5 hal5 hs5 hb5 c50 HC5 HH4 HB4
  have c61 := (HH5.out _ (.tail _ (.tail _ (.tail _ (.tail _ (.head _)))))).c
  dsimp only at c61
  go_upto_region 9 with (go_at_call 18; refine (HC6.out ro1 rc1 _ (HM5.out _ (.tail _ (.tail _ (.tail _ (.tail _ (.head _))))))).mono ?_; rintro e v6 ⟨ro6, rc6, rfl, hs6, hf6, hb6⟩)
  obtain ⟨w6, hw6⟩ : ∃ x, x = v6.alloc (Obj.cells #[(Value.slice ro6 F.length rc6)] 46) := ⟨_, rfl⟩
  obtain ⟨b6, hbn6⟩ : ∃ x, x = v6.heap.size := ⟨_, rfl⟩
  rw [← hw6, ← hbn6]
  have hst6 : Below w5.heap.size w5 w6 := by rw [hw6]; exact hb6.alloc hb6.size _
  have hal6 : Below v6.heap.size v6 w6 := by rw [hw6]; exact (Below.refl _ _).alloc (Nat.le_refl _) _
  have HH6 : Hid (Hds w6 [(b6, (Value.slice ro6 F.length rc6)), (b5, (Value.slice ro5 R.length rc5)), (b4, (Value.slice ro4 R.length rc4)), (b3, (Value.slice ro3 N.length rc3)), (b2, (Value.slice ro2 N.length rc2)), (b1, (Value.slice ro1 ps.length rc1)), (b0, (Value.slice ao ps.length cap))]) := by rw [hw6, hbn6]; exact (Hds.step HH5.out hb6).push _ _
  have HM6 : Hid (Sbs w6 [(ro6, F, rc6), (ro5, R, rc5), (ro4, R, rc4), (ro3, N, rc3), (ro2, N, rc2), (ro1, ps, rc1), (ao, ps, cap)]) := (Sbs.step HM5.out hst6).push (hs6.below hal6)
  have HB6 : Hid (Below w.heap.size w w6) := HB5.out.trans (hst6.mono HB5.out.size)
  have HF4 : Hid (FreshS w6 w3.heap.size (Value.slice ro4 R.length rc4) R) := HF4.out.below hst6
  have HA4 : Hid (Below w3.heap.size w3 w6) := HA4.out.trans (hst6.mono HA4.out.size)
  have HF6 : Hid (FreshS w6 w5.heap.size (Value.slice ro6 F.length rc6) F) := hf6.below hal6
  have HL46 : Hid (b4 < b6) := by (rw [hbn6]; exact Nat.lt_of_lt_of_le (HH5.out _ (.tail _ (.head _))).x hb6.size)
  have HL35 : Hid (w3.heap.size ≤ w5.heap.size) := HL35
  have HX6 : Hid (∀ k, rowB ro6 F.length = some k → w5.heap.size ≤ k ∧ k < b6) := by rw [hbn6]; exact hf6.rowB
  clear hw6 hbn6 hst6 hal6 hs6 hb6 hf6 c61 HC6 HB5
  have c70 := (HH6.out _ (.tail _ (.tail _ (.tail _ (.tail _ (.tail _ (.tail _ (.head _)))))))).c
  dsimp only at c70
  go_upto_region 10 with (go_at_call 26; refine (HC7.out _ (HM6.out _ (.tail _ (.tail _ (.tail _ (.tail _ (.tail _ (.tail _ (.head _))))))))).mono ?_; rintro e v7 ⟨ro7, rc7, rfl, hs7, hb7⟩)
  obtain ⟨w7, hw7⟩ : ∃ x, x = v7.alloc (Obj.cells #[(Value.slice ro7 F.length rc7)] 46) := ⟨_, rfl⟩
  obtain ⟨b7, hbn7⟩ : ∃ x, x = v7.heap.size := ⟨_, rfl⟩
  rw [← hw7, ← hbn7]
  have hst7 : Below w6.heap.size w6 w7 := by rw [hw7]; exact hb7.alloc hb7.size _
  have hal7 : Below v7.heap.size v7 w7 := by rw [hw7]; exact (Below.refl _ _).alloc (Nat.le_refl _) _
  have HH7 : Hid (Hds w7 [(b7, (Value.slice ro7 F.length rc7)), (b6, (Value.slice ro6 F.length rc6)), (b5, (Value.slice ro5 R.length rc5)), (b4, (Value.slice ro4 R.length rc4)), (b3, (Value.slice ro3 N.length rc3)), (b2, (Value.slice ro2 N.length rc2)), (b1, (Value.slice ro1 ps.length rc1)), (b0, (Value.slice ao ps.length cap))]) := by rw [hw7, hbn7]; exact (Hds.step HH6.out hb7).push _ _
  have HM7 : Hid (Sbs w7 [(ro7, F, rc7), (ro6, F, rc6), (ro5, R, rc5), (ro4, R, rc4), (ro3, N, rc3), (ro2, N, rc2), (ro1, ps, rc1), (ao, ps, cap)]) := (Sbs.step HM6.out hst7).push (hs7.below hal7)
  have HB7 : Hid (Below w.heap.size w w7) := HB6.out.trans (hst7.mono HB6.out.size)
  have HF4 : Hid (FreshS w7 w3.heap.size (Value.slice ro4 R.length rc4) R) := HF4.out.below hst7
  have HA4 : Hid (Below w3.heap.size w3 w7) := HA4.out.trans (hst7.mono HA4.out.size)
  have HF6 : Hid (FreshS w7 w5.heap.size (Value.slice ro6 F.length rc6) F) := HF6.out.below hst7
  clear hw7 hbn7 hst7 hal7 hs7 hb7 c70 HC7 HH6 HB6
  have HKP : Hid (∀ W, Below w7.heap.size w7 W → W.cell? ⟨b2, 0, none⟩ = some (Value.slice ro2 N.length rc2) ∧ W.cell? ⟨b3, 0, none⟩ = some (Value.slice ro3 N.length rc3) ∧ W.cell? ⟨b4, 0, none⟩ = some (Value.slice ro4 R.length rc4) ∧ W.cell? ⟨b5, 0, none⟩ = some (Value.slice ro5 R.length rc5) ∧ W.cell? ⟨b6, 0, none⟩ = some (Value.slice ro6 F.length rc6) ∧ W.cell? ⟨b7, 0, none⟩ = some (Value.slice ro7 F.length rc7) ∧ W.cell? ⟨b1, 0, none⟩ = some (Value.slice ro1 ps.length rc1) ∧ W.cell? ⟨b0, 0, none⟩ = some (Value.slice ao ps.length cap)) := fun W hb => ⟨(below_cells hb _ 0 (HH7.out _ (.tail _ (.tail _ (.tail _ (.tail _ (.tail _ (.head _))))))).x).trans (HH7.out _ (.tail _ (.tail _ (.tail _ (.tail _ (.tail _ (.head _))))))).c, (below_cells hb _ 0 (HH7.out _ (.tail _ (.tail _ (.tail _ (.tail _ (.head _)))))).x).trans (HH7.out _ (.tail _ (.tail _ (.tail _ (.tail _ (.head _)))))).c, (below_cells hb _ 0 (HH7.out _ (.tail _ (.tail _ (.tail _ (.head _))))).x).trans (HH7.out _ (.tail _ (.tail _ (.tail _ (.head _))))).c, (below_cells hb _ 0 (HH7.out _ (.tail _ (.tail _ (.head _)))).x).trans (HH7.out _ (.tail _ (.tail _ (.head _)))).c, (below_cells hb _ 0 (HH7.out _ (.tail _ (.head _))).x).trans (HH7.out _ (.tail _ (.head _))).c, (below_cells hb _ 0 (HH7.out _ (.head _)).x).trans (HH7.out _ (.head _)).c, (below_cells hb _ 0 (HH7.out _ (.tail _ (.tail _ (.tail _ (.tail _ (.tail _ (.tail _ (.head _)))))))).x).trans (HH7.out _ (.tail _ (.tail _ (.tail _ (.tail _ (.tail _ (.tail _ (.head _)))))))).c, (below_cells hb _ 0 (HH7.out _ (.tail _ (.tail _ (.tail _ (.tail _ (.tail _ (.tail _ (.tail _ (.head _))))))))).x).trans (HH7.out _ (.tail _ (.tail _ (.tail _ (.tail _ (.tail _ (.tail _ (.tail _ (.head _))))))))).c⟩
  have HSM1 := Hid.mk2 (fun W (hb : Below w7.heap.size w7 W) => same_eq W ro2 ro3 N rc2 rc3 ((HM7.out _ (.tail _ (.tail _ (.tail _ (.tail _ (.tail _ (.head _))))))).below hb) ((HM7.out _ (.tail _ (.tail _ (.tail _ (.tail _ (.head _)))))).below hb) HNL.out)
  have HSM2 := Hid.mk2 (fun W (hb : Below w7.heap.size w7 W) => same_eq W ro4 ro5 R rc4 rc5 ((HM7.out _ (.tail _ (.tail _ (.tail _ (.head _))))).below hb) ((HM7.out _ (.tail _ (.tail _ (.head _)))).below hb) HRL.out)
  have HSM3 := Hid.mk2 (fun W (hb : Below w7.heap.size w7 W) => same_eq W ro6 ro7 F rc6 rc7 ((HM7.out _ (.tail _ (.head _))).below hb) ((HM7.out _ (.head _)).below hb) HFL.out)
  have HCK := Hid.mk2 (fun W (hb : Below w7.heap.size w7 W) => scheck_any W ro1 ps rc1 ((HM7.out _ (.tail _ (.tail _ (.tail _ (.tail _ (.tail _ (.tail _ (.head _)))))))).below hb))
  have HCR := Hid.mk2 (fun W (hb : Below w7.heap.size w7 W) => rcheck_any W ao ps cap ((HM7.out _ (.tail _ (.tail _ (.tail _ (.tail _ (.tail _ (.tail _ (.tail _ (.head _))))))))).below hb))
  have HRO := Hid.mk2 (fun W (hb : Below w7.heap.size w7 W) => rowned_any W ao ps cap ((HM7.out _ (.tail _ (.tail _ (.tail _ (.tail _ (.tail _ (.tail _ (.tail _ (.head _))))))))).below hb) (by omega) t)
  have HRT := Hid.mk2 (fun W (hb : Below w7.heap.size w7 W) => rlast_any W ao ps cap ((HM7.out _ (.tail _ (.tail _ (.tail _ (.tail _ (.tail _ (.tail _ (.tail _ (.head _))))))))).below hb) (by omega) t)
  have HIT := Hid.mk2 (fun W => risTenant_any t W)
  obtain ⟨E1, E4, nO, mO, bT, e1, e2, hOW, hLA, hcase⟩ := tcase w7 ro1 ps rc1 (HM7.out _ (.tail _ (.tail _ (.tail _ (.tail _ (.tail _ (.tail _ (.head _)))))))) t
  rw [e1] at HCK HCR
  rw [e2] at HIT
  have HOW := Hid.mk2 hOW
  have HLA := Hid.mk2 hLA
  have HCA := Hid.mk2 hcase
  clear e1 e2 hOW hLA hcase HNL
  have hRl := HRL.out
  have hFl := HFL.out
  go_cut [134] from 37 (fun s134 wx => s134 = .bool false ∧ Hid (Below w7.heap.size w7 wx))
  case first =>
    as_aux_lemma =>
      go_region_held3 (fun W => W.cell? ⟨b2, 0, none⟩ = some (Value.slice ro2 N.length rc2) ∧ W.cell? ⟨b3, 0, none⟩ = some (Value.slice ro3 N.length rc3) ∧ W.cell? ⟨b4, 0, none⟩ = some (Value.slice ro4 R.length rc4) ∧ W.cell? ⟨b5, 0, none⟩ = some (Value.slice ro5 R.length rc5) ∧ W.cell? ⟨b6, 0, none⟩ = some (Value.slice ro6 F.length rc6) ∧ W.cell? ⟨b7, 0, none⟩ = some (Value.slice ro7 F.length rc7) ∧ W.cell? ⟨b1, 0, none⟩ = some (Value.slice ro1 ps.length rc1) ∧ W.cell? ⟨b0, 0, none⟩ = some (Value.slice ao ps.length cap))
        (first
          | exact HKP.out _ HQE.out
          | exact HKP.out _ HQD.out
          | exact HKP.out _ HQC.out
          | exact HKP.out _ HQB.out
          | exact HKP.out _ HQA.out
          | exact HKP.out _ (Below.refl _ _)
          | exact HKP.out _ (below_drewT (Below.refl _ _)))
        (first
          | (go_at_call_of 21 (Value.agg #[Value.slice ro2 N.length rc2]); refine (HSM1.out _ (by first | exact Below.refl _ _ | exact below_drewT (Below.refl _ _))).mono ?_; rintro e wa ⟨rfl, hba⟩; have HQA : Hid (Below w7.heap.size w7 wa) := (by first | exact hba | exact (below_drewT (Below.refl _ _)).trans hba))
          | (go_at_call_of 21 (Value.agg #[Value.slice ro4 R.length rc4]); refine (HSM2.out _ HQA.out).mono ?_; rintro e wb ⟨rfl, hbb⟩; have HQB : Hid (Below w7.heap.size w7 wb) := HQA.out.trans (hbb.mono HQA.out.size))
          | (go_at_call_of 21 (Value.agg #[Value.slice ro6 F.length rc6]); refine (HSM3.out _ HQB.out).mono ?_; rintro e wc ⟨rfl, hbc⟩; have HQC : Hid (Below w7.heap.size w7 wc) := HQB.out.trans (hbc.mono HQB.out.size))
          | (go_at_call 22; refine (HCK.out _ (by first | exact HQE.out | exact HQC.out)).mono ?_; rintro e wd ⟨rfl, hbd⟩; have HQD : Hid (Below w7.heap.size w7 wd) := (by first | exact HQE.out.trans (hbd.mono HQE.out.size) | exact HQC.out.trans (hbd.mono HQC.out.size)))
          | (go_at_call 27; refine (HCR.out _ (by first | exact HQD.out | exact HQC.out)).mono ?_; rintro e we ⟨rfl, hbe⟩; have HQE : Hid (Below w7.heap.size w7 we) := (by first | exact HQD.out.trans (hbe.mono HQD.out.size) | exact HQC.out.trans (hbe.mono HQC.out.size))))
      all_goals
        go_wp2
        go_meet
        case rel =>
          first
            | exact ⟨rfl, HQE⟩
            | exact ⟨rfl, HQD⟩
  case rest =>
  obtain ⟨rfl, HX0⟩ := hcut
  obtain ⟨w8, hw8⟩ : ∃ x, x = wc := ⟨_, rfl⟩
  rw [← hw8] at HX0 ⊢
  clear hw8 HSM1 HSM2 HSM3 HCK
  have HK2 : Hid (∀ W, Below w7.heap.size w7 W → W.cell? ⟨b0, 0, none⟩ = some (Value.slice ao ps.length cap) ∧ W.cell? ⟨b1, 0, none⟩ = some (Value.slice ro1 ps.length rc1)) := fun W hb => ⟨(HKP.out W hb).2.2.2.2.2.2.2, (HKP.out W hb).2.2.2.2.2.2.1⟩
  obtain ⟨k0, k1⟩ := HK2.out _ HX0.out
  have HXX := HX0
  clear HX0
  rcases HCA.out with ⟨rfl, rfl, rfl, rfl⟩ | ⟨rfl, rfl, rfl, rfl, rfl⟩ | ⟨rfl, rfl, rfl, rfl, rfl⟩
  all_goals
    as_aux_lemma =>
      go_upto_region 19 with (first
        | (go_at_call 19; refine (HOW.out _ HXX.out).mono ?_; rintro e w9 ⟨rfl, hb9⟩; have HXN := Hid.mk2 (HXX.out.trans (hb9.mono HXX.out.size)); clear HXX k0 k1; have HXX := HXN; obtain ⟨k0, k1⟩ := HK2.out _ HXN.out; clear HXN hb9)
        | (go_at_call 20; refine (HLA.out _ HXX.out).mono ?_; rintro e w10 ⟨rfl, hb9⟩; have HXN := Hid.mk2 (HXX.out.trans (hb9.mono HXX.out.size)); clear HXX k0 k1; have HXX := HXN; obtain ⟨k0, k1⟩ := HK2.out _ HXN.out; clear HXN hb9)
        | (go_at_call 27; refine (HCR.out _ HXX.out).mono ?_; rintro e w11 ⟨rfl, hb9⟩; have HXN := Hid.mk2 (HXX.out.trans (hb9.mono HXX.out.size)); clear HXX k0 k1; have HXX := HXN; obtain ⟨k0, k1⟩ := HK2.out _ HXN.out; clear HXN hb9)
        | (go_at_call 28; refine (HIT.out _).mono ?_; rintro e w12 ⟨rfl, hwq⟩; obtain rfl := hwq)
        | (go_at_call 29; refine (HRO.out _ HXX.out).mono ?_; rintro e w13 ⟨rfl, hb9⟩; have HXN := Hid.mk2 (HXX.out.trans (hb9.mono HXX.out.size)); clear HXX k0 k1; have HXX := HXN; obtain ⟨k0, k1⟩ := HK2.out _ HXN.out; clear HXN hb9)
        | (go_at_call 30; refine (HRT.out _ HXX.out).mono ?_; rintro e w14 ⟨rfl, hb9⟩; have HXN := Hid.mk2 (HXX.out.trans (hb9.mono HXX.out.size)); clear HXX k0 k1; have HXX := HXN; obtain ⟨k0, k1⟩ := HK2.out _ HXN.out; clear HXN hb9))
      have HKA := Hid.mk2 (HKP.out _ HXX.out).2.2.1
      have HKU := Hid.mk2 (HKP.out _ HXX.out).2.2.2.2.1
      have HF4z := Hid.mk2 (HF4.out.below HXX.out)
      have HF6z := Hid.mk2 (HF6.out.below HXX.out)
      have HA4z := Hid.mk2 (HA4.out.trans (HXX.out.mono HA4.out.size))
      clear HOW HLA HCR HRO HRT HIT HK2 k0 k1 HKP HM7
      go_wp2
      go_loopw [35] (fun s35 wx => ∃ j : Nat, j ≤ R.length ∧ s35 = .int .i64 j ∧ Hid (Below w3.heap.size w3 wx) ∧ Hid (wx.cell? ⟨b4, 0, none⟩ = some (Value.slice ro4 R.length rc4)) ∧ Hid (wx.cell? ⟨b6, 0, none⟩ = some (Value.slice ro6 F.length rc6)) ∧ Hid (FreshS wx w5.heap.size (Value.slice ro6 F.length rc6) F) ∧ Hid (Opn wx ro4 R.length)) (fun s35 _ => R.length - (intOf s35).toNat)
      case atStart => exact ⟨0, Nat.zero_le _, rfl, HA4z, HKA, HKU, HF6z, HF4z.out.opn⟩
      case round =>
        obtain ⟨j, hj, rfl, HBL, HKA1, HKU1, HF61, HOP⟩ := hrel
        have ca := HKA1.out
        by_cases hjl : j < R.length
        · have hjl2 : (j : Int) < (R.length : Int) := by omega
          rcases HOP.out with h | ⟨g, hro, hg, hcl⟩
          · omega
          subst hro
          obtain ⟨⟨u, hu⟩, hfz⟩ := hcl (j * 3 + 2) (by omega)
          have hrb : rowB (some ⟨g, 0, none⟩) R.length = some g := by unfold rowB; rw [if_neg (by omega)]; rfl
          have HG := Hid.mk2 (HX4.out g hrb)
          have hrc : R.length ≤ rc4 := by have := (HM4.out _ (.head _)).hl; exact this
          have hgb : ¬ b4 = g := by have := HG.out.2; omega
          clear hcl hrb
          go_wp2
          go_roundw
          case rel =>
            have hgr := grown_set wr g (j * 3 + 2) (.int .u16 77)
            refine ⟨j + 1, by omega, by go_num, HBL.out.grown hgr HBL.out.size (fun k hk => by cases hk; exact HG.out.1), hgr.cell (a := ⟨b4, 0, none⟩) HKA1.out (fun e => hgb (Option.some.inj e)), hgr.cell (a := ⟨b6, 0, none⟩) HKU1.out (fun e => by have e := Option.some.inj e; have h1 := HL46.out; have h2 := HG.out.2; simp at e; omega), HF61.out.grown hgr (fun k hk => by cases hk; have h1 := HG.out.2; have h2 := (HH5.out _ (.tail _ (.head _))).x; dsimp only at h2; omega), HOP.out.set _ _⟩
          case measure => simp [intOf]; omega
        · have hjl2 : decide ((j : Int) < (R.length : Int)) = false := by simp; omega
          obtain ⟨wy, hwy⟩ : ∃ y, y = wr := ⟨_, rfl⟩
          rw [← hwy] at HBL HKU1 HF61 ca ⊢
          clear hwy hj HKA1 HOP HKA HKU HF4z HF6z HA4z
          go_wp2
          go_loopw [36] (fun s36 wx => ∃ j : Nat, j ≤ F.length ∧ s36 = .int .i64 j ∧ Hid (Below w3.heap.size w3 wx) ∧ Hid (wx.cell? ⟨b6, 0, none⟩ = some (Value.slice ro6 F.length rc6)) ∧ Hid (Opn wx ro6 F.length)) (fun s36 _ => F.length - (intOf s36).toNat)
          case atStart => exact ⟨0, Nat.zero_le _, rfl, HBL, HKU1, HF61.out.opn⟩
          case round =>
            obtain ⟨i, hi, rfl, HBL2, HKU2, HOP2⟩ := hrel
            have cu := HKU2.out
            clear ca
            by_cases hil : i < F.length
            · have hil2 : (i : Int) < (F.length : Int) := by omega
              rcases HOP2.out with h | ⟨g, hro, hg, hcl⟩
              · omega
              subst hro
              obtain ⟨⟨u, hu⟩, hfz⟩ := hcl (i * 3 + 2) (by omega)
              have hrb : rowB (some ⟨g, 0, none⟩) F.length = some g := by unfold rowB; rw [if_neg (by omega)]; rfl
              have HG := Hid.mk2 (HX6.out g hrb)
              have hrc : F.length ≤ rc6 := by have := (HM6.out _ (.head _)).hl; exact this
              have hgb : ¬ b6 = g := by have := HG.out.2; omega
              clear hcl hrb
              go_wp2
              go_roundw
              case rel =>
                have hgr := grown_set wr g (i * 3 + 2) (.int .u16 77)
                refine ⟨i + 1, by omega, by go_num, HBL2.out.grown hgr HBL2.out.size (fun k hk => by cases hk; exact Nat.le_trans HL35.out HG.out.1), hgr.cell (a := ⟨b6, 0, none⟩) HKU2.out (fun e => hgb (Option.some.inj e)), HOP2.out.set _ _⟩
              case measure => simp [intOf]; omega
            · have hil2 : decide ((i : Int) < (F.length : Int)) = false := by simp; omega
              have d1 := (below_cells HBL2.out _ 0 (HH3.out _ (.tail _ (.tail _ (.head _)))).x).trans (HH3.out _ (.tail _ (.tail _ (.head _)))).c
              have d0 := (below_cells HBL2.out _ 0 (HH3.out _ (.tail _ (.tail _ (.tail _ (.head _))))).x).trans (HH3.out _ (.tail _ (.tail _ (.tail _ (.head _))))).c
              dsimp only at d0 d1
              have HSF := Hid.mk2 (same_eq wr ro1 ao ps rc1 cap ((HM3.out _ (.tail _ (.tail _ (.head _)))).below HBL2.out) ((HM3.out _ (.tail _ (.tail _ (.tail _ (.head _))))).below HBL2.out) (by omega))
              go_wp2_with (go_at_call 21; refine HSF.out.mono ?_; rintro e wf ⟨rfl, hbf⟩)
              go_ret
              exact ⟨rfl, HB3.out.trans ((HBL2.out.trans (hbf.mono HBL2.out.size)).mono HB3.out.size)⟩
end Go.Proofs.Ytcmfgofknjlmgaa
