/-
  The walk of SlabBack.
-/
import Derived.Test.YtfdnkcahblpanaeSbBack
namespace Go.Proofs.Ytfdnkcahblpanae
open Go.RowKit
set_option linter.unusedSimpArgs false
set_option linter.unusedVariables false
set_option maxRecDepth 100000

theorem below_drew1 {B : Nat} {a w : World} (h : Below B a w) : Below B a w.drew := ⟨h.os, h.tape, h.output, h.size, h.block⟩
set_option maxHeartbeats 4000000 in
theorem back_nn (w : World) (b off : Nat) (ps : List Pg) (cap : Nat) (h : Sb w (some ⟨b, off, none⟩) ps cap) (ho : sOk ps = true) (hbl : b < w.heap.size) (hcs : ∀ i (hi : i < ps.length), PgLies w b (off + i * 3) ps[i]) (t c q : Int) (gi gk : Int) (E : Int) (hE : takeE ps t c q = E) (hE0 : ¬ E = 0) (F : Int) (hF : freeE ps gi gk = F) (hF0 : ¬ F = 0) :
    Calls Try.prog 6 #[.agg #[.slice (some ⟨b, off, none⟩) ps.length cap], .int .i64 t, .int .i64 c, .int .i64 q, .int .i64 gi, .int .i64 gk] w fun e w' => e = .returned (.bool true) ∧ Below w.heap.size w w' := by
  have hlen := sOk_len ho
  have HS := Hid.mk2 h
  have HC := Hid.mk2 hcs
  have HCK := Hid.mk2 (fun W (hb : Below w.heap.size w W) => scheck_any W _ ps cap (h.below hb))
  rw [show sE ps = 0 by unfold sE; rw [ho]; rfl] at HCK
  have HO := Hid.mk2 ho
  have h100 : decide ((100 : Int) < ps.length) = false := by simp; omega
  have h100n : decide (100 < ps.length) = false := by simp; omega
  have hR : takeR ps t c q = ([], 0, 0) := by unfold takeR; rw [if_neg (by rw [hE]; exact hE0)]
  have HTK := Hid.mk2 (fun W (hb : Below w.heap.size w W) => take_sb W _ ps cap (h.below hb) t c q E [] 0 0 hE hR)
  rw [List.length_nil] at HTK
  have e0 : (E == 0) = false := by simp [hE0]
  clear hE hR hE0
  have hR2 : freeR ps gi gk = [] := by unfold freeR; rw [if_neg (by rw [hF]; exact hF0)]
  have HF2 := Hid.mk2 (fun W (hb : Below w.heap.size w W) => free_sb W _ ps cap (h.below hb) gi gk F [] hF hR2)
  rw [List.length_nil] at HF2
  have f0 : (F != 0) = true := by simp [hF0]
  clear hF hR2 hF0
  clear h hcs ho
  go_enter Try.func6, Try.ntmps6
  go_upto_region 1 with (fail)
  obtain ⟨w0, hw0⟩ : ∃ w0, w0 = w.alloc (Obj.cells #[Value.slice (some ⟨b, off, none⟩) ps.length cap] 24) := ⟨_, rfl⟩
  rw [← hw0]
  have T0 : OW w w0 (.slice (some ⟨b, off, none⟩) ps.length cap) := by rw [hw0]; exact OW.begin _ _ _
  have HT0 := Hid.mk2 T0
  clear hw0 T0
  go_upto_region 6 with (first
    | (go_at_call 30; refine (alive_any _).mono ?_; rintro e w1 ⟨rfl, hb1⟩; have HT1 := Hid.mk2 (HT0.out.step hb1); have a1 := HT1.out.c0; have x1 := HT1.out.x0; clear hb1 HT0)
    | (go_at_call 16; refine (HCK.out _ HT1.out.below).mono ?_; rintro e w2 ⟨rfl, hb2⟩; have HT2 := Hid.mk2 (HT1.out.step hb2); have a2 := HT2.out.c0; have x2 := HT2.out.x0; clear hb2 a1 x1))
  go_upto_region 7 with (go_at_call 11; refine (HTK.out _ HT2.out.below).mono ?_; rintro e w3 ⟨ro, rc, rfl, hs3, -, hb3⟩; have HT3 := Hid.mk2 (HT2.out.step hb3); have a3 := HT3.out.c0; have x3 := HT3.out.x0; have HS3 := Hid.mk2 hs3; clear hb3 hs3 a2 x2)
  obtain ⟨w7, hw7⟩ : ∃ w7, w7 = w3.alloc (Obj.cells #[Value.slice ro 0 rc] 24) := ⟨_, rfl⟩
  obtain ⟨ab, hab⟩ : ∃ ab, ab = w3.heap.size := ⟨_, rfl⟩
  rw [← hw7, ← hab]
  have hb7 : Below w3.heap.size w3 w7 := by rw [hw7]; exact (Below.refl _ _).alloc (Nat.le_refl _) _
  have a7 : w7.cell? ⟨ab, 0, none⟩ = some (.slice ro 0 rc) := by rw [hw7, hab]; simp
  have x7 : ab < w7.heap.size := by rw [hw7, hab]; simp
  have HT7 := Hid.mk2 (HT3.out.step hb7)
  have HS7 := Hid.mk2 (HS3.out.below hb7)
  have c7 := HT7.out.c0
  have y7 := HT7.out.x0
  clear hw7 hab hb7
  clear HT1 HT2 HT3 HS3 HCK HTK a3 x3 HS7 a7 x7
  go_upto_region 11 with (fail)
  go_upto_region 12 with (go_at_call 13; refine (HF2.out _ HT7.out.below).mono ?_; rintro e w8 ⟨ro8, rc8, rfl, hs8, -, hb8⟩; have HT8 := Hid.mk2 (HT7.out.step hb8); have HS8 := Hid.mk2 hs8; clear hb8 hs8)
  obtain ⟨w9, hw9⟩ : ∃ w9, w9 = w8.alloc (Obj.cells #[Value.slice ro8 0 rc8] 24) := ⟨_, rfl⟩
  obtain ⟨bb, hbb⟩ : ∃ bb, bb = w8.heap.size := ⟨_, rfl⟩
  rw [← hw9, ← hbb]
  have hb9 : Below w8.heap.size w8 w9 := by rw [hw9]; exact (Below.refl _ _).alloc (Nat.le_refl _) _
  have a9 : w9.cell? ⟨bb, 0, none⟩ = some (.slice ro8 0 rc8) := by rw [hw9, hbb]; simp
  have x9 : bb < w9.heap.size := by rw [hw9, hbb]; simp
  have HT9 := Hid.mk2 (HT8.out.step hb9)
  have HS9 := Hid.mk2 (HS8.out.below hb9)
  have c9 := HT9.out.c0
  have y9 := HT9.out.x0
  clear hw9 hbb hb9
  go_wp2
  go_ret
  exact ⟨rfl, HT9.out.below⟩
set_option maxHeartbeats 4000000 in
theorem back_yn (w : World) (b off : Nat) (ps : List Pg) (cap : Nat) (h : Sb w (some ⟨b, off, none⟩) ps cap) (ho : sOk ps = true) (hbl : b < w.heap.size) (hcs : ∀ i (hi : i < ps.length), PgLies w b (off + i * 3) ps[i]) (t c q : Int) (gi gk : Int) (ht : isT t = true) (hc : isC c = true) (hq : isQ q = true) (I0 K0 : Nat) (hp : place ps t c q = some (I0, K0)) (F : Int) (hF : freeE ps gi gk = F) (hF0 : ¬ F = 0) :
    Calls Try.prog 6 #[.agg #[.slice (some ⟨b, off, none⟩) ps.length cap], .int .i64 t, .int .i64 c, .int .i64 q, .int .i64 gi, .int .i64 gk] w fun e w' => e = .returned (.bool true) ∧ Below w.heap.size w w' := by
  have hlen := sOk_len ho
  have HS := Hid.mk2 h
  have HC := Hid.mk2 hcs
  have HCK := Hid.mk2 (fun W (hb : Below w.heap.size w W) => scheck_any W _ ps cap (h.below hb))
  rw [show sE ps = 0 by unfold sE; rw [ho]; rfl] at HCK
  have HO := Hid.mk2 ho
  have h100 : decide ((100 : Int) < ps.length) = false := by simp; omega
  have h100n : decide (100 < ps.length) = false := by simp; omega
  have hE : takeE ps t c q = 0 := by unfold takeE; rw [if_neg (by rw [ho]; decide), if_neg (by rw [ht]; decide), if_neg (by rw [hc]; decide), if_neg (by rw [hq]; decide), if_neg (by rw [hp]; simp)]
  have hR : takeR ps t c q = (ps.set I0 (taken ps t c I0 K0), I0, K0) := by unfold takeR; rw [if_pos hE, hp]
  have HTK := Hid.mk2 (fun W (hb : Below w.heap.size w W) => take_sb W _ ps cap (h.below hb) t c q 0 (ps.set I0 (taken ps t c I0 K0)) I0 K0 hE hR)
  have HBK := Hid.mk2 (back_eq ho ht hc hp)
  obtain ⟨R, hRR⟩ : ∃ R, R = ps.set I0 (taken ps t c I0 K0) := ⟨_, rfl⟩
  have hRl : R.length = ps.length := by rw [hRR]; simp
  rw [← hRR] at HTK HBK
  have HFR := Hid.mk2 (fun W ro rc (hb : Sb W ro R rc) => free_sb W ro R rc hb I0 K0 0 ps HBK.out.1 HBK.out.2)
  rw [hRl] at HTK HFR
  clear hE hR hRR hRl hp ht hc hq
  have hR2 : freeR ps gi gk = [] := by unfold freeR; rw [if_neg (by rw [hF]; exact hF0)]
  have HF2 := Hid.mk2 (fun W (hb : Below w.heap.size w W) => free_sb W _ ps cap (h.below hb) gi gk F [] hF hR2)
  rw [List.length_nil] at HF2
  have f0 : (F != 0) = true := by simp [hF0]
  clear hF hR2 hF0
  clear h hcs ho
  go_enter Try.func6, Try.ntmps6
  go_upto_region 1 with (fail)
  obtain ⟨w0, hw0⟩ : ∃ w0, w0 = w.alloc (Obj.cells #[Value.slice (some ⟨b, off, none⟩) ps.length cap] 24) := ⟨_, rfl⟩
  rw [← hw0]
  have T0 : OW w w0 (.slice (some ⟨b, off, none⟩) ps.length cap) := by rw [hw0]; exact OW.begin _ _ _
  have HT0 := Hid.mk2 T0
  clear hw0 T0
  go_upto_region 6 with (first
    | (go_at_call 30; refine (alive_any _).mono ?_; rintro e w1 ⟨rfl, hb1⟩; have HT1 := Hid.mk2 (HT0.out.step hb1); have a1 := HT1.out.c0; have x1 := HT1.out.x0; clear hb1 HT0)
    | (go_at_call 16; refine (HCK.out _ HT1.out.below).mono ?_; rintro e w2 ⟨rfl, hb2⟩; have HT2 := Hid.mk2 (HT1.out.step hb2); have a2 := HT2.out.c0; have x2 := HT2.out.x0; clear hb2 a1 x1))
  go_upto_region 7 with (go_at_call 11; refine (HTK.out _ HT2.out.below).mono ?_; rintro e w3 ⟨ro, rc, rfl, hs3, -, hb3⟩; have HT3 := Hid.mk2 (HT2.out.step hb3); have a3 := HT3.out.c0; have x3 := HT3.out.x0; have HS3 := Hid.mk2 hs3; clear hb3 hs3 a2 x2)
  obtain ⟨w4, hw4⟩ : ∃ w4, w4 = w3.alloc (Obj.cells #[Value.slice ro ps.length rc] 24) := ⟨_, rfl⟩
  obtain ⟨ab, hab⟩ : ∃ ab, ab = w3.heap.size := ⟨_, rfl⟩
  rw [← hw4, ← hab]
  have hb4 : Below w3.heap.size w3 w4 := by rw [hw4]; exact (Below.refl _ _).alloc (Nat.le_refl _) _
  have a4 : w4.cell? ⟨ab, 0, none⟩ = some (.slice ro ps.length rc) := by rw [hw4, hab]; simp
  have x4 : ab < w4.heap.size := by rw [hw4, hab]; simp
  have HT4 := Hid.mk2 (HT3.out.step hb4)
  have HS4 := Hid.mk2 (HS3.out.below hb4)
  have c4 := HT4.out.c0
  have y4 := HT4.out.x0
  clear hw4 hab hb4
  clear HT1 HT2 HT3 HS3 HCK HTK a3 x3
  go_upto_region 9 with (go_at_call 13; refine (HFR.out _ _ _ HS4.out).mono ?_; rintro e w5 ⟨ro5, rc5, rfl, hs5, -, hb5⟩; have HT5 := Hid.mk2 (HT4.out.step hb5); have HS5 := Hid.mk2 hs5; clear hb5 hs5)
  obtain ⟨w6, hw6⟩ : ∃ w6, w6 = w5.alloc (Obj.cells #[Value.slice ro5 ps.length rc5] 24) := ⟨_, rfl⟩
  obtain ⟨ab6, hab6⟩ : ∃ ab6, ab6 = w5.heap.size := ⟨_, rfl⟩
  rw [← hw6, ← hab6]
  have hb6 : Below w5.heap.size w5 w6 := by rw [hw6]; exact (Below.refl _ _).alloc (Nat.le_refl _) _
  have a6 : w6.cell? ⟨ab6, 0, none⟩ = some (.slice ro5 ps.length rc5) := by rw [hw6, hab6]; simp
  have x6 : ab6 < w6.heap.size := by rw [hw6, hab6]; simp
  have HT6 := Hid.mk2 (HT5.out.step hb6)
  have HS6 := Hid.mk2 (HS5.out.below hb6)
  have c6 := HT6.out.c0
  have y6 := HT6.out.x0
  clear hw6 hab6 hb6
  clear HT4 HT5 HS5 HFR HS4 HBK a4 x4 c4 y4
  have HSM := Hid.mk2 (same_eq w6 _ _ ps rc5 cap HS6.out (HS.out.below HT6.out.below) (by omega))
  go_upto_region 11 with (go_at_call 15; refine HSM.out.mono ?_; rintro e w7 ⟨rfl, hb7⟩; have HT7 := Hid.mk2 (HT6.out.step hb7); have c7 := HT7.out.c0; have y7 := HT7.out.x0; clear hb7)
  clear HSM HT6 HS6 a6 x6 c6 y6
  go_upto_region 12 with (go_at_call 13; refine (HF2.out _ HT7.out.below).mono ?_; rintro e w8 ⟨ro8, rc8, rfl, hs8, -, hb8⟩; have HT8 := Hid.mk2 (HT7.out.step hb8); have HS8 := Hid.mk2 hs8; clear hb8 hs8)
  obtain ⟨w9, hw9⟩ : ∃ w9, w9 = w8.alloc (Obj.cells #[Value.slice ro8 0 rc8] 24) := ⟨_, rfl⟩
  obtain ⟨bb, hbb⟩ : ∃ bb, bb = w8.heap.size := ⟨_, rfl⟩
  rw [← hw9, ← hbb]
  have hb9 : Below w8.heap.size w8 w9 := by rw [hw9]; exact (Below.refl _ _).alloc (Nat.le_refl _) _
  have a9 : w9.cell? ⟨bb, 0, none⟩ = some (.slice ro8 0 rc8) := by rw [hw9, hbb]; simp
  have x9 : bb < w9.heap.size := by rw [hw9, hbb]; simp
  have HT9 := Hid.mk2 (HT8.out.step hb9)
  have HS9 := Hid.mk2 (HS8.out.below hb9)
  have c9 := HT9.out.c0
  have y9 := HT9.out.x0
  clear hw9 hbb hb9
  go_wp2
  go_ret
  exact ⟨rfl, HT9.out.below⟩
end Go.Proofs.Ytfdnkcahblpanae
