/-
  Contract of the reader's change, kind by kind.
-/
import Derived.Test.YtlhlleokehkolaaRChange
import Derived.Test.YtlhlleokehkolaaChgOwn
namespace Go.Proofs.Ytlhlleokehkolaa
open Go.RowKit
set_option linter.unusedSimpArgs false
set_option linter.unusedVariables false
set_option maxRecDepth 100000


def sChange2 (s : St) : Chg × St := (⟨(sSingle s).1, (((sSmall 9223372036854775807 (sSingle s).2).1 : Nat) : Int), zItm, ⟨(sText (sSmall 9223372036854775807 (sSingle s).2).2).1.toArray⟩, (sSingle (sText (sSmall 9223372036854775807 (sSingle s).2).2).2).1, 0, false⟩, (sSingle (sText (sSmall 9223372036854775807 (sSingle s).2).2).2).2)

set_option maxHeartbeats 2000000 in
theorem rchange2 (w : World) (B rb : Nat) (s : St) (h : Rd w B rb s) (hk : (sSingle s).1.toNat = 2) :
    Calls Try.prog 43 #[.pointer (some ⟨rb, 0, none⟩)] w fun e w' => e = .returned (sChange2 s).1.val ∧ Rd w' B rb (sChange2 s).2 ∧ w.grownBy w' (some rb) := by
  unfold sChange2 Chg.val Chg.cells zItm
  simp only []
  have hA : Rd (w.alloc (.cells #[.int .u8 0, .int .i64 0, .string ⟨#[]⟩, .string ⟨#[]⟩, .int .u32 0, .int .i64 0, .int .u64 0, .string ⟨#[]⟩, .int .u8 0, .int .i64 0, .bool false] 41)) B rb s := h.grown (World.grownBy_alloc w _ none) (by simp) (by simp)
  have hgA : w.grownBy (w.alloc (.cells #[.int .u8 0, .int .i64 0, .string ⟨#[]⟩, .string ⟨#[]⟩, .int .u32 0, .int .i64 0, .int .u64 0, .string ⟨#[]⟩, .int .u8 0, .int .i64 0, .bool false] 41)) (some rb) := World.grownBy_alloc w _ _
  have bR : WB (w.alloc (.cells #[.int .u8 0, .int .i64 0, .string ⟨#[]⟩, .string ⟨#[]⟩, .int .u32 0, .int .i64 0, .int .u64 0, .string ⟨#[]⟩, .int .u8 0, .int .i64 0, .bool false] 41)) w.heap.size zeroChg := WB.made w zeroChg 41
  have hlt := h.lt
  have hle := h.le
  have n0 : rb ≠ w.heap.size := by omega
  have hB0 : B ≤ w.heap.size := by omega
  have HN0 : Hid (rb ≠ w.heap.size) := n0
  have HN3 : Hid (some w.heap.size ≠ some rb) := by
    show some w.heap.size ≠ some rb
    simp; omega
  clear n0
  have c1 := single_any _ B rb s hA
  obtain ⟨p1, hp1⟩ : ∃ p, p = sSingle s := ⟨_, rfl⟩
  rw [← hp1] at c1 hk ⊢
  clear hp1 h hA
  have c2 := fun W hW => number_any W B rb p1.2 hW
  obtain ⟨p2, hp2⟩ : ∃ p, p = sSmall 9223372036854775807 p1.2 := ⟨_, rfl⟩
  rw [← hp2] at c2 ⊢
  clear hp2
  have c3 := fun W hW => rtext_any W B rb p2.2 hW
  obtain ⟨p3, hp3⟩ : ∃ p, p = sText p2.2 := ⟨_, rfl⟩
  rw [← hp3] at c3 ⊢
  clear hp3
  have c4 := fun W hW => single_any W B rb p3.2 hW
  obtain ⟨p4, hp4⟩ : ∃ p, p = sSingle p3.2 := ⟨_, rfl⟩
  rw [← hp4] at c4 ⊢
  clear hp4
  obtain ⟨kn, hkn⟩ : ∃ kn : Nat, kn = p1.1.toNat := ⟨_, rfl⟩
  rw [← hkn] at hk
  unfold bcell at c1
  unfold bcell
  unfold bcell at c4
  rw [← hkn] at c1 ⊢
  clear hkn
  have t1 : ((kn : Int) == 1) = false := by rw [hk]; decide
  have t2 : ((kn : Int) == 2) = true := by rw [hk]; decide
  have t3 : ((kn : Int) == 3) = false := by rw [hk]; decide
  have t4 : ((kn : Int) == 4) = false := by rw [hk]; decide
  have t5 : ((kn : Int) == 5) = false := by rw [hk]; decide
  have t6 : ((kn : Int) == 6) = false := by rw [hk]; decide
  have t7 : ((kn : Int) == 7) = false := by rw [hk]; decide
  have hten : hasTen kn = true := by rw [hk]; decide
  clear hk
  go_enter Try.func43, Try.ntmps43
  go_wp2_with (first
    | (go_at_call 65; refine (c4 _ (V3.other HX1.out hBX 7 _)).mono ?_; rintro e w4 ⟨rfl, h4, g4⟩; have V4 := h4; have x4 := (x3.set 7 (.string ⟨p3.1.toArray⟩) (by simp)).grown g4 HX2.out; have r4 := (r3.other HX3.out 7 (.string ⟨p3.1.toArray⟩)).grown g4 HN3.out; have k4 := (grown_new k3 hWX 7 (.string ⟨p3.1.toArray⟩)).trans g4; have y0 : w4.cell? ⟨w1.heap.size, 0, none⟩ = some (.int .u8 (kn : Int)) := x4.cells 0 (by simp); have y1 : w4.cell? ⟨w1.heap.size, 1, none⟩ = some (.int .i64 p2.1) := x4.cells 1 (by simp); have y2 : w4.cell? ⟨w1.heap.size, 2, none⟩ = some (.string ⟨#[]⟩) := x4.cells 2 (by simp); have y3 : w4.cell? ⟨w1.heap.size, 3, none⟩ = some (.string ⟨#[]⟩) := x4.cells 3 (by simp); have y4 : w4.cell? ⟨w1.heap.size, 4, none⟩ = some (.int .u32 0) := x4.cells 4 (by simp); have y5 : w4.cell? ⟨w1.heap.size, 5, none⟩ = some (.int .i64 0) := x4.cells 5 (by simp); have y6 : w4.cell? ⟨w1.heap.size, 6, none⟩ = some (.int .u64 0) := x4.cells 6 (by simp); have y7 : w4.cell? ⟨w1.heap.size, 7, none⟩ = some (.string ⟨p3.1.toArray⟩) := x4.cells 7 (by simp); have y8 : w4.cell? ⟨w1.heap.size, 8, none⟩ = some (.int .u8 0) := x4.cells 8 (by simp); have y9 : w4.cell? ⟨w1.heap.size, 9, none⟩ = some (.int .i64 0) := x4.cells 9 (by simp); have y10 : w4.cell? ⟨w1.heap.size, 10, none⟩ = some (.bool false) := x4.cells 10 (by simp); have yf8 := x4.free 8; have rL := r4; have z0 : w4.cell? ⟨w.heap.size, 0, none⟩ = some (.int .u8 0) := rL.cells 0 (by simp [zeroChg]); have z1 : w4.cell? ⟨w.heap.size, 1, none⟩ = some (.int .i64 0) := rL.cells 1 (by simp [zeroChg]); have z2 : w4.cell? ⟨w.heap.size, 2, none⟩ = some (.string ⟨#[]⟩) := rL.cells 2 (by simp [zeroChg]); have z3 : w4.cell? ⟨w.heap.size, 3, none⟩ = some (.string ⟨#[]⟩) := rL.cells 3 (by simp [zeroChg]); have z4 : w4.cell? ⟨w.heap.size, 4, none⟩ = some (.int .u32 0) := rL.cells 4 (by simp [zeroChg]); have z5 : w4.cell? ⟨w.heap.size, 5, none⟩ = some (.int .i64 0) := rL.cells 5 (by simp [zeroChg]); have z6 : w4.cell? ⟨w.heap.size, 6, none⟩ = some (.int .u64 0) := rL.cells 6 (by simp [zeroChg]); have z7 : w4.cell? ⟨w.heap.size, 7, none⟩ = some (.string ⟨#[]⟩) := rL.cells 7 (by simp [zeroChg]); have z8 : w4.cell? ⟨w.heap.size, 8, none⟩ = some (.int .u8 0) := rL.cells 8 (by simp [zeroChg]); have z9 : w4.cell? ⟨w.heap.size, 9, none⟩ = some (.int .i64 0) := rL.cells 9 (by simp [zeroChg]); have z10 : w4.cell? ⟨w.heap.size, 10, none⟩ = some (.bool false) := rL.cells 10 (by simp [zeroChg]); have zf0 := rL.free 0; have zf1 := rL.free 1; have zf2 := rL.free 2; have zf3 := rL.free 3; have zf4 := rL.free 4; have zf5 := rL.free 5; have zf6 := rL.free 6; have zf7 := rL.free 7; have zf8 := rL.free 8; have zf9 := rL.free 9; have zf10 := rL.free 10)
    | (go_at_call 33; refine (c3 _ (V2.other HX1.out hBX 1 _)).mono ?_; rintro e w3 ⟨rfl, h3, g3⟩; have V3 := h3; have x3 := (x2.set 1 (.int .i64 p2.1) (by simp)).grown g3 HX2.out; have r3 := (r2.other HX3.out 1 (.int .i64 p2.1)).grown g3 HN3.out; have k3 := (grown_new k2 hWX 1 (.int .i64 p2.1)).trans g3; have y3_7 : w3.cell? ⟨w1.heap.size, 7, none⟩ = some (.string ⟨#[]⟩) := x3.cells 7 (by simp); have yf3_7 := x3.free 7; have y3_0 : w3.cell? ⟨w1.heap.size, 0, none⟩ = some (.int .u8 (kn : Int)) := x3.cells 0 (by simp))
    | (go_at_call 66; refine (c2 _ V1).mono ?_; rintro e w2 ⟨rfl, h2, g2⟩; have V2 := h2; have x2 := x1.grown g2 HX2.out; have r2 := r1.grown g2 HN3.out; have k2 := k1.trans g2; have y2_1 : w2.cell? ⟨w1.heap.size, 1, none⟩ = some (.int .i64 0) := x2.cells 1 (by simp); have yf2_1 := x2.free 1; have y2_0 : w2.cell? ⟨w1.heap.size, 0, none⟩ = some (.int .u8 (kn : Int)) := x2.cells 0 (by simp))
    | (go_at_call 60; refine (hasTenant_any kn _).mono ?_; rintro e w' ⟨rfl, rfl⟩)
    | (go_at_call 65; refine c1.mono ?_; rintro e w1 ⟨rfl, h1, g1⟩; have hsz1 : w.heap.size < w1.heap.size := size_alloc_lt g1.size; have HX1 : Hid (rb ≠ w1.heap.size) := ne_hid (by omega); have HX2 : Hid (some w1.heap.size ≠ some rb) := some_ne (by omega); have HX3 : Hid (w.heap.size ≠ w1.heap.size) := ne_hid (by omega); have hBX : B ≤ w1.heap.size := (by omega); have hWX : w.heap.size ≤ w1.heap.size := (by omega); have V1 : Rd (w1.alloc (.cells #[.int .u8 (kn : Int), .int .i64 0, .string ⟨#[]⟩, .string ⟨#[]⟩, .int .u32 0, .int .i64 0, .int .u64 0, .string ⟨#[]⟩, .int .u8 0, .int .i64 0, .bool false] 41)) B rb p1.2 := h1.grown (World.grownBy_alloc w1 _ none) (by simp) (by simp); have k1 : w.grownBy (w1.alloc (.cells #[.int .u8 (kn : Int), .int .i64 0, .string ⟨#[]⟩, .string ⟨#[]⟩, .int .u32 0, .int .i64 0, .int .u64 0, .string ⟨#[]⟩, .int .u8 0, .int .i64 0, .bool false] 41)) (some rb) := grown_alloc (hgA.trans g1) _; have r1 := (bR.grown g1 HN3.out).grown (World.grownBy_alloc w1 (.cells #[.int .u8 (kn : Int), .int .i64 0, .string ⟨#[]⟩, .string ⟨#[]⟩, .int .u32 0, .int .i64 0, .int .u64 0, .string ⟨#[]⟩, .int .u8 0, .int .i64 0, .bool false] 41) none) (by simp); have x1 : WB (w1.alloc (.cells #[.int .u8 (kn : Int), .int .i64 0, .string ⟨#[]⟩, .string ⟨#[]⟩, .int .u32 0, .int .i64 0, .int .u64 0, .string ⟨#[]⟩, .int .u8 0, .int .i64 0, .bool false] 41)) w1.heap.size [.int .u8 (kn : Int), .int .i64 0, .string ⟨#[]⟩, .string ⟨#[]⟩, .int .u32 0, .int .i64 0, .int .u64 0, .string ⟨#[]⟩, .int .u8 0, .int .i64 0, .bool false] := WB.made w1 [.int .u8 (kn : Int), .int .i64 0, .string ⟨#[]⟩, .string ⟨#[]⟩, .int .u32 0, .int .i64 0, .int .u64 0, .string ⟨#[]⟩, .int .u8 0, .int .i64 0, .bool false] 41))
  refine bodyPost_ret (v := .agg #[.int .u8 (kn : Int), .int .i64 p2.1, .string ⟨#[]⟩, .string ⟨#[]⟩, .int .u32 0, .int .i64 0, .int .u64 0, .string ⟨p3.1.toArray⟩, .int .u8 (p4.1.toNat : Int), .int .i64 0, .bool false]) (by simp [results, Try.results43, go_sem, hsz1, z0, z1, z2, z3, z4, z5, z6, z7, z8, z9, z10]) rfl ⟨rfl, ?_, ?_⟩
  · iterate 11 (refine Rd.other ?_ HN0.out hB0 _ _)
    iterate 1 (refine Rd.other ?_ HX1.out hBX _ _)
    exact V4
  · iterate 11 (refine grown_new ?_ (Nat.le_refl _) _ _)
    iterate 1 (refine grown_new ?_ hWX _ _)
    exact k4
end Go.Proofs.Ytlhlleokehkolaa
