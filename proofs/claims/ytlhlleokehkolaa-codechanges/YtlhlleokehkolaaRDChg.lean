/-
  The document's Reader.Item and Reader.change: their contracts (written by tools/genrdchg.py).
-/
import Derived.Test.YtlhlleokehkolaaRDoc
import Derived.Test.YtlhlleokehkolaaRCmd4
namespace Go.Proofs.Ytlhlleokehkolaa
open Go.RowKit
set_option linter.unusedSimpArgs false
set_option linter.unusedVariables false
set_option maxRecDepth 100000

set_option maxHeartbeats 2000000 in
theorem refRItem_any (w : World) (B rb : Nat) (s : St) (h : Rd w B rb s)  :
    Calls Try.prog 73 #[.pointer (some ⟨rb, 0, none⟩)] w fun e w' => e = .returned (.agg (dItem s).1.cells.toArray) ∧ Rd w' B rb (dItem s).2 ∧ w.grownBy w' (some rb) := by
  unfold dItem Itm.cells
  simp only []
  have hA : Rd (w.alloc (.cells #[.string ⟨#[]⟩, .string ⟨#[]⟩, .int .u32 0, .int .i64 0, .int .u64 0] 39)) B rb s := h.grown (World.grownBy_alloc w _ none) (by simp) (by simp)
  have hgA : w.grownBy (w.alloc (.cells #[.string ⟨#[]⟩, .string ⟨#[]⟩, .int .u32 0, .int .i64 0, .int .u64 0] 39)) (some rb) := World.grownBy_alloc w _ _
  have bR : WB (w.alloc (.cells #[.string ⟨#[]⟩, .string ⟨#[]⟩, .int .u32 0, .int .i64 0, .int .u64 0] 39)) w.heap.size zeroItm := WB.made w zeroItm 39
  have hlt := h.lt
  have hle := h.le
  have n0 : rb ≠ w.heap.size := by omega
  have hB0 : B ≤ w.heap.size := by omega
  have HN0 : Hid (rb ≠ w.heap.size) := n0
  have HN3 : Hid (some w.heap.size ≠ some rb) := by
    show some w.heap.size ≠ some rb
    simp; omega
  clear n0
  have c1 := (fun W hW => refRText_any W B rb s hW) _ hA
  obtain ⟨p1, hp1⟩ : ∃ p, p = dText s := ⟨_, rfl⟩
  rw [← hp1] at c1 ⊢
  clear hp1 h hA
  have c2 := fun W hW => refRText_any W B rb p1.2 hW
  obtain ⟨p2, hp2⟩ : ∃ p, p = dText p1.2 := ⟨_, rfl⟩
  rw [← hp2] at c2 ⊢
  clear hp2
  have c3 := fun W hW => refNumber_any W B rb p2.2 4294967295 hW
  obtain ⟨p3, hp3⟩ : ∃ p, p = dNum 4294967295 p2.2 := ⟨_, rfl⟩
  have hn3 : (p3.1 : Int) ≤ 4294967295 := by have : p3.1 ≤ 4294967295 := (by rw [hp3]; exact dNum_le _ _); omega
  rw [← hp3] at c3 ⊢
  clear hp3
  have c4 := fun W hW => refNumber_any W B rb p3.2 1099511627776 hW
  obtain ⟨p4, hp4⟩ : ∃ p, p = dNum 1099511627776 p3.2 := ⟨_, rfl⟩
  have hn4 : (p4.1 : Int) ≤ 1099511627776 := by have : p4.1 ≤ 1099511627776 := (by rw [hp4]; exact dNum_le _ _); omega
  rw [← hp4] at c4 ⊢
  clear hp4
  have c5 := fun W hW => refNumber_any W B rb p4.2 18446744073709551615 hW
  obtain ⟨p5, hp5⟩ : ∃ p, p = dNum 18446744073709551615 p4.2 := ⟨_, rfl⟩
  rw [← hp5] at c5 ⊢
  clear hp5
  go_enter Try.func73, Try.ntmps73
  go_wp2_with (first
    | (go_at_call 52; refine (c5 _ (V4.other HX1.out hBX 3 _)).mono ?_; rintro e w5 ⟨rfl, h5, g5⟩; have V5 := h5; have x5 := (x4.set 3 (.int .i64 p4.1) (by simp)).grown g5 HX2.out; have r5 := (r4.other HX3.out 3 (.int .i64 p4.1)).grown g5 HN3.out; have k5 := (grown_new k4 hWX 3 (.int .i64 p4.1)).trans g5; have y0 : w5.cell? ⟨w1.heap.size, 0, none⟩ = some (.string ⟨p1.1.toArray⟩) := x5.cells 0 (by simp); have y1 : w5.cell? ⟨w1.heap.size, 1, none⟩ = some (.string ⟨p2.1.toArray⟩) := x5.cells 1 (by simp); have y2 : w5.cell? ⟨w1.heap.size, 2, none⟩ = some (.int .u32 p3.1) := x5.cells 2 (by simp); have y3 : w5.cell? ⟨w1.heap.size, 3, none⟩ = some (.int .i64 p4.1) := x5.cells 3 (by simp); have y4 : w5.cell? ⟨w1.heap.size, 4, none⟩ = some (.int .u64 0) := x5.cells 4 (by simp); have yf4 := x5.free 4; have rL := r5; have z0 : w5.cell? ⟨w.heap.size, 0, none⟩ = some (.string ⟨#[]⟩) := rL.cells 0 (by simp [zeroItm]); have z1 : w5.cell? ⟨w.heap.size, 1, none⟩ = some (.string ⟨#[]⟩) := rL.cells 1 (by simp [zeroItm]); have z2 : w5.cell? ⟨w.heap.size, 2, none⟩ = some (.int .u32 0) := rL.cells 2 (by simp [zeroItm]); have z3 : w5.cell? ⟨w.heap.size, 3, none⟩ = some (.int .i64 0) := rL.cells 3 (by simp [zeroItm]); have z4 : w5.cell? ⟨w.heap.size, 4, none⟩ = some (.int .u64 0) := rL.cells 4 (by simp [zeroItm]); have zf0 := rL.free 0; have zf1 := rL.free 1; have zf2 := rL.free 2; have zf3 := rL.free 3; have zf4 := rL.free 4)
    | (go_at_call 52; refine (c4 _ (V3.other HX1.out hBX 2 _)).mono ?_; rintro e w4 ⟨rfl, h4, g4⟩; have V4 := h4; have x4 := (x3.set 2 (.int .u32 p3.1) (by simp)).grown g4 HX2.out; have r4 := (r3.other HX3.out 2 (.int .u32 p3.1)).grown g4 HN3.out; have k4 := (grown_new k3 hWX 2 (.int .u32 p3.1)).trans g4; have y4_3 : w4.cell? ⟨w1.heap.size, 3, none⟩ = some (.int .i64 0) := x4.cells 3 (by simp); have yf4_3 := x4.free 3; have y4_0 : w4.cell? ⟨w1.heap.size, 0, none⟩ = some (.string ⟨p1.1.toArray⟩) := x4.cells 0 (by simp))
    | (go_at_call 52; refine (c3 _ (V2.other HX1.out hBX 1 _)).mono ?_; rintro e w3 ⟨rfl, h3, g3⟩; have V3 := h3; have x3 := (x2.set 1 (.string ⟨p2.1.toArray⟩) (by simp)).grown g3 HX2.out; have r3 := (r2.other HX3.out 1 (.string ⟨p2.1.toArray⟩)).grown g3 HN3.out; have k3 := (grown_new k2 hWX 1 (.string ⟨p2.1.toArray⟩)).trans g3; have y3_2 : w3.cell? ⟨w1.heap.size, 2, none⟩ = some (.int .u32 0) := x3.cells 2 (by simp); have yf3_2 := x3.free 2; have y3_0 : w3.cell? ⟨w1.heap.size, 0, none⟩ = some (.string ⟨p1.1.toArray⟩) := x3.cells 0 (by simp))
    | (go_at_call 56; refine (c2 _ V1).mono ?_; rintro e w2 ⟨rfl, h2, g2⟩; have V2 := h2; have x2 := x1.grown g2 HX2.out; have r2 := r1.grown g2 HN3.out; have k2 := k1.trans g2; have y2_1 : w2.cell? ⟨w1.heap.size, 1, none⟩ = some (.string ⟨#[]⟩) := x2.cells 1 (by simp); have yf2_1 := x2.free 1; have y2_0 : w2.cell? ⟨w1.heap.size, 0, none⟩ = some (.string ⟨p1.1.toArray⟩) := x2.cells 0 (by simp))
    | (go_at_call 56; refine c1.mono ?_; rintro e w1 ⟨rfl, h1, g1⟩; have hsz1 : w.heap.size < w1.heap.size := size_alloc_lt g1.size; have HX1 : Hid (rb ≠ w1.heap.size) := ne_hid (by omega); have HX2 : Hid (some w1.heap.size ≠ some rb) := some_ne (by omega); have HX3 : Hid (w.heap.size ≠ w1.heap.size) := ne_hid (by omega); have hBX : B ≤ w1.heap.size := (by omega); have hWX : w.heap.size ≤ w1.heap.size := (by omega); have V1 : Rd (w1.alloc (.cells #[.string ⟨p1.1.toArray⟩, .string ⟨#[]⟩, .int .u32 0, .int .i64 0, .int .u64 0] 39)) B rb p1.2 := h1.grown (World.grownBy_alloc w1 _ none) (by simp) (by simp); have k1 : w.grownBy (w1.alloc (.cells #[.string ⟨p1.1.toArray⟩, .string ⟨#[]⟩, .int .u32 0, .int .i64 0, .int .u64 0] 39)) (some rb) := grown_alloc (hgA.trans g1) _; have r1 := (bR.grown g1 HN3.out).grown (World.grownBy_alloc w1 (.cells #[.string ⟨p1.1.toArray⟩, .string ⟨#[]⟩, .int .u32 0, .int .i64 0, .int .u64 0] 39) none) (by simp); have x1 : WB (w1.alloc (.cells #[.string ⟨p1.1.toArray⟩, .string ⟨#[]⟩, .int .u32 0, .int .i64 0, .int .u64 0] 39)) w1.heap.size [.string ⟨p1.1.toArray⟩, .string ⟨#[]⟩, .int .u32 0, .int .i64 0, .int .u64 0] := WB.made w1 [.string ⟨p1.1.toArray⟩, .string ⟨#[]⟩, .int .u32 0, .int .i64 0, .int .u64 0] 39))
  refine bodyPost_ret (v := .agg #[.string ⟨p1.1.toArray⟩, .string ⟨p2.1.toArray⟩, .int .u32 p3.1, .int .i64 p4.1, .int .u64 p5.1]) (by simp [results, Try.results73, go_sem, hsz1, z0, z1, z2, z3, z4]) rfl ⟨rfl, ?_, ?_⟩
  · iterate 5 (refine Rd.other ?_ HN0.out hB0 _ _)
    iterate 1 (refine Rd.other ?_ HX1.out hBX _ _)
    exact V5
  · iterate 5 (refine grown_new ?_ (Nat.le_refl _) _ _)
    iterate 1 (refine grown_new ?_ hWX _ _)
    exact k5

set_option maxHeartbeats 2000000 in
theorem refRChg3 (w : World) (B rb : Nat) (s : St) (h : Rd w B rb s) (hk : (dByte s).1.toNat = 3) :
    Calls Try.prog 53 #[.pointer (some ⟨rb, 0, none⟩)] w fun e w' => e = .returned ((dChg3 s).1.val) ∧ Rd w' B rb (dChg3 s).2 ∧ w.grownBy w' (some rb) := by
  unfold dChg3 Chg.val Chg.cells zItm
  simp only []
  have hA : Rd (w.alloc (.cells #[.int .u8 0, .int .i64 0, .string ⟨#[]⟩, .string ⟨#[]⟩, .int .u32 0, .int .i64 0, .int .u64 0, .string ⟨#[]⟩, .int .u8 0, .int .i64 0, .bool false] 41)) B rb s := h.grown (World.grownBy_alloc w _ none) (by simp) (by simp)
  have hgA : w.grownBy (w.alloc (.cells #[.int .u8 0, .int .i64 0, .string ⟨#[]⟩, .string ⟨#[]⟩, .int .u32 0, .int .i64 0, .int .u64 0, .string ⟨#[]⟩, .int .u8 0, .int .i64 0, .bool false] 41)) (some rb) := World.grownBy_alloc w _ _
  have bR : WB (w.alloc (.cells #[.int .u8 0, .int .i64 0, .string ⟨#[]⟩, .string ⟨#[]⟩, .int .u32 0, .int .i64 0, .int .u64 0, .string ⟨#[]⟩, .int .u8 0, .int .i64 0, .bool false] 41)) w.heap.size zeroChg := WB.made w zeroChg 41
  have hlt := h.lt
  have hle := h.le
  have n0 : rb ≠ w.heap.size := by omega
  have hB0 : B ≤ w.heap.size := by omega
  have HN0 : Hid (rb ≠ w.heap.size) := n0
  have HN3 : Hid (some w.heap.size ≠ some rb) := by
    show some w.heap.size ≠ some rb
    simp; omega
  clear n0
  have c1 := (fun W hW => refByte_any W B rb s hW) _ hA
  obtain ⟨p1, hp1⟩ : ∃ p, p = dByte s := ⟨_, rfl⟩
  rw [← hp1] at c1 hk ⊢
  clear hp1 h hA
  have c2 := fun W hW => refNumber_any W B rb p1.2 4 hW
  obtain ⟨p2, hp2⟩ : ∃ p, p = dNum 4 p1.2 := ⟨_, rfl⟩
  have hn2 : (p2.1 : Int) ≤ 4 := by have : p2.1 ≤ 4 := (by rw [hp2]; exact dNum_le _ _); omega
  rw [← hp2] at c2 ⊢
  clear hp2
  obtain ⟨kn, hkn⟩ : ∃ kn : Nat, kn = p1.1.toNat := ⟨_, rfl⟩
  rw [← hkn] at hk
  unfold bcell at c1
  unfold bcell
  rw [← hkn] at c1 ⊢
  clear hkn
  have t1 : ((kn : Int) == 1) = false := by rw [hk]; decide
  have t2 : ((kn : Int) == 2) = false := by rw [hk]; decide
  have t3 : ((kn : Int) == 3) = true := by rw [hk]; decide
  have t4 : ((kn : Int) == 4) = false := by rw [hk]; decide
  have t5 : ((kn : Int) == 5) = false := by rw [hk]; decide
  have t6 : ((kn : Int) == 6) = false := by rw [hk]; decide
  have t7 : ((kn : Int) == 7) = false := by rw [hk]; decide
  clear hk
  go_enter Try.func53, Try.ntmps53
  go_wp2_with (first
    | (go_at_call 52; refine (c2 _ V1).mono ?_; rintro e w2 ⟨rfl, h2, g2⟩; have V2 := h2; have x2 := x1.grown g2 HX2.out; have r2 := r1.grown g2 HN3.out; have k2 := k1.trans g2; have y0 : w2.cell? ⟨w1.heap.size, 0, none⟩ = some (.int .u8 (kn : Int)) := x2.cells 0 (by simp); have y1 : w2.cell? ⟨w1.heap.size, 1, none⟩ = some (.int .i64 0) := x2.cells 1 (by simp); have y2 : w2.cell? ⟨w1.heap.size, 2, none⟩ = some (.string ⟨#[]⟩) := x2.cells 2 (by simp); have y3 : w2.cell? ⟨w1.heap.size, 3, none⟩ = some (.string ⟨#[]⟩) := x2.cells 3 (by simp); have y4 : w2.cell? ⟨w1.heap.size, 4, none⟩ = some (.int .u32 0) := x2.cells 4 (by simp); have y5 : w2.cell? ⟨w1.heap.size, 5, none⟩ = some (.int .i64 0) := x2.cells 5 (by simp); have y6 : w2.cell? ⟨w1.heap.size, 6, none⟩ = some (.int .u64 0) := x2.cells 6 (by simp); have y7 : w2.cell? ⟨w1.heap.size, 7, none⟩ = some (.string ⟨#[]⟩) := x2.cells 7 (by simp); have y8 : w2.cell? ⟨w1.heap.size, 8, none⟩ = some (.int .u8 0) := x2.cells 8 (by simp); have y9 : w2.cell? ⟨w1.heap.size, 9, none⟩ = some (.int .i64 0) := x2.cells 9 (by simp); have y10 : w2.cell? ⟨w1.heap.size, 10, none⟩ = some (.bool false) := x2.cells 10 (by simp); have yf1 := x2.free 1; have rL := r2; have z0 : w2.cell? ⟨w.heap.size, 0, none⟩ = some (.int .u8 0) := rL.cells 0 (by simp [zeroChg]); have z1 : w2.cell? ⟨w.heap.size, 1, none⟩ = some (.int .i64 0) := rL.cells 1 (by simp [zeroChg]); have z2 : w2.cell? ⟨w.heap.size, 2, none⟩ = some (.string ⟨#[]⟩) := rL.cells 2 (by simp [zeroChg]); have z3 : w2.cell? ⟨w.heap.size, 3, none⟩ = some (.string ⟨#[]⟩) := rL.cells 3 (by simp [zeroChg]); have z4 : w2.cell? ⟨w.heap.size, 4, none⟩ = some (.int .u32 0) := rL.cells 4 (by simp [zeroChg]); have z5 : w2.cell? ⟨w.heap.size, 5, none⟩ = some (.int .i64 0) := rL.cells 5 (by simp [zeroChg]); have z6 : w2.cell? ⟨w.heap.size, 6, none⟩ = some (.int .u64 0) := rL.cells 6 (by simp [zeroChg]); have z7 : w2.cell? ⟨w.heap.size, 7, none⟩ = some (.string ⟨#[]⟩) := rL.cells 7 (by simp [zeroChg]); have z8 : w2.cell? ⟨w.heap.size, 8, none⟩ = some (.int .u8 0) := rL.cells 8 (by simp [zeroChg]); have z9 : w2.cell? ⟨w.heap.size, 9, none⟩ = some (.int .i64 0) := rL.cells 9 (by simp [zeroChg]); have z10 : w2.cell? ⟨w.heap.size, 10, none⟩ = some (.bool false) := rL.cells 10 (by simp [zeroChg]); have zf0 := rL.free 0; have zf1 := rL.free 1; have zf2 := rL.free 2; have zf3 := rL.free 3; have zf4 := rL.free 4; have zf5 := rL.free 5; have zf6 := rL.free 6; have zf7 := rL.free 7; have zf8 := rL.free 8; have zf9 := rL.free 9; have zf10 := rL.free 10)
    | (go_at_call 55; refine c1.mono ?_; rintro e w1 ⟨rfl, h1, g1⟩; have hsz1 : w.heap.size < w1.heap.size := size_alloc_lt g1.size; have HX1 : Hid (rb ≠ w1.heap.size) := ne_hid (by omega); have HX2 : Hid (some w1.heap.size ≠ some rb) := some_ne (by omega); have HX3 : Hid (w.heap.size ≠ w1.heap.size) := ne_hid (by omega); have hBX : B ≤ w1.heap.size := (by omega); have hWX : w.heap.size ≤ w1.heap.size := (by omega); have V1 : Rd (w1.alloc (.cells #[.int .u8 (kn : Int), .int .i64 0, .string ⟨#[]⟩, .string ⟨#[]⟩, .int .u32 0, .int .i64 0, .int .u64 0, .string ⟨#[]⟩, .int .u8 0, .int .i64 0, .bool false] 41)) B rb p1.2 := h1.grown (World.grownBy_alloc w1 _ none) (by simp) (by simp); have k1 : w.grownBy (w1.alloc (.cells #[.int .u8 (kn : Int), .int .i64 0, .string ⟨#[]⟩, .string ⟨#[]⟩, .int .u32 0, .int .i64 0, .int .u64 0, .string ⟨#[]⟩, .int .u8 0, .int .i64 0, .bool false] 41)) (some rb) := grown_alloc (hgA.trans g1) _; have r1 := (bR.grown g1 HN3.out).grown (World.grownBy_alloc w1 (.cells #[.int .u8 (kn : Int), .int .i64 0, .string ⟨#[]⟩, .string ⟨#[]⟩, .int .u32 0, .int .i64 0, .int .u64 0, .string ⟨#[]⟩, .int .u8 0, .int .i64 0, .bool false] 41) none) (by simp); have x1 : WB (w1.alloc (.cells #[.int .u8 (kn : Int), .int .i64 0, .string ⟨#[]⟩, .string ⟨#[]⟩, .int .u32 0, .int .i64 0, .int .u64 0, .string ⟨#[]⟩, .int .u8 0, .int .i64 0, .bool false] 41)) w1.heap.size [.int .u8 (kn : Int), .int .i64 0, .string ⟨#[]⟩, .string ⟨#[]⟩, .int .u32 0, .int .i64 0, .int .u64 0, .string ⟨#[]⟩, .int .u8 0, .int .i64 0, .bool false] := WB.made w1 [.int .u8 (kn : Int), .int .i64 0, .string ⟨#[]⟩, .string ⟨#[]⟩, .int .u32 0, .int .i64 0, .int .u64 0, .string ⟨#[]⟩, .int .u8 0, .int .i64 0, .bool false] 41))
  refine bodyPost_ret (v := .agg #[.int .u8 (kn : Int), .int .i64 p2.1, .string ⟨#[]⟩, .string ⟨#[]⟩, .int .u32 0, .int .i64 0, .int .u64 0, .string ⟨#[]⟩, .int .u8 0, .int .i64 0, .bool false]) (by simp [results, Try.results53, go_sem, hsz1, z0, z1, z2, z3, z4, z5, z6, z7, z8, z9, z10]) rfl ⟨rfl, ?_, ?_⟩
  · iterate 11 (refine Rd.other ?_ HN0.out hB0 _ _)
    iterate 1 (refine Rd.other ?_ HX1.out hBX _ _)
    exact V2
  · iterate 11 (refine grown_new ?_ (Nat.le_refl _) _ _)
    iterate 1 (refine grown_new ?_ hWX _ _)
    exact k2

set_option maxHeartbeats 2000000 in
theorem refRChg4 (w : World) (B rb : Nat) (s : St) (h : Rd w B rb s) (hk : (dByte s).1.toNat = 4) :
    Calls Try.prog 53 #[.pointer (some ⟨rb, 0, none⟩)] w fun e w' => e = .returned ((dChg4 s).1.val) ∧ Rd w' B rb (dChg4 s).2 ∧ w.grownBy w' (some rb) := by
  unfold dChg4 Chg.val Chg.cells zItm
  simp only []
  have hA : Rd (w.alloc (.cells #[.int .u8 0, .int .i64 0, .string ⟨#[]⟩, .string ⟨#[]⟩, .int .u32 0, .int .i64 0, .int .u64 0, .string ⟨#[]⟩, .int .u8 0, .int .i64 0, .bool false] 41)) B rb s := h.grown (World.grownBy_alloc w _ none) (by simp) (by simp)
  have hgA : w.grownBy (w.alloc (.cells #[.int .u8 0, .int .i64 0, .string ⟨#[]⟩, .string ⟨#[]⟩, .int .u32 0, .int .i64 0, .int .u64 0, .string ⟨#[]⟩, .int .u8 0, .int .i64 0, .bool false] 41)) (some rb) := World.grownBy_alloc w _ _
  have bR : WB (w.alloc (.cells #[.int .u8 0, .int .i64 0, .string ⟨#[]⟩, .string ⟨#[]⟩, .int .u32 0, .int .i64 0, .int .u64 0, .string ⟨#[]⟩, .int .u8 0, .int .i64 0, .bool false] 41)) w.heap.size zeroChg := WB.made w zeroChg 41
  have hlt := h.lt
  have hle := h.le
  have n0 : rb ≠ w.heap.size := by omega
  have hB0 : B ≤ w.heap.size := by omega
  have HN0 : Hid (rb ≠ w.heap.size) := n0
  have HN3 : Hid (some w.heap.size ≠ some rb) := by
    show some w.heap.size ≠ some rb
    simp; omega
  clear n0
  have c1 := (fun W hW => refByte_any W B rb s hW) _ hA
  obtain ⟨p1, hp1⟩ : ∃ p, p = dByte s := ⟨_, rfl⟩
  rw [← hp1] at c1 hk ⊢
  clear hp1 h hA
  have c2 := fun W hW => refNumber_any W B rb p1.2 1099511627776 hW
  obtain ⟨p2, hp2⟩ : ∃ p, p = dNum 1099511627776 p1.2 := ⟨_, rfl⟩
  have hn2 : (p2.1 : Int) ≤ 1099511627776 := by have : p2.1 ≤ 1099511627776 := (by rw [hp2]; exact dNum_le _ _); omega
  rw [← hp2] at c2 ⊢
  clear hp2
  obtain ⟨kn, hkn⟩ : ∃ kn : Nat, kn = p1.1.toNat := ⟨_, rfl⟩
  rw [← hkn] at hk
  unfold bcell at c1
  unfold bcell
  rw [← hkn] at c1 ⊢
  clear hkn
  have t1 : ((kn : Int) == 1) = false := by rw [hk]; decide
  have t2 : ((kn : Int) == 2) = false := by rw [hk]; decide
  have t3 : ((kn : Int) == 3) = false := by rw [hk]; decide
  have t4 : ((kn : Int) == 4) = true := by rw [hk]; decide
  have t5 : ((kn : Int) == 5) = false := by rw [hk]; decide
  have t6 : ((kn : Int) == 6) = false := by rw [hk]; decide
  have t7 : ((kn : Int) == 7) = false := by rw [hk]; decide
  clear hk
  go_enter Try.func53, Try.ntmps53
  go_wp2_with (first
    | (go_at_call 52; refine (c2 _ V1).mono ?_; rintro e w2 ⟨rfl, h2, g2⟩; have V2 := h2; have x2 := x1.grown g2 HX2.out; have r2 := r1.grown g2 HN3.out; have k2 := k1.trans g2; have y0 : w2.cell? ⟨w1.heap.size, 0, none⟩ = some (.int .u8 (kn : Int)) := x2.cells 0 (by simp); have y1 : w2.cell? ⟨w1.heap.size, 1, none⟩ = some (.int .i64 0) := x2.cells 1 (by simp); have y2 : w2.cell? ⟨w1.heap.size, 2, none⟩ = some (.string ⟨#[]⟩) := x2.cells 2 (by simp); have y3 : w2.cell? ⟨w1.heap.size, 3, none⟩ = some (.string ⟨#[]⟩) := x2.cells 3 (by simp); have y4 : w2.cell? ⟨w1.heap.size, 4, none⟩ = some (.int .u32 0) := x2.cells 4 (by simp); have y5 : w2.cell? ⟨w1.heap.size, 5, none⟩ = some (.int .i64 0) := x2.cells 5 (by simp); have y6 : w2.cell? ⟨w1.heap.size, 6, none⟩ = some (.int .u64 0) := x2.cells 6 (by simp); have y7 : w2.cell? ⟨w1.heap.size, 7, none⟩ = some (.string ⟨#[]⟩) := x2.cells 7 (by simp); have y8 : w2.cell? ⟨w1.heap.size, 8, none⟩ = some (.int .u8 0) := x2.cells 8 (by simp); have y9 : w2.cell? ⟨w1.heap.size, 9, none⟩ = some (.int .i64 0) := x2.cells 9 (by simp); have y10 : w2.cell? ⟨w1.heap.size, 10, none⟩ = some (.bool false) := x2.cells 10 (by simp); have yf9 := x2.free 9; have rL := r2; have z0 : w2.cell? ⟨w.heap.size, 0, none⟩ = some (.int .u8 0) := rL.cells 0 (by simp [zeroChg]); have z1 : w2.cell? ⟨w.heap.size, 1, none⟩ = some (.int .i64 0) := rL.cells 1 (by simp [zeroChg]); have z2 : w2.cell? ⟨w.heap.size, 2, none⟩ = some (.string ⟨#[]⟩) := rL.cells 2 (by simp [zeroChg]); have z3 : w2.cell? ⟨w.heap.size, 3, none⟩ = some (.string ⟨#[]⟩) := rL.cells 3 (by simp [zeroChg]); have z4 : w2.cell? ⟨w.heap.size, 4, none⟩ = some (.int .u32 0) := rL.cells 4 (by simp [zeroChg]); have z5 : w2.cell? ⟨w.heap.size, 5, none⟩ = some (.int .i64 0) := rL.cells 5 (by simp [zeroChg]); have z6 : w2.cell? ⟨w.heap.size, 6, none⟩ = some (.int .u64 0) := rL.cells 6 (by simp [zeroChg]); have z7 : w2.cell? ⟨w.heap.size, 7, none⟩ = some (.string ⟨#[]⟩) := rL.cells 7 (by simp [zeroChg]); have z8 : w2.cell? ⟨w.heap.size, 8, none⟩ = some (.int .u8 0) := rL.cells 8 (by simp [zeroChg]); have z9 : w2.cell? ⟨w.heap.size, 9, none⟩ = some (.int .i64 0) := rL.cells 9 (by simp [zeroChg]); have z10 : w2.cell? ⟨w.heap.size, 10, none⟩ = some (.bool false) := rL.cells 10 (by simp [zeroChg]); have zf0 := rL.free 0; have zf1 := rL.free 1; have zf2 := rL.free 2; have zf3 := rL.free 3; have zf4 := rL.free 4; have zf5 := rL.free 5; have zf6 := rL.free 6; have zf7 := rL.free 7; have zf8 := rL.free 8; have zf9 := rL.free 9; have zf10 := rL.free 10)
    | (go_at_call 55; refine c1.mono ?_; rintro e w1 ⟨rfl, h1, g1⟩; have hsz1 : w.heap.size < w1.heap.size := size_alloc_lt g1.size; have HX1 : Hid (rb ≠ w1.heap.size) := ne_hid (by omega); have HX2 : Hid (some w1.heap.size ≠ some rb) := some_ne (by omega); have HX3 : Hid (w.heap.size ≠ w1.heap.size) := ne_hid (by omega); have hBX : B ≤ w1.heap.size := (by omega); have hWX : w.heap.size ≤ w1.heap.size := (by omega); have V1 : Rd (w1.alloc (.cells #[.int .u8 (kn : Int), .int .i64 0, .string ⟨#[]⟩, .string ⟨#[]⟩, .int .u32 0, .int .i64 0, .int .u64 0, .string ⟨#[]⟩, .int .u8 0, .int .i64 0, .bool false] 41)) B rb p1.2 := h1.grown (World.grownBy_alloc w1 _ none) (by simp) (by simp); have k1 : w.grownBy (w1.alloc (.cells #[.int .u8 (kn : Int), .int .i64 0, .string ⟨#[]⟩, .string ⟨#[]⟩, .int .u32 0, .int .i64 0, .int .u64 0, .string ⟨#[]⟩, .int .u8 0, .int .i64 0, .bool false] 41)) (some rb) := grown_alloc (hgA.trans g1) _; have r1 := (bR.grown g1 HN3.out).grown (World.grownBy_alloc w1 (.cells #[.int .u8 (kn : Int), .int .i64 0, .string ⟨#[]⟩, .string ⟨#[]⟩, .int .u32 0, .int .i64 0, .int .u64 0, .string ⟨#[]⟩, .int .u8 0, .int .i64 0, .bool false] 41) none) (by simp); have x1 : WB (w1.alloc (.cells #[.int .u8 (kn : Int), .int .i64 0, .string ⟨#[]⟩, .string ⟨#[]⟩, .int .u32 0, .int .i64 0, .int .u64 0, .string ⟨#[]⟩, .int .u8 0, .int .i64 0, .bool false] 41)) w1.heap.size [.int .u8 (kn : Int), .int .i64 0, .string ⟨#[]⟩, .string ⟨#[]⟩, .int .u32 0, .int .i64 0, .int .u64 0, .string ⟨#[]⟩, .int .u8 0, .int .i64 0, .bool false] := WB.made w1 [.int .u8 (kn : Int), .int .i64 0, .string ⟨#[]⟩, .string ⟨#[]⟩, .int .u32 0, .int .i64 0, .int .u64 0, .string ⟨#[]⟩, .int .u8 0, .int .i64 0, .bool false] 41))
  refine bodyPost_ret (v := .agg #[.int .u8 (kn : Int), .int .i64 0, .string ⟨#[]⟩, .string ⟨#[]⟩, .int .u32 0, .int .i64 0, .int .u64 0, .string ⟨#[]⟩, .int .u8 0, .int .i64 p2.1, .bool false]) (by simp [results, Try.results53, go_sem, hsz1, z0, z1, z2, z3, z4, z5, z6, z7, z8, z9, z10]) rfl ⟨rfl, ?_, ?_⟩
  · iterate 11 (refine Rd.other ?_ HN0.out hB0 _ _)
    iterate 1 (refine Rd.other ?_ HX1.out hBX _ _)
    exact V2
  · iterate 11 (refine grown_new ?_ (Nat.le_refl _) _ _)
    iterate 1 (refine grown_new ?_ hWX _ _)
    exact k2

set_option maxHeartbeats 2000000 in
theorem refRChg5 (w : World) (B rb : Nat) (s : St) (h : Rd w B rb s) (hk : (dByte s).1.toNat = 5) :
    Calls Try.prog 53 #[.pointer (some ⟨rb, 0, none⟩)] w fun e w' => e = .returned ((dChg5 s).1.val) ∧ Rd w' B rb (dChg5 s).2 ∧ w.grownBy w' (some rb) := by
  unfold dChg5 Chg.val Chg.cells zItm
  simp only []
  have hA : Rd (w.alloc (.cells #[.int .u8 0, .int .i64 0, .string ⟨#[]⟩, .string ⟨#[]⟩, .int .u32 0, .int .i64 0, .int .u64 0, .string ⟨#[]⟩, .int .u8 0, .int .i64 0, .bool false] 41)) B rb s := h.grown (World.grownBy_alloc w _ none) (by simp) (by simp)
  have hgA : w.grownBy (w.alloc (.cells #[.int .u8 0, .int .i64 0, .string ⟨#[]⟩, .string ⟨#[]⟩, .int .u32 0, .int .i64 0, .int .u64 0, .string ⟨#[]⟩, .int .u8 0, .int .i64 0, .bool false] 41)) (some rb) := World.grownBy_alloc w _ _
  have bR : WB (w.alloc (.cells #[.int .u8 0, .int .i64 0, .string ⟨#[]⟩, .string ⟨#[]⟩, .int .u32 0, .int .i64 0, .int .u64 0, .string ⟨#[]⟩, .int .u8 0, .int .i64 0, .bool false] 41)) w.heap.size zeroChg := WB.made w zeroChg 41
  have hlt := h.lt
  have hle := h.le
  have n0 : rb ≠ w.heap.size := by omega
  have hB0 : B ≤ w.heap.size := by omega
  have HN0 : Hid (rb ≠ w.heap.size) := n0
  have HN3 : Hid (some w.heap.size ≠ some rb) := by
    show some w.heap.size ≠ some rb
    simp; omega
  clear n0
  have c1 := (fun W hW => refByte_any W B rb s hW) _ hA
  obtain ⟨p1, hp1⟩ : ∃ p, p = dByte s := ⟨_, rfl⟩
  rw [← hp1] at c1 hk ⊢
  clear hp1 h hA
  have c2 := fun W hW => refNumber_any W B rb p1.2 4 hW
  obtain ⟨p2, hp2⟩ : ∃ p, p = dNum 4 p1.2 := ⟨_, rfl⟩
  have hn2 : (p2.1 : Int) ≤ 4 := by have : p2.1 ≤ 4 := (by rw [hp2]; exact dNum_le _ _); omega
  rw [← hp2] at c2 ⊢
  clear hp2
  have c3 := fun W hW => refNumber_any W B rb p2.2 16 hW
  obtain ⟨p3, hp3⟩ : ∃ p, p = dNum 16 p2.2 := ⟨_, rfl⟩
  have hn3 : (p3.1 : Int) ≤ 16 := by have : p3.1 ≤ 16 := (by rw [hp3]; exact dNum_le _ _); omega
  rw [← hp3] at c3 ⊢
  clear hp3
  obtain ⟨kn, hkn⟩ : ∃ kn : Nat, kn = p1.1.toNat := ⟨_, rfl⟩
  rw [← hkn] at hk
  unfold bcell at c1
  unfold bcell
  rw [← hkn] at c1 ⊢
  clear hkn
  have t1 : ((kn : Int) == 1) = false := by rw [hk]; decide
  have t2 : ((kn : Int) == 2) = false := by rw [hk]; decide
  have t3 : ((kn : Int) == 3) = false := by rw [hk]; decide
  have t4 : ((kn : Int) == 4) = false := by rw [hk]; decide
  have t5 : ((kn : Int) == 5) = true := by rw [hk]; decide
  have t6 : ((kn : Int) == 6) = false := by rw [hk]; decide
  have t7 : ((kn : Int) == 7) = false := by rw [hk]; decide
  clear hk
  go_enter Try.func53, Try.ntmps53
  go_wp2_with (first
    | (go_at_call 52; refine (c3 _ (V2.other HX1.out hBX 1 _)).mono ?_; rintro e w3 ⟨rfl, h3, g3⟩; have V3 := h3; have x3 := (x2.set 1 (.int .i64 p2.1) (by simp)).grown g3 HX2.out; have r3 := (r2.other HX3.out 1 (.int .i64 p2.1)).grown g3 HN3.out; have k3 := (grown_new k2 hWX 1 (.int .i64 p2.1)).trans g3; have y0 : w3.cell? ⟨w1.heap.size, 0, none⟩ = some (.int .u8 (kn : Int)) := x3.cells 0 (by simp); have y1 : w3.cell? ⟨w1.heap.size, 1, none⟩ = some (.int .i64 p2.1) := x3.cells 1 (by simp); have y2 : w3.cell? ⟨w1.heap.size, 2, none⟩ = some (.string ⟨#[]⟩) := x3.cells 2 (by simp); have y3 : w3.cell? ⟨w1.heap.size, 3, none⟩ = some (.string ⟨#[]⟩) := x3.cells 3 (by simp); have y4 : w3.cell? ⟨w1.heap.size, 4, none⟩ = some (.int .u32 0) := x3.cells 4 (by simp); have y5 : w3.cell? ⟨w1.heap.size, 5, none⟩ = some (.int .i64 0) := x3.cells 5 (by simp); have y6 : w3.cell? ⟨w1.heap.size, 6, none⟩ = some (.int .u64 0) := x3.cells 6 (by simp); have y7 : w3.cell? ⟨w1.heap.size, 7, none⟩ = some (.string ⟨#[]⟩) := x3.cells 7 (by simp); have y8 : w3.cell? ⟨w1.heap.size, 8, none⟩ = some (.int .u8 0) := x3.cells 8 (by simp); have y9 : w3.cell? ⟨w1.heap.size, 9, none⟩ = some (.int .i64 0) := x3.cells 9 (by simp); have y10 : w3.cell? ⟨w1.heap.size, 10, none⟩ = some (.bool false) := x3.cells 10 (by simp); have yf9 := x3.free 9; have rL := r3; have z0 : w3.cell? ⟨w.heap.size, 0, none⟩ = some (.int .u8 0) := rL.cells 0 (by simp [zeroChg]); have z1 : w3.cell? ⟨w.heap.size, 1, none⟩ = some (.int .i64 0) := rL.cells 1 (by simp [zeroChg]); have z2 : w3.cell? ⟨w.heap.size, 2, none⟩ = some (.string ⟨#[]⟩) := rL.cells 2 (by simp [zeroChg]); have z3 : w3.cell? ⟨w.heap.size, 3, none⟩ = some (.string ⟨#[]⟩) := rL.cells 3 (by simp [zeroChg]); have z4 : w3.cell? ⟨w.heap.size, 4, none⟩ = some (.int .u32 0) := rL.cells 4 (by simp [zeroChg]); have z5 : w3.cell? ⟨w.heap.size, 5, none⟩ = some (.int .i64 0) := rL.cells 5 (by simp [zeroChg]); have z6 : w3.cell? ⟨w.heap.size, 6, none⟩ = some (.int .u64 0) := rL.cells 6 (by simp [zeroChg]); have z7 : w3.cell? ⟨w.heap.size, 7, none⟩ = some (.string ⟨#[]⟩) := rL.cells 7 (by simp [zeroChg]); have z8 : w3.cell? ⟨w.heap.size, 8, none⟩ = some (.int .u8 0) := rL.cells 8 (by simp [zeroChg]); have z9 : w3.cell? ⟨w.heap.size, 9, none⟩ = some (.int .i64 0) := rL.cells 9 (by simp [zeroChg]); have z10 : w3.cell? ⟨w.heap.size, 10, none⟩ = some (.bool false) := rL.cells 10 (by simp [zeroChg]); have zf0 := rL.free 0; have zf1 := rL.free 1; have zf2 := rL.free 2; have zf3 := rL.free 3; have zf4 := rL.free 4; have zf5 := rL.free 5; have zf6 := rL.free 6; have zf7 := rL.free 7; have zf8 := rL.free 8; have zf9 := rL.free 9; have zf10 := rL.free 10)
    | (go_at_call 52; refine (c2 _ V1).mono ?_; rintro e w2 ⟨rfl, h2, g2⟩; have V2 := h2; have x2 := x1.grown g2 HX2.out; have r2 := r1.grown g2 HN3.out; have k2 := k1.trans g2; have y2_1 : w2.cell? ⟨w1.heap.size, 1, none⟩ = some (.int .i64 0) := x2.cells 1 (by simp); have yf2_1 := x2.free 1; have y2_0 : w2.cell? ⟨w1.heap.size, 0, none⟩ = some (.int .u8 (kn : Int)) := x2.cells 0 (by simp))
    | (go_at_call 55; refine c1.mono ?_; rintro e w1 ⟨rfl, h1, g1⟩; have hsz1 : w.heap.size < w1.heap.size := size_alloc_lt g1.size; have HX1 : Hid (rb ≠ w1.heap.size) := ne_hid (by omega); have HX2 : Hid (some w1.heap.size ≠ some rb) := some_ne (by omega); have HX3 : Hid (w.heap.size ≠ w1.heap.size) := ne_hid (by omega); have hBX : B ≤ w1.heap.size := (by omega); have hWX : w.heap.size ≤ w1.heap.size := (by omega); have V1 : Rd (w1.alloc (.cells #[.int .u8 (kn : Int), .int .i64 0, .string ⟨#[]⟩, .string ⟨#[]⟩, .int .u32 0, .int .i64 0, .int .u64 0, .string ⟨#[]⟩, .int .u8 0, .int .i64 0, .bool false] 41)) B rb p1.2 := h1.grown (World.grownBy_alloc w1 _ none) (by simp) (by simp); have k1 : w.grownBy (w1.alloc (.cells #[.int .u8 (kn : Int), .int .i64 0, .string ⟨#[]⟩, .string ⟨#[]⟩, .int .u32 0, .int .i64 0, .int .u64 0, .string ⟨#[]⟩, .int .u8 0, .int .i64 0, .bool false] 41)) (some rb) := grown_alloc (hgA.trans g1) _; have r1 := (bR.grown g1 HN3.out).grown (World.grownBy_alloc w1 (.cells #[.int .u8 (kn : Int), .int .i64 0, .string ⟨#[]⟩, .string ⟨#[]⟩, .int .u32 0, .int .i64 0, .int .u64 0, .string ⟨#[]⟩, .int .u8 0, .int .i64 0, .bool false] 41) none) (by simp); have x1 : WB (w1.alloc (.cells #[.int .u8 (kn : Int), .int .i64 0, .string ⟨#[]⟩, .string ⟨#[]⟩, .int .u32 0, .int .i64 0, .int .u64 0, .string ⟨#[]⟩, .int .u8 0, .int .i64 0, .bool false] 41)) w1.heap.size [.int .u8 (kn : Int), .int .i64 0, .string ⟨#[]⟩, .string ⟨#[]⟩, .int .u32 0, .int .i64 0, .int .u64 0, .string ⟨#[]⟩, .int .u8 0, .int .i64 0, .bool false] := WB.made w1 [.int .u8 (kn : Int), .int .i64 0, .string ⟨#[]⟩, .string ⟨#[]⟩, .int .u32 0, .int .i64 0, .int .u64 0, .string ⟨#[]⟩, .int .u8 0, .int .i64 0, .bool false] 41))
  refine bodyPost_ret (v := .agg #[.int .u8 (kn : Int), .int .i64 p2.1, .string ⟨#[]⟩, .string ⟨#[]⟩, .int .u32 0, .int .i64 0, .int .u64 0, .string ⟨#[]⟩, .int .u8 0, .int .i64 p3.1, .bool false]) (by simp [results, Try.results53, go_sem, hsz1, z0, z1, z2, z3, z4, z5, z6, z7, z8, z9, z10]) rfl ⟨rfl, ?_, ?_⟩
  · iterate 11 (refine Rd.other ?_ HN0.out hB0 _ _)
    iterate 1 (refine Rd.other ?_ HX1.out hBX _ _)
    exact V3
  · iterate 11 (refine grown_new ?_ (Nat.le_refl _) _ _)
    iterate 1 (refine grown_new ?_ hWX _ _)
    exact k3

set_option maxHeartbeats 2000000 in
theorem refRChg6 (w : World) (B rb : Nat) (s : St) (h : Rd w B rb s) (hk : (dByte s).1.toNat = 6) :
    Calls Try.prog 53 #[.pointer (some ⟨rb, 0, none⟩)] w fun e w' => e = .returned ((dChg6 s).1.val) ∧ Rd w' B rb (dChg6 s).2 ∧ w.grownBy w' (some rb) := by
  unfold dChg6 Chg.val Chg.cells zItm
  simp only []
  have hA : Rd (w.alloc (.cells #[.int .u8 0, .int .i64 0, .string ⟨#[]⟩, .string ⟨#[]⟩, .int .u32 0, .int .i64 0, .int .u64 0, .string ⟨#[]⟩, .int .u8 0, .int .i64 0, .bool false] 41)) B rb s := h.grown (World.grownBy_alloc w _ none) (by simp) (by simp)
  have hgA : w.grownBy (w.alloc (.cells #[.int .u8 0, .int .i64 0, .string ⟨#[]⟩, .string ⟨#[]⟩, .int .u32 0, .int .i64 0, .int .u64 0, .string ⟨#[]⟩, .int .u8 0, .int .i64 0, .bool false] 41)) (some rb) := World.grownBy_alloc w _ _
  have bR : WB (w.alloc (.cells #[.int .u8 0, .int .i64 0, .string ⟨#[]⟩, .string ⟨#[]⟩, .int .u32 0, .int .i64 0, .int .u64 0, .string ⟨#[]⟩, .int .u8 0, .int .i64 0, .bool false] 41)) w.heap.size zeroChg := WB.made w zeroChg 41
  have hlt := h.lt
  have hle := h.le
  have n0 : rb ≠ w.heap.size := by omega
  have hB0 : B ≤ w.heap.size := by omega
  have HN0 : Hid (rb ≠ w.heap.size) := n0
  have HN3 : Hid (some w.heap.size ≠ some rb) := by
    show some w.heap.size ≠ some rb
    simp; omega
  clear n0
  have c1 := (fun W hW => refByte_any W B rb s hW) _ hA
  obtain ⟨p1, hp1⟩ : ∃ p, p = dByte s := ⟨_, rfl⟩
  rw [← hp1] at c1 hk ⊢
  clear hp1 h hA
  have c2 := fun W hW => refNumber_any W B rb p1.2 2147483647 hW
  obtain ⟨p2, hp2⟩ : ∃ p, p = dNum 2147483647 p1.2 := ⟨_, rfl⟩
  have hn2 : (p2.1 : Int) ≤ 2147483647 := by have : p2.1 ≤ 2147483647 := (by rw [hp2]; exact dNum_le _ _); omega
  rw [← hp2] at c2 ⊢
  clear hp2
  have c3 := fun W hW => refByte_any W B rb p2.2 hW
  obtain ⟨p3, hp3⟩ : ∃ p, p = dByte p2.2 := ⟨_, rfl⟩
  rw [← hp3] at c3 ⊢
  clear hp3
  obtain ⟨q, hq⟩ : ∃ q, q = decide (p3.1.toNat = 1) := ⟨_, rfl⟩
  rw [← hq]
  have tq : ((p3.1.toNat : Int) == 1) = q := by
    rw [hq]
    by_cases e : p3.1.toNat = 1
    · simp [e]
    · simp [e]; omega
  clear hq
  unfold bcell at c3
  obtain ⟨kn, hkn⟩ : ∃ kn : Nat, kn = p1.1.toNat := ⟨_, rfl⟩
  rw [← hkn] at hk
  unfold bcell at c1
  unfold bcell
  rw [← hkn] at c1 ⊢
  clear hkn
  have t1 : ((kn : Int) == 1) = false := by rw [hk]; decide
  have t2 : ((kn : Int) == 2) = false := by rw [hk]; decide
  have t3 : ((kn : Int) == 3) = false := by rw [hk]; decide
  have t4 : ((kn : Int) == 4) = false := by rw [hk]; decide
  have t5 : ((kn : Int) == 5) = false := by rw [hk]; decide
  have t6 : ((kn : Int) == 6) = true := by rw [hk]; decide
  have t7 : ((kn : Int) == 7) = false := by rw [hk]; decide
  clear hk
  go_enter Try.func53, Try.ntmps53
  go_wp2_with (first
    | (go_at_call 55; refine (c3 _ (V2.other HX1.out hBX 9 _)).mono ?_; rintro e w3 ⟨rfl, h3, g3⟩; have V3 := h3; have x3 := (x2.set 9 (.int .i64 p2.1) (by simp)).grown g3 HX2.out; have r3 := (r2.other HX3.out 9 (.int .i64 p2.1)).grown g3 HN3.out; have k3 := (grown_new k2 hWX 9 (.int .i64 p2.1)).trans g3; have y0 : w3.cell? ⟨w1.heap.size, 0, none⟩ = some (.int .u8 (kn : Int)) := x3.cells 0 (by simp); have y1 : w3.cell? ⟨w1.heap.size, 1, none⟩ = some (.int .i64 0) := x3.cells 1 (by simp); have y2 : w3.cell? ⟨w1.heap.size, 2, none⟩ = some (.string ⟨#[]⟩) := x3.cells 2 (by simp); have y3 : w3.cell? ⟨w1.heap.size, 3, none⟩ = some (.string ⟨#[]⟩) := x3.cells 3 (by simp); have y4 : w3.cell? ⟨w1.heap.size, 4, none⟩ = some (.int .u32 0) := x3.cells 4 (by simp); have y5 : w3.cell? ⟨w1.heap.size, 5, none⟩ = some (.int .i64 0) := x3.cells 5 (by simp); have y6 : w3.cell? ⟨w1.heap.size, 6, none⟩ = some (.int .u64 0) := x3.cells 6 (by simp); have y7 : w3.cell? ⟨w1.heap.size, 7, none⟩ = some (.string ⟨#[]⟩) := x3.cells 7 (by simp); have y8 : w3.cell? ⟨w1.heap.size, 8, none⟩ = some (.int .u8 0) := x3.cells 8 (by simp); have y9 : w3.cell? ⟨w1.heap.size, 9, none⟩ = some (.int .i64 p2.1) := x3.cells 9 (by simp); have y10 : w3.cell? ⟨w1.heap.size, 10, none⟩ = some (.bool false) := x3.cells 10 (by simp); have yf10 := x3.free 10; have rL := r3; have z0 : w3.cell? ⟨w.heap.size, 0, none⟩ = some (.int .u8 0) := rL.cells 0 (by simp [zeroChg]); have z1 : w3.cell? ⟨w.heap.size, 1, none⟩ = some (.int .i64 0) := rL.cells 1 (by simp [zeroChg]); have z2 : w3.cell? ⟨w.heap.size, 2, none⟩ = some (.string ⟨#[]⟩) := rL.cells 2 (by simp [zeroChg]); have z3 : w3.cell? ⟨w.heap.size, 3, none⟩ = some (.string ⟨#[]⟩) := rL.cells 3 (by simp [zeroChg]); have z4 : w3.cell? ⟨w.heap.size, 4, none⟩ = some (.int .u32 0) := rL.cells 4 (by simp [zeroChg]); have z5 : w3.cell? ⟨w.heap.size, 5, none⟩ = some (.int .i64 0) := rL.cells 5 (by simp [zeroChg]); have z6 : w3.cell? ⟨w.heap.size, 6, none⟩ = some (.int .u64 0) := rL.cells 6 (by simp [zeroChg]); have z7 : w3.cell? ⟨w.heap.size, 7, none⟩ = some (.string ⟨#[]⟩) := rL.cells 7 (by simp [zeroChg]); have z8 : w3.cell? ⟨w.heap.size, 8, none⟩ = some (.int .u8 0) := rL.cells 8 (by simp [zeroChg]); have z9 : w3.cell? ⟨w.heap.size, 9, none⟩ = some (.int .i64 0) := rL.cells 9 (by simp [zeroChg]); have z10 : w3.cell? ⟨w.heap.size, 10, none⟩ = some (.bool false) := rL.cells 10 (by simp [zeroChg]); have zf0 := rL.free 0; have zf1 := rL.free 1; have zf2 := rL.free 2; have zf3 := rL.free 3; have zf4 := rL.free 4; have zf5 := rL.free 5; have zf6 := rL.free 6; have zf7 := rL.free 7; have zf8 := rL.free 8; have zf9 := rL.free 9; have zf10 := rL.free 10)
    | (go_at_call 52; refine (c2 _ V1).mono ?_; rintro e w2 ⟨rfl, h2, g2⟩; have V2 := h2; have x2 := x1.grown g2 HX2.out; have r2 := r1.grown g2 HN3.out; have k2 := k1.trans g2; have y2_9 : w2.cell? ⟨w1.heap.size, 9, none⟩ = some (.int .i64 0) := x2.cells 9 (by simp); have yf2_9 := x2.free 9; have y2_0 : w2.cell? ⟨w1.heap.size, 0, none⟩ = some (.int .u8 (kn : Int)) := x2.cells 0 (by simp))
    | (go_at_call 55; refine c1.mono ?_; rintro e w1 ⟨rfl, h1, g1⟩; have hsz1 : w.heap.size < w1.heap.size := size_alloc_lt g1.size; have HX1 : Hid (rb ≠ w1.heap.size) := ne_hid (by omega); have HX2 : Hid (some w1.heap.size ≠ some rb) := some_ne (by omega); have HX3 : Hid (w.heap.size ≠ w1.heap.size) := ne_hid (by omega); have hBX : B ≤ w1.heap.size := (by omega); have hWX : w.heap.size ≤ w1.heap.size := (by omega); have V1 : Rd (w1.alloc (.cells #[.int .u8 (kn : Int), .int .i64 0, .string ⟨#[]⟩, .string ⟨#[]⟩, .int .u32 0, .int .i64 0, .int .u64 0, .string ⟨#[]⟩, .int .u8 0, .int .i64 0, .bool false] 41)) B rb p1.2 := h1.grown (World.grownBy_alloc w1 _ none) (by simp) (by simp); have k1 : w.grownBy (w1.alloc (.cells #[.int .u8 (kn : Int), .int .i64 0, .string ⟨#[]⟩, .string ⟨#[]⟩, .int .u32 0, .int .i64 0, .int .u64 0, .string ⟨#[]⟩, .int .u8 0, .int .i64 0, .bool false] 41)) (some rb) := grown_alloc (hgA.trans g1) _; have r1 := (bR.grown g1 HN3.out).grown (World.grownBy_alloc w1 (.cells #[.int .u8 (kn : Int), .int .i64 0, .string ⟨#[]⟩, .string ⟨#[]⟩, .int .u32 0, .int .i64 0, .int .u64 0, .string ⟨#[]⟩, .int .u8 0, .int .i64 0, .bool false] 41) none) (by simp); have x1 : WB (w1.alloc (.cells #[.int .u8 (kn : Int), .int .i64 0, .string ⟨#[]⟩, .string ⟨#[]⟩, .int .u32 0, .int .i64 0, .int .u64 0, .string ⟨#[]⟩, .int .u8 0, .int .i64 0, .bool false] 41)) w1.heap.size [.int .u8 (kn : Int), .int .i64 0, .string ⟨#[]⟩, .string ⟨#[]⟩, .int .u32 0, .int .i64 0, .int .u64 0, .string ⟨#[]⟩, .int .u8 0, .int .i64 0, .bool false] := WB.made w1 [.int .u8 (kn : Int), .int .i64 0, .string ⟨#[]⟩, .string ⟨#[]⟩, .int .u32 0, .int .i64 0, .int .u64 0, .string ⟨#[]⟩, .int .u8 0, .int .i64 0, .bool false] 41))
  refine bodyPost_ret (v := .agg #[.int .u8 (kn : Int), .int .i64 0, .string ⟨#[]⟩, .string ⟨#[]⟩, .int .u32 0, .int .i64 0, .int .u64 0, .string ⟨#[]⟩, .int .u8 0, .int .i64 p2.1, .bool q]) (by simp [results, Try.results53, go_sem, hsz1, z0, z1, z2, z3, z4, z5, z6, z7, z8, z9, z10]) rfl ⟨rfl, ?_, ?_⟩
  · iterate 11 (refine Rd.other ?_ HN0.out hB0 _ _)
    iterate 1 (refine Rd.other ?_ HX1.out hBX _ _)
    exact V3
  · iterate 11 (refine grown_new ?_ (Nat.le_refl _) _ _)
    iterate 1 (refine grown_new ?_ hWX _ _)
    exact k3

set_option maxHeartbeats 2000000 in
theorem refRChg1 (w : World) (B rb : Nat) (s : St) (h : Rd w B rb s) (hk : (dByte s).1.toNat = 1) :
    Calls Try.prog 53 #[.pointer (some ⟨rb, 0, none⟩)] w fun e w' => e = .returned ((dChg1 s).1.val) ∧ Rd w' B rb (dChg1 s).2 ∧ w.grownBy w' (some rb) := by
  unfold dChg1 Chg.val Chg.cells
  simp only []
  have hA : Rd (w.alloc (.cells #[.int .u8 0, .int .i64 0, .string ⟨#[]⟩, .string ⟨#[]⟩, .int .u32 0, .int .i64 0, .int .u64 0, .string ⟨#[]⟩, .int .u8 0, .int .i64 0, .bool false] 41)) B rb s := h.grown (World.grownBy_alloc w _ none) (by simp) (by simp)
  have hgA : w.grownBy (w.alloc (.cells #[.int .u8 0, .int .i64 0, .string ⟨#[]⟩, .string ⟨#[]⟩, .int .u32 0, .int .i64 0, .int .u64 0, .string ⟨#[]⟩, .int .u8 0, .int .i64 0, .bool false] 41)) (some rb) := World.grownBy_alloc w _ _
  have bR : WB (w.alloc (.cells #[.int .u8 0, .int .i64 0, .string ⟨#[]⟩, .string ⟨#[]⟩, .int .u32 0, .int .i64 0, .int .u64 0, .string ⟨#[]⟩, .int .u8 0, .int .i64 0, .bool false] 41)) w.heap.size zeroChg := WB.made w zeroChg 41
  have hlt := h.lt
  have hle := h.le
  have n0 : rb ≠ w.heap.size := by omega
  have hB0 : B ≤ w.heap.size := by omega
  have HN0 : Hid (rb ≠ w.heap.size) := n0
  have HN3 : Hid (some w.heap.size ≠ some rb) := by
    show some w.heap.size ≠ some rb
    simp; omega
  clear n0
  have c1 := (fun W hW => refByte_any W B rb s hW) _ hA
  obtain ⟨p1, hp1⟩ : ∃ p, p = dByte s := ⟨_, rfl⟩
  rw [← hp1] at c1 hk ⊢
  clear hp1 h hA
  have c2 := fun W hW => refNumber_any W B rb p1.2 4 hW
  obtain ⟨p2, hp2⟩ : ∃ p, p = dNum 4 p1.2 := ⟨_, rfl⟩
  have hn2 : (p2.1 : Int) ≤ 4 := by have : p2.1 ≤ 4 := (by rw [hp2]; exact dNum_le _ _); omega
  rw [← hp2] at c2 ⊢
  clear hp2
  have c3 := fun W hW => refRItem_any W B rb p2.2 hW
  obtain ⟨p3, hp3⟩ : ∃ p, p = dItem p2.2 := ⟨_, rfl⟩
  rw [← hp3] at c3 ⊢
  clear hp3
  unfold Itm.cells at c3
  obtain ⟨kn, hkn⟩ : ∃ kn : Nat, kn = p1.1.toNat := ⟨_, rfl⟩
  rw [← hkn] at hk
  unfold bcell at c1
  unfold bcell
  rw [← hkn] at c1 ⊢
  clear hkn
  have t1 : ((kn : Int) == 1) = true := by rw [hk]; decide
  have t2 : ((kn : Int) == 2) = false := by rw [hk]; decide
  have t3 : ((kn : Int) == 3) = false := by rw [hk]; decide
  have t4 : ((kn : Int) == 4) = false := by rw [hk]; decide
  have t5 : ((kn : Int) == 5) = false := by rw [hk]; decide
  have t6 : ((kn : Int) == 6) = false := by rw [hk]; decide
  have t7 : ((kn : Int) == 7) = false := by rw [hk]; decide
  clear hk
  go_enter Try.func53, Try.ntmps53
  go_wp2_with (first
    | (go_at_call 73; refine (c3 _ (V2.other HX1.out hBX 1 _)).mono ?_; rintro e w3 ⟨rfl, h3, g3⟩; have V3 := h3; have x3 := (x2.set 1 (.int .i64 p2.1) (by simp)).grown g3 HX2.out; have r3 := (r2.other HX3.out 1 (.int .i64 p2.1)).grown g3 HN3.out; have k3 := (grown_new k2 hWX 1 (.int .i64 p2.1)).trans g3; have y0 : w3.cell? ⟨w1.heap.size, 0, none⟩ = some (.int .u8 (kn : Int)) := x3.cells 0 (by simp); have y1 : w3.cell? ⟨w1.heap.size, 1, none⟩ = some (.int .i64 p2.1) := x3.cells 1 (by simp); have y2 : w3.cell? ⟨w1.heap.size, 2, none⟩ = some (.string ⟨#[]⟩) := x3.cells 2 (by simp); have y3 : w3.cell? ⟨w1.heap.size, 3, none⟩ = some (.string ⟨#[]⟩) := x3.cells 3 (by simp); have y4 : w3.cell? ⟨w1.heap.size, 4, none⟩ = some (.int .u32 0) := x3.cells 4 (by simp); have y5 : w3.cell? ⟨w1.heap.size, 5, none⟩ = some (.int .i64 0) := x3.cells 5 (by simp); have y6 : w3.cell? ⟨w1.heap.size, 6, none⟩ = some (.int .u64 0) := x3.cells 6 (by simp); have y7 : w3.cell? ⟨w1.heap.size, 7, none⟩ = some (.string ⟨#[]⟩) := x3.cells 7 (by simp); have y8 : w3.cell? ⟨w1.heap.size, 8, none⟩ = some (.int .u8 0) := x3.cells 8 (by simp); have y9 : w3.cell? ⟨w1.heap.size, 9, none⟩ = some (.int .i64 0) := x3.cells 9 (by simp); have y10 : w3.cell? ⟨w1.heap.size, 10, none⟩ = some (.bool false) := x3.cells 10 (by simp); have yf2 := x3.free 2; have yf3 := x3.free 3; have yf4 := x3.free 4; have yf5 := x3.free 5; have yf6 := x3.free 6; have rL := r3; have z0 : w3.cell? ⟨w.heap.size, 0, none⟩ = some (.int .u8 0) := rL.cells 0 (by simp [zeroChg]); have z1 : w3.cell? ⟨w.heap.size, 1, none⟩ = some (.int .i64 0) := rL.cells 1 (by simp [zeroChg]); have z2 : w3.cell? ⟨w.heap.size, 2, none⟩ = some (.string ⟨#[]⟩) := rL.cells 2 (by simp [zeroChg]); have z3 : w3.cell? ⟨w.heap.size, 3, none⟩ = some (.string ⟨#[]⟩) := rL.cells 3 (by simp [zeroChg]); have z4 : w3.cell? ⟨w.heap.size, 4, none⟩ = some (.int .u32 0) := rL.cells 4 (by simp [zeroChg]); have z5 : w3.cell? ⟨w.heap.size, 5, none⟩ = some (.int .i64 0) := rL.cells 5 (by simp [zeroChg]); have z6 : w3.cell? ⟨w.heap.size, 6, none⟩ = some (.int .u64 0) := rL.cells 6 (by simp [zeroChg]); have z7 : w3.cell? ⟨w.heap.size, 7, none⟩ = some (.string ⟨#[]⟩) := rL.cells 7 (by simp [zeroChg]); have z8 : w3.cell? ⟨w.heap.size, 8, none⟩ = some (.int .u8 0) := rL.cells 8 (by simp [zeroChg]); have z9 : w3.cell? ⟨w.heap.size, 9, none⟩ = some (.int .i64 0) := rL.cells 9 (by simp [zeroChg]); have z10 : w3.cell? ⟨w.heap.size, 10, none⟩ = some (.bool false) := rL.cells 10 (by simp [zeroChg]); have zf0 := rL.free 0; have zf1 := rL.free 1; have zf2 := rL.free 2; have zf3 := rL.free 3; have zf4 := rL.free 4; have zf5 := rL.free 5; have zf6 := rL.free 6; have zf7 := rL.free 7; have zf8 := rL.free 8; have zf9 := rL.free 9; have zf10 := rL.free 10)
    | (go_at_call 52; refine (c2 _ V1).mono ?_; rintro e w2 ⟨rfl, h2, g2⟩; have V2 := h2; have x2 := x1.grown g2 HX2.out; have r2 := r1.grown g2 HN3.out; have k2 := k1.trans g2; have y2_1 : w2.cell? ⟨w1.heap.size, 1, none⟩ = some (.int .i64 0) := x2.cells 1 (by simp); have yf2_1 := x2.free 1; have y2_0 : w2.cell? ⟨w1.heap.size, 0, none⟩ = some (.int .u8 (kn : Int)) := x2.cells 0 (by simp))
    | (go_at_call 55; refine c1.mono ?_; rintro e w1 ⟨rfl, h1, g1⟩; have hsz1 : w.heap.size < w1.heap.size := size_alloc_lt g1.size; have HX1 : Hid (rb ≠ w1.heap.size) := ne_hid (by omega); have HX2 : Hid (some w1.heap.size ≠ some rb) := some_ne (by omega); have HX3 : Hid (w.heap.size ≠ w1.heap.size) := ne_hid (by omega); have hBX : B ≤ w1.heap.size := (by omega); have hWX : w.heap.size ≤ w1.heap.size := (by omega); have V1 : Rd (w1.alloc (.cells #[.int .u8 (kn : Int), .int .i64 0, .string ⟨#[]⟩, .string ⟨#[]⟩, .int .u32 0, .int .i64 0, .int .u64 0, .string ⟨#[]⟩, .int .u8 0, .int .i64 0, .bool false] 41)) B rb p1.2 := h1.grown (World.grownBy_alloc w1 _ none) (by simp) (by simp); have k1 : w.grownBy (w1.alloc (.cells #[.int .u8 (kn : Int), .int .i64 0, .string ⟨#[]⟩, .string ⟨#[]⟩, .int .u32 0, .int .i64 0, .int .u64 0, .string ⟨#[]⟩, .int .u8 0, .int .i64 0, .bool false] 41)) (some rb) := grown_alloc (hgA.trans g1) _; have r1 := (bR.grown g1 HN3.out).grown (World.grownBy_alloc w1 (.cells #[.int .u8 (kn : Int), .int .i64 0, .string ⟨#[]⟩, .string ⟨#[]⟩, .int .u32 0, .int .i64 0, .int .u64 0, .string ⟨#[]⟩, .int .u8 0, .int .i64 0, .bool false] 41) none) (by simp); have x1 : WB (w1.alloc (.cells #[.int .u8 (kn : Int), .int .i64 0, .string ⟨#[]⟩, .string ⟨#[]⟩, .int .u32 0, .int .i64 0, .int .u64 0, .string ⟨#[]⟩, .int .u8 0, .int .i64 0, .bool false] 41)) w1.heap.size [.int .u8 (kn : Int), .int .i64 0, .string ⟨#[]⟩, .string ⟨#[]⟩, .int .u32 0, .int .i64 0, .int .u64 0, .string ⟨#[]⟩, .int .u8 0, .int .i64 0, .bool false] := WB.made w1 [.int .u8 (kn : Int), .int .i64 0, .string ⟨#[]⟩, .string ⟨#[]⟩, .int .u32 0, .int .i64 0, .int .u64 0, .string ⟨#[]⟩, .int .u8 0, .int .i64 0, .bool false] 41))
  refine bodyPost_ret (v := .agg #[.int .u8 (kn : Int), .int .i64 p2.1, .string p3.1.key, .string p3.1.value, .int .u32 p3.1.flags, .int .i64 p3.1.til, .int .u64 p3.1.unique, .string ⟨#[]⟩, .int .u8 0, .int .i64 0, .bool false]) (by simp [results, Try.results53, go_sem, hsz1, z0, z1, z2, z3, z4, z5, z6, z7, z8, z9, z10]) rfl ⟨rfl, ?_, ?_⟩
  · iterate 11 (refine Rd.other ?_ HN0.out hB0 _ _)
    iterate 5 (refine Rd.other ?_ HX1.out hBX _ _)
    exact V3
  · iterate 11 (refine grown_new ?_ (Nat.le_refl _) _ _)
    iterate 5 (refine grown_new ?_ hWX _ _)
    exact k3

set_option maxHeartbeats 2000000 in
theorem refRChg0 (w : World) (B rb : Nat) (s : St) (h : Rd w B rb s) (hk : ∀ i, 1 ≤ i → i ≤ 7 → ¬ (dByte s).1.toNat = i) :
    Calls Try.prog 53 #[.pointer (some ⟨rb, 0, none⟩)] w fun e w' => e = .returned ((dChg0 s).1.val) ∧ Rd w' B rb (dChg0 s).2 ∧ w.grownBy w' (some rb) := by
  unfold dChg0 Chg.val Chg.cells zItm
  simp only []
  have hA : Rd (w.alloc (.cells #[.int .u8 0, .int .i64 0, .string ⟨#[]⟩, .string ⟨#[]⟩, .int .u32 0, .int .i64 0, .int .u64 0, .string ⟨#[]⟩, .int .u8 0, .int .i64 0, .bool false] 41)) B rb s := h.grown (World.grownBy_alloc w _ none) (by simp) (by simp)
  have hgA : w.grownBy (w.alloc (.cells #[.int .u8 0, .int .i64 0, .string ⟨#[]⟩, .string ⟨#[]⟩, .int .u32 0, .int .i64 0, .int .u64 0, .string ⟨#[]⟩, .int .u8 0, .int .i64 0, .bool false] 41)) (some rb) := World.grownBy_alloc w _ _
  have bR : WB (w.alloc (.cells #[.int .u8 0, .int .i64 0, .string ⟨#[]⟩, .string ⟨#[]⟩, .int .u32 0, .int .i64 0, .int .u64 0, .string ⟨#[]⟩, .int .u8 0, .int .i64 0, .bool false] 41)) w.heap.size zeroChg := WB.made w zeroChg 41
  have hlt := h.lt
  have hle := h.le
  have n0 : rb ≠ w.heap.size := by omega
  have hB0 : B ≤ w.heap.size := by omega
  have HN0 : Hid (rb ≠ w.heap.size) := n0
  have HN3 : Hid (some w.heap.size ≠ some rb) := by
    show some w.heap.size ≠ some rb
    simp; omega
  clear n0
  have c1 := (fun W hW => refByte_any W B rb s hW) _ hA
  obtain ⟨p1, hp1⟩ : ∃ p, p = dByte s := ⟨_, rfl⟩
  rw [← hp1] at c1 hk ⊢
  clear hp1 h hA
  obtain ⟨kn, hkn⟩ : ∃ kn : Nat, kn = p1.1.toNat := ⟨_, rfl⟩
  rw [← hkn] at hk
  unfold bcell at c1
  unfold bcell
  rw [← hkn] at c1 ⊢
  clear hkn
  have t1 : ((kn : Int) == 1) = false := by have := hk 1 (by omega) (by omega); simp; omega
  have t2 : ((kn : Int) == 2) = false := by have := hk 2 (by omega) (by omega); simp; omega
  have t3 : ((kn : Int) == 3) = false := by have := hk 3 (by omega) (by omega); simp; omega
  have t4 : ((kn : Int) == 4) = false := by have := hk 4 (by omega) (by omega); simp; omega
  have t5 : ((kn : Int) == 5) = false := by have := hk 5 (by omega) (by omega); simp; omega
  have t6 : ((kn : Int) == 6) = false := by have := hk 6 (by omega) (by omega); simp; omega
  have t7 : ((kn : Int) == 7) = false := by have := hk 7 (by omega) (by omega); simp; omega
  clear hk
  go_enter Try.func53, Try.ntmps53
  go_wp2_with (first
    | (go_at_call 55; refine c1.mono ?_; rintro e w1 ⟨rfl, h1, g1⟩; have hsz1 : w.heap.size < w1.heap.size := size_alloc_lt g1.size; have HX1 : Hid (rb ≠ w1.heap.size) := ne_hid (by omega); have HX2 : Hid (some w1.heap.size ≠ some rb) := some_ne (by omega); have HX3 : Hid (w.heap.size ≠ w1.heap.size) := ne_hid (by omega); have hBX : B ≤ w1.heap.size := (by omega); have hWX : w.heap.size ≤ w1.heap.size := (by omega); have V1 : Rd (w1.alloc (.cells #[.int .u8 (kn : Int), .int .i64 0, .string ⟨#[]⟩, .string ⟨#[]⟩, .int .u32 0, .int .i64 0, .int .u64 0, .string ⟨#[]⟩, .int .u8 0, .int .i64 0, .bool false] 41)) B rb p1.2 := h1.grown (World.grownBy_alloc w1 _ none) (by simp) (by simp); have k1 : w.grownBy (w1.alloc (.cells #[.int .u8 (kn : Int), .int .i64 0, .string ⟨#[]⟩, .string ⟨#[]⟩, .int .u32 0, .int .i64 0, .int .u64 0, .string ⟨#[]⟩, .int .u8 0, .int .i64 0, .bool false] 41)) (some rb) := grown_alloc (hgA.trans g1) _; have r1 := (bR.grown g1 HN3.out).grown (World.grownBy_alloc w1 (.cells #[.int .u8 (kn : Int), .int .i64 0, .string ⟨#[]⟩, .string ⟨#[]⟩, .int .u32 0, .int .i64 0, .int .u64 0, .string ⟨#[]⟩, .int .u8 0, .int .i64 0, .bool false] 41) none) (by simp); have x1 : WB (w1.alloc (.cells #[.int .u8 (kn : Int), .int .i64 0, .string ⟨#[]⟩, .string ⟨#[]⟩, .int .u32 0, .int .i64 0, .int .u64 0, .string ⟨#[]⟩, .int .u8 0, .int .i64 0, .bool false] 41)) w1.heap.size [.int .u8 (kn : Int), .int .i64 0, .string ⟨#[]⟩, .string ⟨#[]⟩, .int .u32 0, .int .i64 0, .int .u64 0, .string ⟨#[]⟩, .int .u8 0, .int .i64 0, .bool false] := WB.made w1 [.int .u8 (kn : Int), .int .i64 0, .string ⟨#[]⟩, .string ⟨#[]⟩, .int .u32 0, .int .i64 0, .int .u64 0, .string ⟨#[]⟩, .int .u8 0, .int .i64 0, .bool false] 41; have rL := bR.grown g1 HN3.out; have z0 : w1.cell? ⟨w.heap.size, 0, none⟩ = some (.int .u8 0) := rL.cells 0 (by simp [zeroChg]); have z1 : w1.cell? ⟨w.heap.size, 1, none⟩ = some (.int .i64 0) := rL.cells 1 (by simp [zeroChg]); have z2 : w1.cell? ⟨w.heap.size, 2, none⟩ = some (.string ⟨#[]⟩) := rL.cells 2 (by simp [zeroChg]); have z3 : w1.cell? ⟨w.heap.size, 3, none⟩ = some (.string ⟨#[]⟩) := rL.cells 3 (by simp [zeroChg]); have z4 : w1.cell? ⟨w.heap.size, 4, none⟩ = some (.int .u32 0) := rL.cells 4 (by simp [zeroChg]); have z5 : w1.cell? ⟨w.heap.size, 5, none⟩ = some (.int .i64 0) := rL.cells 5 (by simp [zeroChg]); have z6 : w1.cell? ⟨w.heap.size, 6, none⟩ = some (.int .u64 0) := rL.cells 6 (by simp [zeroChg]); have z7 : w1.cell? ⟨w.heap.size, 7, none⟩ = some (.string ⟨#[]⟩) := rL.cells 7 (by simp [zeroChg]); have z8 : w1.cell? ⟨w.heap.size, 8, none⟩ = some (.int .u8 0) := rL.cells 8 (by simp [zeroChg]); have z9 : w1.cell? ⟨w.heap.size, 9, none⟩ = some (.int .i64 0) := rL.cells 9 (by simp [zeroChg]); have z10 : w1.cell? ⟨w.heap.size, 10, none⟩ = some (.bool false) := rL.cells 10 (by simp [zeroChg]); have zf0 := rL.free 0; have zf1 := rL.free 1; have zf2 := rL.free 2; have zf3 := rL.free 3; have zf4 := rL.free 4; have zf5 := rL.free 5; have zf6 := rL.free 6; have zf7 := rL.free 7; have zf8 := rL.free 8; have zf9 := rL.free 9; have zf10 := rL.free 10; have hfg := h1.flag; have hff := h1.fr1; have hrl := h1.lt; have hne1 : w1.heap.size ≠ rb := (by omega); have hne0 : w.heap.size ≠ rb := (by omega)))
  refine bodyPost_ret (v := .agg #[.int .u8 (kn : Int), .int .i64 0, .string ⟨#[]⟩, .string ⟨#[]⟩, .int .u32 0, .int .i64 0, .int .u64 0, .string ⟨#[]⟩, .int .u8 0, .int .i64 0, .bool false]) (by simp [results, Try.results53, go_sem, hsz1, z0, z1, z2, z3, z4, z5, z6, z7, z8, z9, z10, hne0, hne0.symm, hne1, hne1.symm]) rfl ⟨rfl, ?_, ?_⟩
  · refine Rd.grown ?_ (World.grownBy_alloc _ _ none) (by simp) (by simp)
    iterate 11 (refine Rd.other ?_ HN0.out hB0 _ _)
    exact h1.mark true
  · refine grown_alloc ?_ _
    iterate 11 (refine grown_new ?_ (Nat.le_refl _) _ _)
    exact (hgA.trans g1).trans (grown_set _ rb 1 _)

set_option maxHeartbeats 2000000 in
theorem refRChg2 (w : World) (B rb : Nat) (s : St) (h : Rd w B rb s) (hk : (dByte s).1.toNat = 2) :
    Calls Try.prog 53 #[.pointer (some ⟨rb, 0, none⟩)] w fun e w' => e = .returned ((dChg2 s).1.val) ∧ Rd w' B rb (dChg2 s).2 ∧ w.grownBy w' (some rb) := by
  unfold dChg2 Chg.val Chg.cells zItm
  simp only []
  have hA : Rd (w.alloc (.cells #[.int .u8 0, .int .i64 0, .string ⟨#[]⟩, .string ⟨#[]⟩, .int .u32 0, .int .i64 0, .int .u64 0, .string ⟨#[]⟩, .int .u8 0, .int .i64 0, .bool false] 41)) B rb s := h.grown (World.grownBy_alloc w _ none) (by simp) (by simp)
  have hgA : w.grownBy (w.alloc (.cells #[.int .u8 0, .int .i64 0, .string ⟨#[]⟩, .string ⟨#[]⟩, .int .u32 0, .int .i64 0, .int .u64 0, .string ⟨#[]⟩, .int .u8 0, .int .i64 0, .bool false] 41)) (some rb) := World.grownBy_alloc w _ _
  have bR : WB (w.alloc (.cells #[.int .u8 0, .int .i64 0, .string ⟨#[]⟩, .string ⟨#[]⟩, .int .u32 0, .int .i64 0, .int .u64 0, .string ⟨#[]⟩, .int .u8 0, .int .i64 0, .bool false] 41)) w.heap.size zeroChg := WB.made w zeroChg 41
  have hlt := h.lt
  have hle := h.le
  have n0 : rb ≠ w.heap.size := by omega
  have hB0 : B ≤ w.heap.size := by omega
  have HN0 : Hid (rb ≠ w.heap.size) := n0
  have HN3 : Hid (some w.heap.size ≠ some rb) := by
    show some w.heap.size ≠ some rb
    simp; omega
  clear n0
  have c1 := (fun W hW => refByte_any W B rb s hW) _ hA
  obtain ⟨p1, hp1⟩ : ∃ p, p = dByte s := ⟨_, rfl⟩
  rw [← hp1] at c1 hk ⊢
  clear hp1 h hA
  have c2 := fun W hW => refNumber_any W B rb p1.2 4 hW
  obtain ⟨p2, hp2⟩ : ∃ p, p = dNum 4 p1.2 := ⟨_, rfl⟩
  have hn2 : (p2.1 : Int) ≤ 4 := by have : p2.1 ≤ 4 := (by rw [hp2]; exact dNum_le _ _); omega
  rw [← hp2] at c2 ⊢
  clear hp2
  have c3 := fun W hW => refRText_any W B rb p2.2 hW
  obtain ⟨p3, hp3⟩ : ∃ p, p = dText p2.2 := ⟨_, rfl⟩
  rw [← hp3] at c3 ⊢
  clear hp3
  have c4 := fun W hW => refByte_any W B rb p3.2 hW
  obtain ⟨p4, hp4⟩ : ∃ p, p = dByte p3.2 := ⟨_, rfl⟩
  rw [← hp4] at c4 ⊢
  clear hp4
  unfold bcell at c4
  obtain ⟨kn, hkn⟩ : ∃ kn : Nat, kn = p1.1.toNat := ⟨_, rfl⟩
  rw [← hkn] at hk
  unfold bcell at c1
  unfold bcell
  rw [← hkn] at c1 ⊢
  clear hkn
  have t1 : ((kn : Int) == 1) = false := by rw [hk]; decide
  have t2 : ((kn : Int) == 2) = true := by rw [hk]; decide
  have t3 : ((kn : Int) == 3) = false := by rw [hk]; decide
  have t4 : ((kn : Int) == 4) = false := by rw [hk]; decide
  have t5 : ((kn : Int) == 5) = false := by rw [hk]; decide
  have t6 : ((kn : Int) == 6) = false := by rw [hk]; decide
  have t7 : ((kn : Int) == 7) = false := by rw [hk]; decide
  clear hk
  go_enter Try.func53, Try.ntmps53
  go_wp2_with (first
    | (go_at_call 55; refine (c4 _ (V3.other HX1.out hBX 7 _)).mono ?_; rintro e w4 ⟨rfl, h4, g4⟩; have V4 := h4; have x4 := (x3.set 7 (.string ⟨p3.1.toArray⟩) (by simp)).grown g4 HX2.out; have r4 := (r3.other HX3.out 7 (.string ⟨p3.1.toArray⟩)).grown g4 HN3.out; have k4 := (grown_new k3 hWX 7 (.string ⟨p3.1.toArray⟩)).trans g4; have y0 : w4.cell? ⟨w1.heap.size, 0, none⟩ = some (.int .u8 (kn : Int)) := x4.cells 0 (by simp); have y1 : w4.cell? ⟨w1.heap.size, 1, none⟩ = some (.int .i64 p2.1) := x4.cells 1 (by simp); have y2 : w4.cell? ⟨w1.heap.size, 2, none⟩ = some (.string ⟨#[]⟩) := x4.cells 2 (by simp); have y3 : w4.cell? ⟨w1.heap.size, 3, none⟩ = some (.string ⟨#[]⟩) := x4.cells 3 (by simp); have y4 : w4.cell? ⟨w1.heap.size, 4, none⟩ = some (.int .u32 0) := x4.cells 4 (by simp); have y5 : w4.cell? ⟨w1.heap.size, 5, none⟩ = some (.int .i64 0) := x4.cells 5 (by simp); have y6 : w4.cell? ⟨w1.heap.size, 6, none⟩ = some (.int .u64 0) := x4.cells 6 (by simp); have y7 : w4.cell? ⟨w1.heap.size, 7, none⟩ = some (.string ⟨p3.1.toArray⟩) := x4.cells 7 (by simp); have y8 : w4.cell? ⟨w1.heap.size, 8, none⟩ = some (.int .u8 0) := x4.cells 8 (by simp); have y9 : w4.cell? ⟨w1.heap.size, 9, none⟩ = some (.int .i64 0) := x4.cells 9 (by simp); have y10 : w4.cell? ⟨w1.heap.size, 10, none⟩ = some (.bool false) := x4.cells 10 (by simp); have yf8 := x4.free 8; have rL := r4; have z0 : w4.cell? ⟨w.heap.size, 0, none⟩ = some (.int .u8 0) := rL.cells 0 (by simp [zeroChg]); have z1 : w4.cell? ⟨w.heap.size, 1, none⟩ = some (.int .i64 0) := rL.cells 1 (by simp [zeroChg]); have z2 : w4.cell? ⟨w.heap.size, 2, none⟩ = some (.string ⟨#[]⟩) := rL.cells 2 (by simp [zeroChg]); have z3 : w4.cell? ⟨w.heap.size, 3, none⟩ = some (.string ⟨#[]⟩) := rL.cells 3 (by simp [zeroChg]); have z4 : w4.cell? ⟨w.heap.size, 4, none⟩ = some (.int .u32 0) := rL.cells 4 (by simp [zeroChg]); have z5 : w4.cell? ⟨w.heap.size, 5, none⟩ = some (.int .i64 0) := rL.cells 5 (by simp [zeroChg]); have z6 : w4.cell? ⟨w.heap.size, 6, none⟩ = some (.int .u64 0) := rL.cells 6 (by simp [zeroChg]); have z7 : w4.cell? ⟨w.heap.size, 7, none⟩ = some (.string ⟨#[]⟩) := rL.cells 7 (by simp [zeroChg]); have z8 : w4.cell? ⟨w.heap.size, 8, none⟩ = some (.int .u8 0) := rL.cells 8 (by simp [zeroChg]); have z9 : w4.cell? ⟨w.heap.size, 9, none⟩ = some (.int .i64 0) := rL.cells 9 (by simp [zeroChg]); have z10 : w4.cell? ⟨w.heap.size, 10, none⟩ = some (.bool false) := rL.cells 10 (by simp [zeroChg]); have zf0 := rL.free 0; have zf1 := rL.free 1; have zf2 := rL.free 2; have zf3 := rL.free 3; have zf4 := rL.free 4; have zf5 := rL.free 5; have zf6 := rL.free 6; have zf7 := rL.free 7; have zf8 := rL.free 8; have zf9 := rL.free 9; have zf10 := rL.free 10)
    | (go_at_call 56; refine (c3 _ (V2.other HX1.out hBX 1 _)).mono ?_; rintro e w3 ⟨rfl, h3, g3⟩; have V3 := h3; have x3 := (x2.set 1 (.int .i64 p2.1) (by simp)).grown g3 HX2.out; have r3 := (r2.other HX3.out 1 (.int .i64 p2.1)).grown g3 HN3.out; have k3 := (grown_new k2 hWX 1 (.int .i64 p2.1)).trans g3; have y3_7 : w3.cell? ⟨w1.heap.size, 7, none⟩ = some (.string ⟨#[]⟩) := x3.cells 7 (by simp); have yf3_7 := x3.free 7; have y3_0 : w3.cell? ⟨w1.heap.size, 0, none⟩ = some (.int .u8 (kn : Int)) := x3.cells 0 (by simp))
    | (go_at_call 52; refine (c2 _ V1).mono ?_; rintro e w2 ⟨rfl, h2, g2⟩; have V2 := h2; have x2 := x1.grown g2 HX2.out; have r2 := r1.grown g2 HN3.out; have k2 := k1.trans g2; have y2_1 : w2.cell? ⟨w1.heap.size, 1, none⟩ = some (.int .i64 0) := x2.cells 1 (by simp); have yf2_1 := x2.free 1; have y2_0 : w2.cell? ⟨w1.heap.size, 0, none⟩ = some (.int .u8 (kn : Int)) := x2.cells 0 (by simp))
    | (go_at_call 55; refine c1.mono ?_; rintro e w1 ⟨rfl, h1, g1⟩; have hsz1 : w.heap.size < w1.heap.size := size_alloc_lt g1.size; have HX1 : Hid (rb ≠ w1.heap.size) := ne_hid (by omega); have HX2 : Hid (some w1.heap.size ≠ some rb) := some_ne (by omega); have HX3 : Hid (w.heap.size ≠ w1.heap.size) := ne_hid (by omega); have hBX : B ≤ w1.heap.size := (by omega); have hWX : w.heap.size ≤ w1.heap.size := (by omega); have V1 : Rd (w1.alloc (.cells #[.int .u8 (kn : Int), .int .i64 0, .string ⟨#[]⟩, .string ⟨#[]⟩, .int .u32 0, .int .i64 0, .int .u64 0, .string ⟨#[]⟩, .int .u8 0, .int .i64 0, .bool false] 41)) B rb p1.2 := h1.grown (World.grownBy_alloc w1 _ none) (by simp) (by simp); have k1 : w.grownBy (w1.alloc (.cells #[.int .u8 (kn : Int), .int .i64 0, .string ⟨#[]⟩, .string ⟨#[]⟩, .int .u32 0, .int .i64 0, .int .u64 0, .string ⟨#[]⟩, .int .u8 0, .int .i64 0, .bool false] 41)) (some rb) := grown_alloc (hgA.trans g1) _; have r1 := (bR.grown g1 HN3.out).grown (World.grownBy_alloc w1 (.cells #[.int .u8 (kn : Int), .int .i64 0, .string ⟨#[]⟩, .string ⟨#[]⟩, .int .u32 0, .int .i64 0, .int .u64 0, .string ⟨#[]⟩, .int .u8 0, .int .i64 0, .bool false] 41) none) (by simp); have x1 : WB (w1.alloc (.cells #[.int .u8 (kn : Int), .int .i64 0, .string ⟨#[]⟩, .string ⟨#[]⟩, .int .u32 0, .int .i64 0, .int .u64 0, .string ⟨#[]⟩, .int .u8 0, .int .i64 0, .bool false] 41)) w1.heap.size [.int .u8 (kn : Int), .int .i64 0, .string ⟨#[]⟩, .string ⟨#[]⟩, .int .u32 0, .int .i64 0, .int .u64 0, .string ⟨#[]⟩, .int .u8 0, .int .i64 0, .bool false] := WB.made w1 [.int .u8 (kn : Int), .int .i64 0, .string ⟨#[]⟩, .string ⟨#[]⟩, .int .u32 0, .int .i64 0, .int .u64 0, .string ⟨#[]⟩, .int .u8 0, .int .i64 0, .bool false] 41))
  refine bodyPost_ret (v := .agg #[.int .u8 (kn : Int), .int .i64 p2.1, .string ⟨#[]⟩, .string ⟨#[]⟩, .int .u32 0, .int .i64 0, .int .u64 0, .string ⟨p3.1.toArray⟩, .int .u8 (p4.1.toNat : Int), .int .i64 0, .bool false]) (by simp [results, Try.results53, go_sem, hsz1, z0, z1, z2, z3, z4, z5, z6, z7, z8, z9, z10]) rfl ⟨rfl, ?_, ?_⟩
  · iterate 11 (refine Rd.other ?_ HN0.out hB0 _ _)
    iterate 1 (refine Rd.other ?_ HX1.out hBX _ _)
    exact V4
  · iterate 11 (refine grown_new ?_ (Nat.le_refl _) _ _)
    iterate 1 (refine grown_new ?_ hWX _ _)
    exact k4

set_option maxHeartbeats 2000000 in
theorem refRChg7 (w : World) (B rb : Nat) (s : St) (h : Rd w B rb s) (hk : (dByte s).1.toNat = 7) :
    Calls Try.prog 53 #[.pointer (some ⟨rb, 0, none⟩)] w fun e w' => e = .returned ((dChg7 s).1.val) ∧ Rd w' B rb (dChg7 s).2 ∧ w.grownBy w' (some rb) := by
  unfold dChg7 Chg.val Chg.cells zItm
  simp only []
  have hA : Rd (w.alloc (.cells #[.int .u8 0, .int .i64 0, .string ⟨#[]⟩, .string ⟨#[]⟩, .int .u32 0, .int .i64 0, .int .u64 0, .string ⟨#[]⟩, .int .u8 0, .int .i64 0, .bool false] 41)) B rb s := h.grown (World.grownBy_alloc w _ none) (by simp) (by simp)
  have hgA : w.grownBy (w.alloc (.cells #[.int .u8 0, .int .i64 0, .string ⟨#[]⟩, .string ⟨#[]⟩, .int .u32 0, .int .i64 0, .int .u64 0, .string ⟨#[]⟩, .int .u8 0, .int .i64 0, .bool false] 41)) (some rb) := World.grownBy_alloc w _ _
  have bR : WB (w.alloc (.cells #[.int .u8 0, .int .i64 0, .string ⟨#[]⟩, .string ⟨#[]⟩, .int .u32 0, .int .i64 0, .int .u64 0, .string ⟨#[]⟩, .int .u8 0, .int .i64 0, .bool false] 41)) w.heap.size zeroChg := WB.made w zeroChg 41
  have hlt := h.lt
  have hle := h.le
  have n0 : rb ≠ w.heap.size := by omega
  have hB0 : B ≤ w.heap.size := by omega
  have HN0 : Hid (rb ≠ w.heap.size) := n0
  have HN3 : Hid (some w.heap.size ≠ some rb) := by
    show some w.heap.size ≠ some rb
    simp; omega
  clear n0
  have c1 := (fun W hW => refByte_any W B rb s hW) _ hA
  obtain ⟨p1, hp1⟩ : ∃ p, p = dByte s := ⟨_, rfl⟩
  rw [← hp1] at c1 hk ⊢
  clear hp1 h hA
  have c2 := fun W hW => refNumber_any W B rb p1.2 2147483647 hW
  obtain ⟨p2, hp2⟩ : ∃ p, p = dNum 2147483647 p1.2 := ⟨_, rfl⟩
  have hn2 : (p2.1 : Int) ≤ 2147483647 := by have : p2.1 ≤ 2147483647 := (by rw [hp2]; exact dNum_le _ _); omega
  rw [← hp2] at c2 ⊢
  clear hp2
  obtain ⟨kn, hkn⟩ : ∃ kn : Nat, kn = p1.1.toNat := ⟨_, rfl⟩
  rw [← hkn] at hk
  unfold bcell at c1
  unfold bcell
  rw [← hkn] at c1 ⊢
  clear hkn
  have t1 : ((kn : Int) == 1) = false := by rw [hk]; decide
  have t2 : ((kn : Int) == 2) = false := by rw [hk]; decide
  have t3 : ((kn : Int) == 3) = false := by rw [hk]; decide
  have t4 : ((kn : Int) == 4) = false := by rw [hk]; decide
  have t5 : ((kn : Int) == 5) = false := by rw [hk]; decide
  have t6 : ((kn : Int) == 6) = false := by rw [hk]; decide
  have t7 : ((kn : Int) == 7) = true := by rw [hk]; decide
  clear hk
  go_enter Try.func53, Try.ntmps53
  go_wp2_with (first
    | (go_at_call 52; refine (c2 _ V1).mono ?_; rintro e w2 ⟨rfl, h2, g2⟩; have V2 := h2; have x2 := x1.grown g2 HX2.out; have r2 := r1.grown g2 HN3.out; have k2 := k1.trans g2; have y0 : w2.cell? ⟨w1.heap.size, 0, none⟩ = some (.int .u8 (kn : Int)) := x2.cells 0 (by simp); have y1 : w2.cell? ⟨w1.heap.size, 1, none⟩ = some (.int .i64 0) := x2.cells 1 (by simp); have y2 : w2.cell? ⟨w1.heap.size, 2, none⟩ = some (.string ⟨#[]⟩) := x2.cells 2 (by simp); have y3 : w2.cell? ⟨w1.heap.size, 3, none⟩ = some (.string ⟨#[]⟩) := x2.cells 3 (by simp); have y4 : w2.cell? ⟨w1.heap.size, 4, none⟩ = some (.int .u32 0) := x2.cells 4 (by simp); have y5 : w2.cell? ⟨w1.heap.size, 5, none⟩ = some (.int .i64 0) := x2.cells 5 (by simp); have y6 : w2.cell? ⟨w1.heap.size, 6, none⟩ = some (.int .u64 0) := x2.cells 6 (by simp); have y7 : w2.cell? ⟨w1.heap.size, 7, none⟩ = some (.string ⟨#[]⟩) := x2.cells 7 (by simp); have y8 : w2.cell? ⟨w1.heap.size, 8, none⟩ = some (.int .u8 0) := x2.cells 8 (by simp); have y9 : w2.cell? ⟨w1.heap.size, 9, none⟩ = some (.int .i64 0) := x2.cells 9 (by simp); have y10 : w2.cell? ⟨w1.heap.size, 10, none⟩ = some (.bool false) := x2.cells 10 (by simp); have yf9 := x2.free 9; have rL := r2; have z0 : w2.cell? ⟨w.heap.size, 0, none⟩ = some (.int .u8 0) := rL.cells 0 (by simp [zeroChg]); have z1 : w2.cell? ⟨w.heap.size, 1, none⟩ = some (.int .i64 0) := rL.cells 1 (by simp [zeroChg]); have z2 : w2.cell? ⟨w.heap.size, 2, none⟩ = some (.string ⟨#[]⟩) := rL.cells 2 (by simp [zeroChg]); have z3 : w2.cell? ⟨w.heap.size, 3, none⟩ = some (.string ⟨#[]⟩) := rL.cells 3 (by simp [zeroChg]); have z4 : w2.cell? ⟨w.heap.size, 4, none⟩ = some (.int .u32 0) := rL.cells 4 (by simp [zeroChg]); have z5 : w2.cell? ⟨w.heap.size, 5, none⟩ = some (.int .i64 0) := rL.cells 5 (by simp [zeroChg]); have z6 : w2.cell? ⟨w.heap.size, 6, none⟩ = some (.int .u64 0) := rL.cells 6 (by simp [zeroChg]); have z7 : w2.cell? ⟨w.heap.size, 7, none⟩ = some (.string ⟨#[]⟩) := rL.cells 7 (by simp [zeroChg]); have z8 : w2.cell? ⟨w.heap.size, 8, none⟩ = some (.int .u8 0) := rL.cells 8 (by simp [zeroChg]); have z9 : w2.cell? ⟨w.heap.size, 9, none⟩ = some (.int .i64 0) := rL.cells 9 (by simp [zeroChg]); have z10 : w2.cell? ⟨w.heap.size, 10, none⟩ = some (.bool false) := rL.cells 10 (by simp [zeroChg]); have zf0 := rL.free 0; have zf1 := rL.free 1; have zf2 := rL.free 2; have zf3 := rL.free 3; have zf4 := rL.free 4; have zf5 := rL.free 5; have zf6 := rL.free 6; have zf7 := rL.free 7; have zf8 := rL.free 8; have zf9 := rL.free 9; have zf10 := rL.free 10)
    | (go_at_call 55; refine c1.mono ?_; rintro e w1 ⟨rfl, h1, g1⟩; have hsz1 : w.heap.size < w1.heap.size := size_alloc_lt g1.size; have HX1 : Hid (rb ≠ w1.heap.size) := ne_hid (by omega); have HX2 : Hid (some w1.heap.size ≠ some rb) := some_ne (by omega); have HX3 : Hid (w.heap.size ≠ w1.heap.size) := ne_hid (by omega); have hBX : B ≤ w1.heap.size := (by omega); have hWX : w.heap.size ≤ w1.heap.size := (by omega); have V1 : Rd (w1.alloc (.cells #[.int .u8 (kn : Int), .int .i64 0, .string ⟨#[]⟩, .string ⟨#[]⟩, .int .u32 0, .int .i64 0, .int .u64 0, .string ⟨#[]⟩, .int .u8 0, .int .i64 0, .bool false] 41)) B rb p1.2 := h1.grown (World.grownBy_alloc w1 _ none) (by simp) (by simp); have k1 : w.grownBy (w1.alloc (.cells #[.int .u8 (kn : Int), .int .i64 0, .string ⟨#[]⟩, .string ⟨#[]⟩, .int .u32 0, .int .i64 0, .int .u64 0, .string ⟨#[]⟩, .int .u8 0, .int .i64 0, .bool false] 41)) (some rb) := grown_alloc (hgA.trans g1) _; have r1 := (bR.grown g1 HN3.out).grown (World.grownBy_alloc w1 (.cells #[.int .u8 (kn : Int), .int .i64 0, .string ⟨#[]⟩, .string ⟨#[]⟩, .int .u32 0, .int .i64 0, .int .u64 0, .string ⟨#[]⟩, .int .u8 0, .int .i64 0, .bool false] 41) none) (by simp); have x1 : WB (w1.alloc (.cells #[.int .u8 (kn : Int), .int .i64 0, .string ⟨#[]⟩, .string ⟨#[]⟩, .int .u32 0, .int .i64 0, .int .u64 0, .string ⟨#[]⟩, .int .u8 0, .int .i64 0, .bool false] 41)) w1.heap.size [.int .u8 (kn : Int), .int .i64 0, .string ⟨#[]⟩, .string ⟨#[]⟩, .int .u32 0, .int .i64 0, .int .u64 0, .string ⟨#[]⟩, .int .u8 0, .int .i64 0, .bool false] := WB.made w1 [.int .u8 (kn : Int), .int .i64 0, .string ⟨#[]⟩, .string ⟨#[]⟩, .int .u32 0, .int .i64 0, .int .u64 0, .string ⟨#[]⟩, .int .u8 0, .int .i64 0, .bool false] 41))
  refine bodyPost_ret (v := .agg #[.int .u8 (kn : Int), .int .i64 0, .string ⟨#[]⟩, .string ⟨#[]⟩, .int .u32 0, .int .i64 0, .int .u64 0, .string ⟨#[]⟩, .int .u8 0, .int .i64 p2.1, .bool false]) (by simp [results, Try.results53, go_sem, hsz1, z0, z1, z2, z3, z4, z5, z6, z7, z8, z9, z10]) rfl ⟨rfl, ?_, ?_⟩
  · iterate 11 (refine Rd.other ?_ HN0.out hB0 _ _)
    iterate 1 (refine Rd.other ?_ HX1.out hBX _ _)
    exact V2
  · iterate 11 (refine grown_new ?_ (Nat.le_refl _) _ _)
    iterate 1 (refine grown_new ?_ hWX _ _)
    exact k2
end Go.Proofs.Ytlhlleokehkolaa
