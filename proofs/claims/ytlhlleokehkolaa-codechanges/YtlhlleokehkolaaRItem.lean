/-
  Contract of the reader's item.
-/
import Derived.Test.YtlhlleokehkolaaReader
import Derived.Test.YtlhlleokehkolaaChg
namespace Go.Proofs.Ytlhlleokehkolaa
open Go.RowKit
set_option linter.unusedSimpArgs false
set_option linter.unusedVariables false
set_option maxRecDepth 100000

/-- a block that may be written, with its cells -/
structure WB (w : World) (b : Nat) (cs : List Value) : Prop where
  lt : b < w.heap.size
  cells : ∀ j (h : j < cs.length), w.cell? ⟨b, j, none⟩ = some cs[j]
  free : ∀ j, w.frozen? ⟨b, j, none⟩ = false
theorem WB.grown {w w' : World} {b : Nat} {cs : List Value} {row : Option Nat} (h : WB w b cs) (hg : w.grownBy w' row) (hne : some b ≠ row) : WB w' b cs := by
  have hblk := hg.block b h.lt hne
  exact ⟨Nat.lt_of_lt_of_le h.lt hg.size, fun j hj => (World.cell?_of_block (a := ⟨b, j, none⟩) hblk).trans (h.cells j hj), fun j => (World.frozen?_of_block (a := ⟨b, j, none⟩) hblk).trans (h.free j)⟩
theorem WB.made (w : World) (cs : List Value) (t : TypeId) : WB (w.alloc (.cells cs.toArray t)) w.heap.size cs :=
  ⟨by simp, fun j hj => by simp [hj], fun j => World.frozen?_alloc_new _ _ _ _⟩
theorem WB.set {w : World} {b : Nat} {cs : List Value} (h : WB w b cs) (j : Nat) (v : Value) (hj : j < cs.length) : WB (w.setCell ⟨b, j, none⟩ v) b (cs.set j v) := by
  refine ⟨by simpa using h.lt, fun i hi => ?_, fun i => by simpa using h.free i⟩
  have hi' : i < cs.length := by simpa using hi
  by_cases e : j = i
  · subst e
    rw [World.cell?_setCell_same _ _ _ (h.cells j hj)]
    simp
  · rw [World.cell?_setCell_other _ _ _ _ (by first | (simp; done) | (simp; omega)), h.cells i hi']
    simp [List.getElem_set, e]
theorem WB.other {w : World} {b : Nat} {cs : List Value} (h : WB w b cs) {b' : Nat} (hne : b ≠ b') (j : Nat) (v : Value) : WB (w.setCell ⟨b', j, none⟩ v) b cs :=
  h.grown (grown_set w b' j v) (by simpa using hne)
theorem Rd.other {w : World} {B rb : Nat} {s : St} (h : Rd w B rb s) {b : Nat} (hne : rb ≠ b) (hB : B ≤ b) (j : Nat) (v : Value) : Rd (w.setCell ⟨b, j, none⟩ v) B rb s :=
  h.grown (grown_set w b j v) (by simpa using hne) (fun k hk => by cases hk; exact hB)
theorem grown_new {w w1 : World} {row : Option Nat} (h : w.grownBy w1 row) {b : Nat} (hb : w.heap.size ≤ b) (j : Nat) (v : Value) : w.grownBy (w1.setCell ⟨b, j, none⟩ v) row :=
  ⟨h.os, h.tape, h.output, by have := h.size; simpa using this, fun k hk hne => (Below.heap_setCell w1 ⟨b, j, none⟩ v k (by simp; omega)).trans (h.block k hk hne)⟩
theorem grown_alloc {w w1 : World} {row : Option Nat} (h : w.grownBy w1 row) (o : Obj) : w.grownBy (w1.alloc o) row :=
  h.trans (World.grownBy_alloc w1 o row)

def zeroItm : List Value := [.string ⟨#[]⟩, .string ⟨#[]⟩, .int .u32 0, .int .i64 0, .int .u64 0]
/-- an item, read -/
def sItem (s : St) : Itm × St :=
  (⟨⟨(sText s).1.toArray⟩, ⟨(sText (sText s).2).1.toArray⟩, (sSmall 4294967295 (sText (sText s).2).2).1, ((sSmall 9223372036854775807 (sSmall 4294967295 (sText (sText s).2).2).2).1 : Int), (sSmall 18446744073709551615 (sSmall 9223372036854775807 (sSmall 4294967295 (sText (sText s).2).2).2).2).1⟩,
   (sSmall 18446744073709551615 (sSmall 9223372036854775807 (sSmall 4294967295 (sText (sText s).2).2).2).2).2)

set_option maxHeartbeats 1000000 in
theorem ritem_any (w : World) (B rb : Nat) (s : St) (h : Rd w B rb s) :
    Calls Try.prog 67 #[.pointer (some ⟨rb, 0, none⟩)] w fun e w' => e = .returned (.agg (sItem s).1.cells.toArray) ∧ Rd w' B rb (sItem s).2 ∧ w.grownBy w' (some rb) := by
  unfold sItem Itm.cells
  simp only []
  have hA : Rd ((w.alloc (.cells #[.string ⟨#[]⟩, .string ⟨#[]⟩, .int .u32 0, .int .i64 0, .int .u64 0] 39)).alloc (.cells #[.string ⟨#[]⟩, .string ⟨#[]⟩, .int .u32 0, .int .i64 0, .int .u64 0] 39)) B rb s :=
    (h.grown (World.grownBy_alloc w _ none) (by simp) (by simp)).grown (World.grownBy_alloc _ _ none) (by simp) (by simp)
  have hgA : w.grownBy ((w.alloc (.cells #[.string ⟨#[]⟩, .string ⟨#[]⟩, .int .u32 0, .int .i64 0, .int .u64 0] 39)).alloc (.cells #[.string ⟨#[]⟩, .string ⟨#[]⟩, .int .u32 0, .int .i64 0, .int .u64 0] 39)) (some rb) :=
    grown_alloc (World.grownBy_alloc w _ _) _
  have bR : WB ((w.alloc (.cells #[.string ⟨#[]⟩, .string ⟨#[]⟩, .int .u32 0, .int .i64 0, .int .u64 0] 39)).alloc (.cells #[.string ⟨#[]⟩, .string ⟨#[]⟩, .int .u32 0, .int .i64 0, .int .u64 0] 39)) w.heap.size zeroItm :=
    (WB.made w zeroItm 39).grown (World.grownBy_alloc _ _ none) (by simp)
  have bX : WB ((w.alloc (.cells #[.string ⟨#[]⟩, .string ⟨#[]⟩, .int .u32 0, .int .i64 0, .int .u64 0] 39)).alloc (.cells #[.string ⟨#[]⟩, .string ⟨#[]⟩, .int .u32 0, .int .i64 0, .int .u64 0] 39)) (w.heap.size + 1) zeroItm := by
    have h := WB.made (w.alloc (.cells zeroItm.toArray 39)) zeroItm 39
    rw [show (w.alloc (.cells zeroItm.toArray 39)).heap.size = w.heap.size + 1 by simp] at h
    exact h
  have hlt := h.lt
  have hle := h.le
  have n1 : rb ≠ w.heap.size + 1 := by omega
  have n2 : some (w.heap.size + 1) ≠ some rb := by simp; omega
  have n3 : some w.heap.size ≠ some rb := by simp; omega
  have n4 : w.heap.size ≠ w.heap.size + 1 := by omega
  have hB1 : B ≤ w.heap.size + 1 := by omega
  have HN1 : Hid (rb ≠ w.heap.size + 1) := n1
  have HN2 : Hid (some (w.heap.size + 1) ≠ some rb) := n2
  have HN3 : Hid (some w.heap.size ≠ some rb) := n3
  have HN4 : Hid (w.heap.size ≠ w.heap.size + 1) := n4
  clear n1 n2 n3 n4
  obtain ⟨p1, hp1⟩ : ∃ p, p = sText s := ⟨_, rfl⟩
  have c1 := rtext_any _ B rb s hA
  rw [← hp1] at c1 ⊢
  obtain ⟨p2, hp2⟩ : ∃ p, p = sText p1.2 := ⟨_, rfl⟩
  have c2 := fun W hW => rtext_any W B rb p1.2 hW
  rw [← hp2] at c2 ⊢
  obtain ⟨p3, hp3⟩ : ∃ p, p = sSmall 4294967295 p2.2 := ⟨_, rfl⟩
  have c3 := fun W hW => flags_any W B rb p2.2 hW
  rw [← hp3] at c3 ⊢
  obtain ⟨p4, hp4⟩ : ∃ p, p = sSmall 9223372036854775807 p3.2 := ⟨_, rfl⟩
  have c4 := fun W hW => number_any W B rb p3.2 hW
  rw [← hp4] at c4 ⊢
  obtain ⟨p5, hp5⟩ : ∃ p, p = sSmall 18446744073709551615 p4.2 := ⟨_, rfl⟩
  have c5 := fun W hW => rsmall_any W B rb p4.2 18446744073709551615 hW
  rw [← hp5] at c5 ⊢
  clear hp1 hp2 hp3 hp4 hp5 hA h
  have C1 := Hid.out (p := Calls _ _ _ _ _) c1
  clear c1
  go_enter Try.func67, Try.ntmps67
  go_wp2_with (first
    | (go_at_call 42; refine (c5 _ (h4.other HN1.out hB1 3 _)).mono ?_; rintro e w5 ⟨rfl, h5, g5⟩; have x5 := (x4.set 3 (.int .i64 p4.1) (by simp [zeroItm])).grown g5 HN2.out; have r5 := (r4.other HN4.out 3 (.int .i64 p4.1)).grown g5 HN3.out; have k5 := (grown_new k4 (Nat.le_succ _) 3 (.int .i64 p4.1)).trans g5; have y0 : w5.cell? ⟨w.heap.size + 1, 0, none⟩ = some (.string ⟨p1.1.toArray⟩) := x5.cells 0 (by simp [zeroItm]); have y1 : w5.cell? ⟨w.heap.size + 1, 1, none⟩ = some (.string ⟨p2.1.toArray⟩) := x5.cells 1 (by simp [zeroItm]); have y2 : w5.cell? ⟨w.heap.size + 1, 2, none⟩ = some (.int .u32 p3.1) := x5.cells 2 (by simp [zeroItm]); have y3 : w5.cell? ⟨w.heap.size + 1, 3, none⟩ = some (.int .i64 p4.1) := x5.cells 3 (by simp [zeroItm]); have y4 : w5.cell? ⟨w.heap.size + 1, 4, none⟩ = some (.int .u64 0) := x5.cells 4 (by simp [zeroItm]); have yf := x5.free 4; have z0 : w5.cell? ⟨w.heap.size, 0, none⟩ = some (.string ⟨#[]⟩) := r5.cells 0 (by simp [zeroItm]); have z1 : w5.cell? ⟨w.heap.size, 1, none⟩ = some (.string ⟨#[]⟩) := r5.cells 1 (by simp [zeroItm]); have z2 : w5.cell? ⟨w.heap.size, 2, none⟩ = some (.int .u32 0) := r5.cells 2 (by simp [zeroItm]); have z3 : w5.cell? ⟨w.heap.size, 3, none⟩ = some (.int .i64 0) := r5.cells 3 (by simp [zeroItm]); have z4 : w5.cell? ⟨w.heap.size, 4, none⟩ = some (.int .u64 0) := r5.cells 4 (by simp [zeroItm]); have zf0 := r5.free 0; have zf1 := r5.free 1; have zf2 := r5.free 2; have zf3 := r5.free 3; have zf4 := r5.free 4)
    | (go_at_call 66; refine (c4 _ (h3.other HN1.out hB1 2 _)).mono ?_; rintro e w4 ⟨rfl, h4, g4⟩; have x4 := (x3.set 2 (.int .u32 p3.1) (by simp [zeroItm])).grown g4 HN2.out; have r4 := (r3.other HN4.out 2 (.int .u32 p3.1)).grown g4 HN3.out; have k4 := (grown_new k3 (Nat.le_succ _) 2 (.int .u32 p3.1)).trans g4; have xc4 : w4.cell? ⟨w.heap.size + 1, 3, none⟩ = some (.int .i64 0) := x4.cells 3 (by simp [zeroItm]); have xf4 := x4.free 3)
    | (go_at_call 69; refine (c3 _ (h2.other HN1.out hB1 1 _)).mono ?_; rintro e w3 ⟨rfl, h3, g3⟩; have x3 := (x2.set 1 (.string ⟨p2.1.toArray⟩) (by simp [zeroItm])).grown g3 HN2.out; have r3 := (r2.other HN4.out 1 (.string ⟨p2.1.toArray⟩)).grown g3 HN3.out; have k3 := (grown_new k2 (Nat.le_succ _) 1 (.string ⟨p2.1.toArray⟩)).trans g3; have xc3 : w3.cell? ⟨w.heap.size + 1, 2, none⟩ = some (.int .u32 0) := x3.cells 2 (by simp [zeroItm]); have xf3 := x3.free 2)
    | (go_at_call 33; refine (c2 _ (h1.other HN1.out hB1 0 _)).mono ?_; rintro e w2 ⟨rfl, h2, g2⟩; have x2 := (x1.set 0 (.string ⟨p1.1.toArray⟩) (by simp [zeroItm])).grown g2 HN2.out; have r2 := (r1.other HN4.out 0 (.string ⟨p1.1.toArray⟩)).grown g2 HN3.out; have k2 := (grown_new k1 (Nat.le_succ _) 0 (.string ⟨p1.1.toArray⟩)).trans g2; have xc2 : w2.cell? ⟨w.heap.size + 1, 1, none⟩ = some (.string ⟨#[]⟩) := x2.cells 1 (by simp [zeroItm]); have xf2 := x2.free 1)
    | (go_at_call 33; refine C1.mono ?_; rintro e w1 ⟨rfl, h1, g1⟩; have x1 := bX.grown g1 HN2.out; have r1 := bR.grown g1 HN3.out; have k1 := hgA.trans g1; have xc1 : w1.cell? ⟨w.heap.size + 1, 0, none⟩ = some (.string ⟨#[]⟩) := x1.cells 0 (by simp [zeroItm]); have xf1 := x1.free 0))
  have n0 : rb ≠ w.heap.size := by omega
  have hB0 : B ≤ w.heap.size := by omega
  refine bodyPost_ret (v := .agg #[.string ⟨p1.1.toArray⟩, .string ⟨p2.1.toArray⟩, .int .u32 p3.1, .int .i64 p4.1, .int .u64 p5.1]) (by simp [results, Try.results67, go_sem, z0, z1, z2, z3, z4]) rfl ⟨rfl, ?_, ?_⟩
  · exact (((((h5.other HN1.out hB1 4 _).other n0 hB0 0 _).other n0 hB0 1 _).other n0 hB0 2 _).other n0 hB0 3 _).other n0 hB0 4 _
  · exact grown_new (grown_new (grown_new (grown_new (grown_new (grown_new k5 (Nat.le_succ _) 4 _) (Nat.le_refl _) 0 _) (Nat.le_refl _) 1 _) (Nat.le_refl _) 2 _) (Nat.le_refl _) 3 _) (Nat.le_refl _) 4 _
end Go.Proofs.Ytlhlleokehkolaa
