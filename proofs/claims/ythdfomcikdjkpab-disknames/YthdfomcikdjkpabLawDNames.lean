/-
  DiskNames is true: the limits and errors have their numbers, and the chapter's examples are so; no condition.
-/
import Derived.Test.YthdfomcikdjkpabDkMore
import Derived.Test.YthdfomcikdjkpabDkAlive
import Derived.Test.YthdfomcikdjkpabDkRows
namespace Go.Proofs.Ythdfomcikdjkpab
open Go.ChangeShapes Go.WideShapes Go.ChangeAt Go.RowKit
open Go.ChangeMaps (open_string shut_string)
set_option linter.unusedSimpArgs false
set_option linter.unusedVariables false
set_option maxRecDepth 100000

theorem wr1 : doE 128 [⟨1, blk 1⟩] 1 = 0 ∧ doB (List.replicate 128 0) [⟨1, blk 1⟩] 1 = blk 0 ++ blk 1 := by decide
theorem rd11 : rdE 128 1 = 0 ∧ rdB (blk 0 ++ blk 1) 1 = blk 1 := by decide
theorem lf3 : leftE threeP 2 = 0 ∧ leftP threeP 2 = [⟨1, blk 1⟩] := by exact ⟨by decide, rfl⟩
theorem nw0 : newE 0 = 20 ∧ newB 0 = [] ∧ newE 4097 = 20 ∧ newB 4097 = [] := by decide
theorem rd02 : rdE 128 2 = 2 ∧ rdB (List.replicate 128 0) 2 = [] := by decide
theorem wr63 : doE 128 [⟨0, List.replicate 63 1⟩] 1 = 3 ∧ doB (List.replicate 128 0) [⟨0, List.replicate 63 1⟩] 1 = [] := by decide
theorem dn1 : doE 128 [] 1 = 2 ∧ doB (List.replicate 128 0) [] 1 = [] := by decide
theorem mn2 : manyN 128 = 2 ∧ dE 128 = 0 ∧ dE 0 = 20 := by decide
theorem ne01 : ((List.replicate 128 0 : List UInt8) == blk 0 ++ blk 1) = false := by decide

/-- a frame by what it answers -/
theorem act_any {Q : Exit → Act → World → Prop} {a : Act} {w : World} (h0 : a.tmps.getD 0 undef = .bool true) (hd : a.defers = []) (k : ∀ A : Act, A.tmps.getD 0 undef = .bool true → A.defers = [] → Q .normal A w) : Q .normal a w := k a h0 hd
/-- a new block of ones, as a slice for reading -/
theorem all_sl (x : UInt8) (w : World) :
    Calls Try.prog 22 #[.int .u8 (x.toNat : Int)] w fun e w' => ∃ g, e = .returned (.slice (some ⟨g, 0, none⟩) 64 64) ∧ Sl w' (some ⟨g, 0, none⟩) (blk x) 64 ∧ Below w.heap.size w w' := by
  refine (all_any x w).mono ?_
  rintro e w' ⟨rfl, ho, hb⟩
  obtain ⟨ao, cap, hv, hs⟩ := ho.fresh.sl
  rw [blk_len] at hv
  cases hv
  exact ⟨_, rfl, hs, hb⟩

/-- the chapter's writes, as a list for reading: the last of them -/
theorem three_sl (w : World) :
    Calls Try.prog 25 #[] w fun e w' => ∃ g, e = .returned (.slice (some ⟨g, 0, none⟩) 3 3) ∧ Pl w' (some ⟨g, 4, none⟩) [⟨1, blk 1⟩] 1 ∧ Below w.heap.size w w' := by
  have h1 := fun W => all_sl 1 W
  have h2 := fun W => all_sl 2 W
  go_enter Try.func25, Try.ntmps25
  go_wp2_with (first
    | (go_at_call 22; refine (h1 w2).mono ?_; rintro e w3 ⟨g3, rfl, ho3, hb3⟩)
    | (go_at_call 22; refine (h2 w1).mono ?_; rintro e w2 ⟨g2, rfl, ho2, hb2⟩)
    | (go_at_call 22; refine (h1 w).mono ?_; rintro e w1 ⟨g1, rfl, ho1, hb1⟩))
  go_ret
  have hb4 : ∀ o, Below w3.heap.size w3 (w3.alloc o) := fun o => (Below.refl _ _).alloc (Nat.le_refl _) o
  refine ⟨_, rfl, ⟨by simp, by omega, (by intro e; cases e), .inr ⟨w3.heap.size, 4, rfl, by simp, fun i hi => ?_⟩⟩, (hb1.trans ((hb2.mono hb1.size).trans (hb3.mono (Nat.le_trans hb1.size hb2.size)))).trans ((hb4 _).mono (Nat.le_trans (Nat.le_trans hb1.size hb2.size) hb3.size))⟩
  have : i = 0 := by simp at hi; omega
  subst this
  have hs := ho3.below (hb4 (Obj.cells #[Value.int IntKind.i64 0, Value.slice (some ⟨g1, 0, none⟩) 64 64, Value.int IntKind.i64 0, Value.slice (some ⟨g2, 0, none⟩) 64 64, Value.int IntKind.i64 1, Value.slice (some ⟨g3, 0, none⟩) 64 64] 77))
  refine ⟨by simp, .slice (some ⟨g3, 0, none⟩) 64 64, by simp, some ⟨g3, 0, none⟩, 64, rfl, by simp [blk_len], by unfold maxLen; omega, (by intro e; cases e), hs.at_⟩

set_option maxHeartbeats 4000000 in
theorem diskNames_walk (w : World) :
    Calls Try.prog 6 #[] w fun e w' => e = .returned (.bool true) ∧ Below w.heap.size w w' := by
  have hnew := new_any 2 w
  rw [new2.1, new2.2] at hnew
  have hmany := fun (W : World) (b c : Nat) => many_any (some ⟨b, 0, none⟩) 128 c W (by omega)
  rw [mn2.1, mn2.2.1] at hmany
  go_enter Try.func6, Try.ntmps6
  go_wp2_with (first
    | (go_at_call 19; refine hnew.mono ?_; rintro e w1 ⟨v1, rfl, ho1, hb1⟩; obtain ⟨g1, c1, cur1, hv1, hg1, hr1, hcs1, htk1, hlc1, hcm1⟩ := ho1.row (by decide); rw [List.length_replicate] at hv1; subst hv1)
    | (go_at_call 20; refine (hmany _ g1 c1).mono ?_; rintro e w2 ⟨rfl, hb2⟩))
  obtain ⟨D, hD⟩ : ∃ D, D = w1.heap.size := ⟨_, rfl⟩
  rw [← hD]
  have hs2 := hb2.size
  simp at hs2
  have kD : w2.cell? ⟨D, 0, none⟩ = some (.slice (some ⟨g1, 0, none⟩) 128 c1) := by rw [hD, below_cells hb2 _ _ (by simp)]; simp
  have hxD : D < w2.heap.size := by omega
  have hb02 : Below w.heap.size w w2 := hb1.trans ((below_alloc hb2).mono hb1.size)
  have hsl1 : Sl w1 (some ⟨g1, 0, none⟩) (List.replicate 128 0) c1 := by
    obtain ⟨ao, cap, he, hs⟩ := ho1.sl
    rw [List.length_replicate] at he
    cases he; exact hs
  have HS2 : Hid (Sl w2 (some ⟨g1, 0, none⟩) (List.replicate 128 0) c1) := (hsl1.below (below_alloc hb2))
  clear hsl1 hr1 hcs1 htk1 hlc1 ho1 hnew hmany hb2 hb1 hs2 hD hg1
  have hrep : (List.replicate 128 (0 : UInt8)).length = 128 := by decide
  have hr1 : (blk 0 ++ blk 1).length = 128 := by decide
  have HWR : Hid (∀ (W : World) (g : Nat), Below w2.heap.size w2 W → Sl W (some ⟨g, 0, none⟩) (blk 1) 64 → Calls Try.prog 21 #[.agg #[.slice (some ⟨g1, 0, none⟩) 128 c1], .int .i64 1, .slice (some ⟨g, 0, none⟩) 64 64] W fun e w' => ∃ r rc, e = .returned (.tuple #[.agg #[.slice (some ⟨r, 0, none⟩) 128 rc], .int .i64 0]) ∧ W.heap.size ≤ r ∧ Sl w' (some ⟨r, 0, none⟩) (blk 0 ++ blk 1) rc ∧ Below W.heap.size W w') := by
    intro W g hb hs
    have h := write_any W (some ⟨g1, 0, none⟩) (List.replicate 128 0) c1 (HS2.out.below hb) 1 (some ⟨g, 0, none⟩) (blk 1) 64 hs 0 (blk 0 ++ blk 1) wr1.1 wr1.2
    simp only [hrep, blk_len, hr1] at h
    refine h.mono ?_
    rintro e w' ⟨ro, rc, rfl, hf, hb'⟩
    obtain ⟨g', c', cur, hv, hg, hr, _, _, _, _⟩ := hf.row (by decide)
    obtain ⟨ao', cap', hv2, hs2⟩ := hf.sl
    cases hv
    cases hv2
    exact ⟨g', rc, rfl, hg, hs2, hb'⟩
  have kD0 : w2.drew.cell? ⟨D, 0, none⟩ = some (.slice (some ⟨g1, 0, none⟩) 128 c1) := kD
  have hx0 : D < w2.drew.heap.size := hxD
  have hbD : Below w2.heap.size w2 w2.drew := (Below.refl _ _).drew
  have az : (w2.drew.alloc (Obj.cells #[Value.slice none 0 0] 48)).cell? ⟨w2.heap.size, 0, none⟩ = some (.slice none 0 0) := (World.cell?_alloc_at (w := w2.drew) #[Value.slice none 0 0] 48 w2.heap.size 0 rfl).trans rfl
  have afz : (w2.drew.alloc (Obj.cells #[Value.slice none 0 0] 48)).frozen? ⟨w2.heap.size, 0, none⟩ = false := World.frozen?_alloc_at (w := w2.drew) #[Value.slice none 0 0] 48 w2.heap.size 0 rfl
  go_cut [5, 6] from 30 (fun s5 s6 wx => ∃ X r rc, s5 = .pointer (some ⟨X, 0, none⟩) ∧ s6 = .int .i64 0 ∧ wx.cell? ⟨X, 0, none⟩ = some (.slice (some ⟨r, 0, none⟩) 128 rc) ∧ X < wx.heap.size ∧ Sl wx (some ⟨r, 0, none⟩) (blk 0 ++ blk 1) rc ∧ Below w2.heap.size w2 wx)
  case first =>
    go_region_held3 (fun W => W.cell? ⟨D, 0, none⟩ = some (.slice (some ⟨g1, 0, none⟩) 128 c1)) (first | exact kD0 | exact k3 | exact k4 | exact (World.cell?_alloc_past _ _ _ hx0).trans kD0 | exact (World.cell?_alloc_past _ _ _ hx3).trans k3 | exact (World.cell?_alloc_past _ _ _ hx4).trans k4 | exact ka5 | exact kb5 | exact kc5)
      (first
        | (go_at_call 21; have ha := a3; refine (HWR.out w3 g3 hb13 hs3).mono ?_; rintro e w4 ⟨r4, rc4, rfl, hge4, hs4x, hb4⟩; have k4 := (hb4.cell (p := ⟨D, 0, none⟩) hx3).trans k3; have hs4 := hb4.size; have hx4 : D < w4.heap.size := (by omega); have a4 := (hb4.cell (p := ⟨w2.heap.size, 0, none⟩) ax3).trans a3; have af4 := (hb4.frozen (p := ⟨w2.heap.size, 0, none⟩) ax3).trans af3; have ka5 : (w4.setCell ⟨w2.heap.size, 0, none⟩ (Value.slice (some ⟨r4, 0, none⟩) 128 rc4)).cell? ⟨D, 0, none⟩ = some (.slice (some ⟨g1, 0, none⟩) 128 c1) := (World.cell?_setCell_other _ _ _ _ (by first | (simp; done) | (simp; omega))).trans k4)
        | (go_at_call 21; refine (HWR.out (w3.alloc (Obj.cells #[Value.slice none 0 0] 48)) g3 (hb13.alloc hb13.size _) (hs3.below ((Below.refl _ _).alloc (Nat.le_refl _) _))).mono ?_; rintro e w4 ⟨r4, rc4, rfl, hge4, hs4x, hb4⟩; have k4 := (hb4.cell (p := ⟨D, 0, none⟩) (by first | (simp; done) | (simp; omega))).trans ((World.cell?_alloc_past _ _ _ hx3).trans k3); have hs4 := hb4.size; simp at hs4; have hx4 : D < w4.heap.size := (by omega); have b4 : w4.cell? ⟨w3.heap.size, 0, none⟩ = some (.slice none 0 0) := (hb4.cell (p := ⟨w3.heap.size, 0, none⟩) (by simp)).trans (by simp); have bf4 : w4.frozen? ⟨w3.heap.size, 0, none⟩ = false := (hb4.frozen (p := ⟨w3.heap.size, 0, none⟩) (by simp)).trans (by simp); have kb5 : (w4.setCell ⟨w3.heap.size, 0, none⟩ (Value.slice (some ⟨r4, 0, none⟩) 128 rc4)).cell? ⟨D, 0, none⟩ = some (.slice (some ⟨g1, 0, none⟩) 128 c1) := (World.cell?_setCell_other _ _ _ _ (by first | (simp; done) | (simp; omega))).trans k4)
        | (go_at_call 21; refine (HWR.out w3 g3 hb13 hs3).mono ?_; rintro e w4 ⟨r4, rc4, rfl, hge4, hs4x, hb4⟩; have k4 := (hb4.cell (p := ⟨D, 0, none⟩) hx3).trans k3; have hs4 := hb4.size; have hx4 : D < w4.heap.size := (by omega); have kc5 : (w4.alloc (Obj.cells #[Value.slice (some ⟨r4, 0, none⟩) 128 rc4] 48)).cell? ⟨D, 0, none⟩ = some (.slice (some ⟨g1, 0, none⟩) 128 c1) := (World.cell?_alloc_past _ _ _ hx4).trans k4)
        | (go_at_call 22; refine (all_sl 1 w2.drew).mono ?_; rintro e w3 ⟨g3, rfl, hs3, hb3⟩; have hb13 : Below w2.heap.size w2 w3 := hbD.trans hb3; have k3 := (hb3.cell (p := ⟨D, 0, none⟩) hx0).trans kD0; have hx3 : D < w3.heap.size := (by have h := hb13.size; omega))
        | (go_at_call 22; refine (all_sl 1 (w2.drew.alloc (Obj.cells #[Value.slice none 0 0] 48))).mono ?_; rintro e w3 ⟨g3, rfl, hs3, hb3⟩; have hb13 : Below w2.heap.size w2 w3 := (hbD.alloc (Nat.le_refl _) _).trans (hb3.mono (by first | (simp; done) | (simp; omega))); have k3 := (hb3.cell (p := ⟨D, 0, none⟩) (by first | (simp; done) | (simp; omega))).trans ((World.cell?_alloc_past _ _ _ hx0).trans kD0); have hx3 : D < w3.heap.size := (by have h := hb13.size; omega); have a3 : w3.cell? ⟨w2.heap.size, 0, none⟩ = some (.slice none 0 0) := (hb3.cell (p := ⟨w2.heap.size, 0, none⟩) (by first | (simp; done) | (simp; omega))).trans az; have af3 : w3.frozen? ⟨w2.heap.size, 0, none⟩ = false := (hb3.frozen (p := ⟨w2.heap.size, 0, none⟩) (by first | (simp; done) | (simp; omega))).trans afz; have ax3 : w2.heap.size < w3.heap.size := (by have h := hb3.size; simp at h; omega)))
    · go_wp2_with fail
      go_meet
      case rel => exact ⟨w4.heap.size, r4, rc4, rfl, rfl, by simp, by simp, hs4x.below ((Below.refl _ _).alloc (Nat.le_refl _) _), (hb13.trans (hb4.mono hb13.size)).alloc (by have := hb13.size; omega) _⟩
    · go_wp2_with fail
      go_meet
      case rel => exact ⟨w3.heap.size, r4, rc4, rfl, rfl, World.cell?_setCell_same _ _ _ b4, by simp; omega, hs4x.store w3.heap.size 0 _ (by simp at hge4; omega), ((hb13.alloc hb13.size _).trans (hb4.mono (by have := hb13.size; simp; omega))).setCell (show w2.heap.size ≤ w3.heap.size from hb13.size) _⟩
    · go_wp2_with fail
      go_meet
      case rel => exact ⟨w2.heap.size, r4, rc4, rfl, rfl, World.cell?_setCell_same _ _ _ a4, by simp; omega, hs4x.store w2.heap.size 0 _ (by omega), (hb13.trans (hb4.mono hb13.size)).setCell (Nat.le_refl _) _⟩
  case rest =>
    obtain ⟨wz, rfl⟩ : ∃ wz, wz = wc := ⟨_, rfl⟩
    obtain ⟨X, r, rc, rfl, rfl, hX, hXl, hsx, hbc⟩ := hcut
    have kDc : wz.cell? ⟨D, 0, none⟩ = some (.slice (some ⟨g1, 0, none⟩) 128 c1) := (hbc.cell (p := ⟨D, 0, none⟩) hxD).trans kD
    have hxDc : D < wz.heap.size := by have := hbc.size; omega
    have HSX : Hid (Sl wz (some ⟨r, 0, none⟩) (blk 0 ++ blk 1) rc) := hsx
    have HSD : Hid (Sl wz (some ⟨g1, 0, none⟩) (List.replicate 128 0) c1) := HS2.out.below hbc
    have hbW : Below w.heap.size w wz := hb02.trans (hbc.mono hb02.size)
    have hr11 : ∀ W, Below wz.heap.size wz W → Calls Try.prog 23 #[.agg #[.slice (some ⟨r, 0, none⟩) 128 rc], .int .i64 1] W fun e w' => ∃ v', e = .returned (.tuple #[v', .int .i64 0]) ∧ Fresh w' W.heap.size v' (blk 1) ∧ Below W.heap.size W w' := by
      intro W hW
      have hs := HSX.out.below hW
      have h := read_any2 W W.heap.size (some ⟨r, 0, none⟩) (blk 0 ++ blk 1) rc hs.at_ hs.hl hs.hc (Nat.le_refl _) 1
      rw [hr1, rd11.1, rd11.2] at h
      exact h
    have hr02 : ∀ W, Below wz.heap.size wz W → Calls Try.prog 23 #[.agg #[.slice (some ⟨g1, 0, none⟩) 128 c1], .int .i64 2] W fun e w' => ∃ v', e = .returned (.tuple #[v', .int .i64 2]) ∧ Fresh w' W.heap.size v' [] ∧ Below W.heap.size W w' := by
      intro W hW
      have hs := HSD.out.below hW
      have h := read_any2 W W.heap.size (some ⟨g1, 0, none⟩) (List.replicate 128 0) c1 hs.at_ hs.hl hs.hc (Nat.le_refl _) 2
      rw [hrep, rd02.1, rd02.2] at h
      exact h
    have hlf : ∀ W po pc, Pl W po threeP pc → Calls Try.prog 24 #[.slice po 3 pc, .int .i64 2] W fun e w' => ∃ ro rc, e = .returned (.tuple #[.slice ro 1 rc, .int .i64 0]) ∧ Pl w' ro [⟨1, blk 1⟩] rc ∧ Below W.heap.size W w' := fun W po pc hp => left_sl W po threeP pc hp (by decide) (by intro p hp'; simp [threeP] at hp'; rcases hp' with rfl | rfl | rfl <;> simp [blk_len]) 2 0 [⟨1, blk 1⟩] lf3.1 lf3.2
    have hn0 := fun W => new_any 0 W
    rw [nw0.1, nw0.2.1] at hn0
    have hn1 := fun W => new_any 4097 W
    rw [nw0.2.2.1, nw0.2.2.2] at hn1
    have hth := fun W => three_any W
    have H11 : Hid (∀ W, Below wz.heap.size wz W → Calls Try.prog 23 #[.agg #[.slice (some ⟨r, 0, none⟩) 128 rc], .int .i64 1] W fun e w' => ∃ v', e = .returned (.tuple #[v', .int .i64 0]) ∧ Fresh w' W.heap.size v' (blk 1) ∧ Below W.heap.size W w') := hr11
    have H02 : Hid (∀ W, Below wz.heap.size wz W → Calls Try.prog 23 #[.agg #[.slice (some ⟨g1, 0, none⟩) 128 c1], .int .i64 2] W fun e w' => ∃ v', e = .returned (.tuple #[v', .int .i64 2]) ∧ Fresh w' W.heap.size v' [] ∧ Below W.heap.size W w') := hr02
    have HLF : Hid (∀ W po pc, Pl W po threeP pc → Calls Try.prog 24 #[.slice po 3 pc, .int .i64 2] W fun e w' => ∃ ro rc, e = .returned (.tuple #[.slice ro 1 rc, .int .i64 0]) ∧ Pl w' ro [⟨1, blk 1⟩] rc ∧ Below W.heap.size W w') := hlf
    clear hr11 hr02 hlf HWR kD hxD kD0 hx0 hbD az afz hsx
    go_wp2_with (first
      | (go_at_call 23; have hq := hmk1; refine (H02.out (w9a.alloc (Obj.cells #[Value.slice ao9 0 cp9] 48)) hbc9).mono ?_; rintro e w10 ⟨v10, rfl, ho10, hb10⟩; have F10 := F9b.below hb10; have P10 := P9b.below hb10; have kD10 := (hb10.cell (p := ⟨D, 0, none⟩) hx9).trans kD9; have hbc10 := hbc9.trans (hb10.mono hbc9.size); have hx10 : D < w10.heap.size := Nat.lt_of_lt_of_le hx9 hb10.size)
      | (go_at_call 19; have hq := hmk2; (fail_if_success have hq2 := hmk1); refine (hn1 (w8a.alloc (Obj.cells #[Value.slice ao8 0 cp8] 48))).mono ?_; rintro e w9a ⟨v9, rfl, ho9, hb9⟩; have F9 := F8b.below hb9; have P9 := P8b.below hb9; obtain ⟨ao9, cp9, hv9, -⟩ := ho9.sl; subst hv9; have kD9a := (hb9.cell (p := ⟨D, 0, none⟩) hx8).trans kD8; have hbc9a := hbc8.trans (hb9.mono hbc8.size); have hx9a : D < w9a.heap.size := Nat.lt_of_lt_of_le hx8 hb9.size; have kD9 : (w9a.alloc (Obj.cells #[Value.slice ao9 0 cp9] 48)).cell? ⟨D, 0, none⟩ = some (.slice (some ⟨g1, 0, none⟩) 128 c1) := (World.cell?_alloc_past _ _ _ hx9a).trans kD9a; have hbc9 : Below wz.heap.size wz (w9a.alloc (Obj.cells #[Value.slice ao9 0 cp9] 48)) := hbc9a.alloc hbc9a.size _; have hx9 : D < (w9a.alloc (Obj.cells #[Value.slice ao9 0 cp9] 48)).heap.size := (by simp; omega); have hmk1 := True.intro; have F9b := F9.below (w' := (w9a.alloc (Obj.cells #[Value.slice ao9 0 cp9] 48))) ((Below.refl _ _).alloc (Nat.le_refl _) _); have P9b := P9.below (w' := (w9a.alloc (Obj.cells #[Value.slice ao9 0 cp9] 48))) ((Below.refl _ _).alloc (Nat.le_refl _) _))
      | (go_at_call 19; (fail_if_success have hq := hmk2); refine (hn0 w7).mono ?_; rintro e w8a ⟨v8, rfl, ho8, hb8⟩; have F8 := (F7.below hb8).below (w' := w8a) (Below.refl _ _); have P8 := P7.below hb8; obtain ⟨ao8, cp8, hv8, -⟩ := ho8.sl; subst hv8; have kD8a := (hb8.cell (p := ⟨D, 0, none⟩) hx7).trans kD7; have hbc8a := hbc7.trans (hb8.mono hbc7.size); have hx8a : D < w8a.heap.size := Nat.lt_of_lt_of_le hx7 hb8.size; have kD8 : (w8a.alloc (Obj.cells #[Value.slice ao8 0 cp8] 48)).cell? ⟨D, 0, none⟩ = some (.slice (some ⟨g1, 0, none⟩) 128 c1) := (World.cell?_alloc_past _ _ _ hx8a).trans kD8a; have hbc8 : Below wz.heap.size wz (w8a.alloc (Obj.cells #[Value.slice ao8 0 cp8] 48)) := hbc8a.alloc hbc8a.size _; have hx8 : D < (w8a.alloc (Obj.cells #[Value.slice ao8 0 cp8] 48)).heap.size := (by simp; omega); have hmk2 := True.intro; have F8b := F8.below (w' := (w8a.alloc (Obj.cells #[Value.slice ao8 0 cp8] 48))) ((Below.refl _ _).alloc (Nat.le_refl _) _); have P8b := P8.below (w' := (w8a.alloc (Obj.cells #[Value.slice ao8 0 cp8] 48))) ((Below.refl _ _).alloc (Nat.le_refl _) _))
      | (go_at_call 24; refine (HLF.out w6 po6 pc6 hp6).mono ?_; rintro e w7 ⟨ro7, rc7, rfl, P7, hb7⟩; have F7 := F6.below hb7; have kD7 := (hb7.cell (p := ⟨D, 0, none⟩) hx6).trans kD6; have hbc7 := hbc6.trans (hb7.mono hbc6.size); have hx7 : D < w7.heap.size := Nat.lt_of_lt_of_le hx6 hb7.size)
      | (go_at_call 25; refine (hth w5).mono ?_; rintro e w6 ⟨v6, rfl, ho6, hb6⟩; have F6 := F5.below hb6; obtain ⟨po6, pc6, hv6, hp6⟩ := ho6.pl; subst hv6; have kD6 := (hb6.cell (p := ⟨D, 0, none⟩) hx5).trans kD5; have hbc6 := hbc5.trans (hb6.mono hbc5.size); have hx6 : D < w6.heap.size := Nat.lt_of_lt_of_le hx5 hb6.size)
      | (go_at_call 23; (fail_if_success have hq := hmk1); refine (H11.out wz (Below.refl _ _)).mono ?_; rintro e w5 ⟨v5, rfl, F5, hb5⟩; have kD5 := (hb5.cell (p := ⟨D, 0, none⟩) hxDc).trans kDc; have hbc5 := hb5; have hx5 : D < w5.heap.size := Nat.lt_of_lt_of_le hxDc hb5.size))
    have HW63 : Hid (∀ (W : World) (g : Nat), Below w10.heap.size w10 W → Sl W (some ⟨g, 0, none⟩) (blk 1) 64 → Calls Try.prog 21 #[.agg #[.slice (some ⟨g1, 0, none⟩) 128 c1], .int .i64 0, .slice (some ⟨g, 0, none⟩) 63 64] W fun e w' => ∃ ro rc, e = .returned (.tuple #[.agg #[.slice ro 0 rc], .int .i64 3]) ∧ Below W.heap.size W w') := by
      intro W g hb hs
      have h63 : Sl W (some ⟨g, 0, none⟩) (List.replicate 63 1) 64 := ⟨by decide, by omega, (by intro e; cases e), hs.at_.take 63⟩
      have h := write_any W (some ⟨g1, 0, none⟩) (List.replicate 128 0) c1 (HSD.out.below (hbc10.trans (hb.mono hbc10.size))) 0 (some ⟨g, 0, none⟩) (List.replicate 63 1) 64 h63 3 [] wr63.1 wr63.2
      have hl63 : (List.replicate 63 (1 : UInt8)).length = 63 := by decide
      simp only [hrep, hl63] at h
      refine h.mono ?_
      rintro e w' ⟨ro, rc, rfl, hf, hb'⟩
      exact ⟨ro, rc, rfl, hb'⟩
    have kD := kD10
    have hxD := hx10
    have kD0 : w10.drew.cell? ⟨D, 0, none⟩ = some (.slice (some ⟨g1, 0, none⟩) 128 c1) := kD
    have hx0 : D < w10.drew.heap.size := hxD
    have hbD : Below w10.heap.size w10 w10.drew := (Below.refl _ _).drew
    have az : (w10.drew.alloc (Obj.cells #[Value.slice none 0 0] 48)).cell? ⟨w10.heap.size, 0, none⟩ = some (.slice none 0 0) := (World.cell?_alloc_at (w := w10.drew) #[Value.slice none 0 0] 48 w10.heap.size 0 rfl).trans rfl
    have afz : (w10.drew.alloc (Obj.cells #[Value.slice none 0 0] 48)).frozen? ⟨w10.heap.size, 0, none⟩ = false := World.frozen?_alloc_at (w := w10.drew) #[Value.slice none 0 0] 48 w10.heap.size 0 rfl
    go_cut [17, 18] from 59 (fun s17 s18 wx => s18 = .int .i64 3 ∧ Below w10.heap.size w10 wx)
    case first =>
      go_region_held3 (fun W => W.cell? ⟨D, 0, none⟩ = some (.slice (some ⟨g1, 0, none⟩) 128 c1)) (first | exact kD0 | exact k3 | exact k4 | exact (World.cell?_alloc_past _ _ _ hx0).trans kD0 | exact (World.cell?_alloc_past _ _ _ hx3).trans k3 | exact (World.cell?_alloc_past _ _ _ hx4).trans k4 | exact ka5 | exact kb5 | exact kc5)
        (first
          | (go_at_call 21; have ha := a3; refine (HW63.out w3 g3 hb13 hs3).mono ?_; rintro e w4 ⟨ro4, rc4, rfl, hb4⟩; have k4 := (hb4.cell (p := ⟨D, 0, none⟩) hx3).trans k3; have hs4 := hb4.size; have hx4 : D < w4.heap.size := (by omega); have a4 := (hb4.cell (p := ⟨w10.heap.size, 0, none⟩) ax3).trans a3; have af4 := (hb4.frozen (p := ⟨w10.heap.size, 0, none⟩) ax3).trans af3; have ka5 : (w4.setCell ⟨w10.heap.size, 0, none⟩ (Value.slice ro4 0 rc4)).cell? ⟨D, 0, none⟩ = some (.slice (some ⟨g1, 0, none⟩) 128 c1) := (World.cell?_setCell_other _ _ _ _ (by first | (simp; done) | (simp; omega))).trans k4)
          | (go_at_call 21; refine (HW63.out (w3.alloc (Obj.cells #[Value.slice none 0 0] 48)) g3 (hb13.alloc hb13.size _) (hs3.below ((Below.refl _ _).alloc (Nat.le_refl _) _))).mono ?_; rintro e w4 ⟨ro4, rc4, rfl, hb4⟩; have k4 := (hb4.cell (p := ⟨D, 0, none⟩) (by first | (simp; done) | (simp; omega))).trans ((World.cell?_alloc_past _ _ _ hx3).trans k3); have hs4 := hb4.size; simp at hs4; have hx4 : D < w4.heap.size := (by omega); have b4 : w4.cell? ⟨w3.heap.size, 0, none⟩ = some (.slice none 0 0) := (hb4.cell (p := ⟨w3.heap.size, 0, none⟩) (by simp)).trans (by simp); have bf4 : w4.frozen? ⟨w3.heap.size, 0, none⟩ = false := (hb4.frozen (p := ⟨w3.heap.size, 0, none⟩) (by simp)).trans (by simp); have kb5 : (w4.setCell ⟨w3.heap.size, 0, none⟩ (Value.slice ro4 0 rc4)).cell? ⟨D, 0, none⟩ = some (.slice (some ⟨g1, 0, none⟩) 128 c1) := (World.cell?_setCell_other _ _ _ _ (by first | (simp; done) | (simp; omega))).trans k4)
          | (go_at_call 21; refine (HW63.out w3 g3 hb13 hs3).mono ?_; rintro e w4 ⟨ro4, rc4, rfl, hb4⟩; have k4 := (hb4.cell (p := ⟨D, 0, none⟩) hx3).trans k3; have hs4 := hb4.size; have hx4 : D < w4.heap.size := (by omega); have kc5 : (w4.alloc (Obj.cells #[Value.slice ro4 0 rc4] 48)).cell? ⟨D, 0, none⟩ = some (.slice (some ⟨g1, 0, none⟩) 128 c1) := (World.cell?_alloc_past _ _ _ hx4).trans k4)
          | (go_at_call 22; refine (all_sl 1 w10.drew).mono ?_; rintro e w3 ⟨g3, rfl, hs3, hb3⟩; have hb13 : Below w10.heap.size w10 w3 := hbD.trans hb3; have k3 := (hb3.cell (p := ⟨D, 0, none⟩) hx0).trans kD0; have hx3 : D < w3.heap.size := (by have h := hb13.size; omega))
          | (go_at_call 22; refine (all_sl 1 (w10.drew.alloc (Obj.cells #[Value.slice none 0 0] 48))).mono ?_; rintro e w3 ⟨g3, rfl, hs3, hb3⟩; have hb13 : Below w10.heap.size w10 w3 := (hbD.alloc (Nat.le_refl _) _).trans (hb3.mono (by first | (simp; done) | (simp; omega))); have k3 := (hb3.cell (p := ⟨D, 0, none⟩) (by first | (simp; done) | (simp; omega))).trans ((World.cell?_alloc_past _ _ _ hx0).trans kD0); have hx3 : D < w3.heap.size := (by have h := hb13.size; omega); have a3 : w3.cell? ⟨w10.heap.size, 0, none⟩ = some (.slice none 0 0) := (hb3.cell (p := ⟨w10.heap.size, 0, none⟩) (by first | (simp; done) | (simp; omega))).trans az; have af3 : w3.frozen? ⟨w10.heap.size, 0, none⟩ = false := (hb3.frozen (p := ⟨w10.heap.size, 0, none⟩) (by first | (simp; done) | (simp; omega))).trans afz; have ax3 : w10.heap.size < w3.heap.size := (by have h := hb3.size; simp at h; omega)))
      · go_wp2_with fail
        go_meet
        case rel => exact ⟨rfl, (hb13.trans (hb4.mono hb13.size)).alloc (by have := hb13.size; omega) _⟩
      · go_wp2_with fail
        go_meet
        case rel => exact ⟨rfl, ((hb13.alloc hb13.size _).trans (hb4.mono (by have := hb13.size; simp; omega))).setCell (show w10.heap.size ≤ w3.heap.size from hb13.size) _⟩
      · go_wp2_with fail
        go_meet
        case rel => exact ⟨rfl, (hb13.trans (hb4.mono hb13.size)).setCell (Nat.le_refl _) _⟩
    case rest =>
      obtain ⟨rfl, hb11⟩ := hcut
      have hbcC : Below wz.heap.size wz wc := hbc10.trans (hb11.mono hbc10.size)
      have F11 := F10.below hb11
      have P11 := P10.below hb11
      have kDC := (hb11.cell (p := ⟨D, 0, none⟩) hx10).trans kD10
      have hxC : D < wc.heap.size := Nat.lt_of_lt_of_le hx10 hb11.size
      have hdo := do_sl wc (some ⟨g1, 0, none⟩) (List.replicate 128 0) c1 (HSD.out.below hbcC) none [] 0 ⟨by simp, by omega, fun _ => rfl, .inl rfl⟩ 1 2 [] dn1.1 dn1.2
      rw [hrep] at hdo
      clear HW63 H11 H02 HLF hn0 hn1 hth az afz kD0 hx0 hbD
      obtain ⟨wy, rfl⟩ : ∃ wy, wy = wc := ⟨_, rfl⟩
      go_upto_region 10 with fail
      go_cut [19, 20] from 21 (fun s19 s20 wx => s20 = .int .i64 2 ∧ Below wy.heap.size wy wx)
      case first =>
        go_wp2_with (go_at_call 26; refine hdo.mono ?_; rintro e w12 ⟨ro12, rc12, rfl, -, hb12⟩)
        go_meet
        case rel => exact ⟨rfl, hb12.alloc hb12.size _⟩
      case rest =>
      obtain ⟨rfl, hbE⟩ := hcut
      obtain ⟨wf, rfl⟩ : ∃ wf, wf = wc := ⟨_, rfl⟩
      go_upto_region 11 with fail
      have Ff := F11.below hbE
      have Pf := P11.below hbE
      have hbf : Below wz.heap.size wz wf := hbcC.trans (hbE.mono hbcC.size)
      have LD : ∀ W, Below wf.heap.size wf W → W.cell? ⟨D, 0, none⟩ = some (.slice (some ⟨g1, 0, none⟩) 128 c1) := fun W hW => ((hbf.trans (hW.mono hbf.size)).cell (p := ⟨D, 0, none⟩) hxDc).trans kDc
      have LX : ∀ W, Below wf.heap.size wf W → W.cell? ⟨X, 0, none⟩ = some (.slice (some ⟨r, 0, none⟩) 128 rc) := fun W hW => ((hbf.trans (hW.mono hbf.size)).cell (p := ⟨X, 0, none⟩) hXl).trans hX
      have q5 := Ff.conv
      have hbWf : Below w.heap.size w wf := hbW.trans (hbf.mono hbW.size)
      have h20 := fun W => check_any none 0 0 W (by omega)
      rw [mn2.2.2] at h20
      have hsm : ∀ W, Below wf.heap.size wf W → Calls Try.prog 30 #[.agg #[.slice (some ⟨g1, 0, none⟩) 128 c1], .agg #[.slice (some ⟨r, 0, none⟩) 128 rc]] W fun e w' => e = .returned (.bool false) ∧ Below W.heap.size W w' := by
        intro W hW
        have hb := hbf.trans (hW.mono hbf.size)
        have h := dsame_sl W _ _ _ _ _ _ (HSD.out.below hb) (HSX.out.below hb)
        rw [hrep, hr1, ne01] at h
        exact h
      have hsd : ∀ W, Below wf.heap.size wf W → Calls Try.prog 30 #[.agg #[.slice (some ⟨g1, 0, none⟩) 128 c1], .agg #[.slice (some ⟨g1, 0, none⟩) 128 c1]] W fun e w' => e = .returned (.bool true) ∧ Below W.heap.size W w' := by
        intro W hW
        have hb := hbf.trans (hW.mono hbf.size)
        have h := dsame_sl W _ _ _ _ _ _ (HSD.out.below hb) (HSD.out.below hb)
        rw [hrep, beq_self_eq_true] at h
        exact h
      clear hdo hb11 hbcC F11 P11 kDC hxC hbE Ff hbf F5 F6 F7 F8 F8b F9 F9b F10 P7 P8 P8b P9 P9b P10 kD5 kD6 kD7 kD8 kD8a kD9 kD9a kD10 hx5 hx6 hx7 hx8 hx8a hx9 hx9a hx10 hbc5 hbc6 hbc7 hbc8 hbc8a hbc9 hbc9a hbc10 hb5 hb6 hb7 hb8 hb9 hb10 ho6 hp6 ho8 ho9 ho10 hbW hbc HSD HSX HS2 hmk1 hmk2 kDc hxDc hX hXl hb02 hrep hr1 kD hxD
      refine wp_region_noPanic ?_
      refine wp_region_held_drew (S := fun W => Below wf.heap.size wf W) (by kernel_rfl) ((Below.refl _ _).drew) (fun _ => ?_)
      refine wpAnyH_take (i := 0) (v := .bool true) rfl (by kernel_rfl) (by kernel_rfl) (by kernel_rfl) (fun _ _ _ h => h) (Or.inl ⟨by kernel_rfl, fun W hW => by kernel_rfl⟩) ((Below.refl _ _).drew) ?_
      try simp only [List.getElem_toArray, List.getElem_cons_zero, List.getElem_cons_succ, Act.put, List.setIfInBounds_toArray, List.set_cons_zero, List.set_cons_succ]
      refine wpAnyH_ready (rs := [1]) (by kernel_rfl) (by simp) ?_
      refine AllReadyH.cons rfl (fun K hK => ?_) AllReadyH.nil
      simp only [List.getElem_toArray, List.getElem_cons_zero, List.getElem_cons_succ]
      go_simp
      refine (dalive_any _).mono ?_; rintro e wA ⟨rfl, hbwA⟩; have kwA : Below wf.heap.size wf wA := ((Below.refl _ _).drew).trans hbwA
      refine hK.out _ _ kwA (fun _ => ?_)
      clear hK K
      try simp only [List.getElem_toArray, List.getElem_cons_zero, List.getElem_cons_succ, Act.put, List.setIfInBounds_toArray, List.set_cons_zero, List.set_cons_succ]
      refine anyH_mono (S' := fun W => Below wA.heap.size wA W) (fun W hW => kwA.trans (hW.mono kwA.size)) _ _ _ _ ?_
      refine wpAnyH_take (i := 2) (v := .bool true) rfl (by kernel_rfl) (by kernel_rfl) (by kernel_rfl) (fun _ _ _ h => h) (Or.inl ⟨by kernel_rfl, fun W hW => by kernel_rfl⟩) (Below.refl _ _) ?_
      try simp only [List.getElem_toArray, List.getElem_cons_zero, List.getElem_cons_succ, Act.put, List.setIfInBounds_toArray, List.set_cons_zero, List.set_cons_succ]
      refine wpAnyH_take (i := 3) (v := .bool true) rfl (by kernel_rfl) (by kernel_rfl) (by kernel_rfl) (fun _ _ _ h => h) (Or.inl ⟨by kernel_rfl, fun W hW => by kernel_rfl⟩) (Below.refl _ _) ?_
      try simp only [List.getElem_toArray, List.getElem_cons_zero, List.getElem_cons_succ, Act.put, List.setIfInBounds_toArray, List.set_cons_zero, List.set_cons_succ]
      refine wpAnyH_take (i := 4) (v := .int .i64 2) rfl (by kernel_rfl) (by kernel_rfl) (by kernel_rfl) (fun _ _ _ h => h) (Or.inl ⟨by kernel_rfl, fun W hW => by kernel_rfl⟩) (Below.refl _ _) ?_
      try simp only [List.getElem_toArray, List.getElem_cons_zero, List.getElem_cons_succ, Act.put, List.setIfInBounds_toArray, List.set_cons_zero, List.set_cons_succ]
      refine wpAnyH_take (i := 5) (v := .bool true) rfl (by kernel_rfl) (by kernel_rfl) (by kernel_rfl) (fun _ _ _ h => h) (Or.inl ⟨by kernel_rfl, fun W hW => by go_simp⟩) (Below.refl _ _) ?_
      try simp only [List.getElem_toArray, List.getElem_cons_zero, List.getElem_cons_succ, Act.put, List.setIfInBounds_toArray, List.set_cons_zero, List.set_cons_succ]
      refine wpAnyH_take (i := 6) (v := .bool true) rfl (by kernel_rfl) (by kernel_rfl) (by kernel_rfl) (fun _ _ _ h => h) (Or.inl ⟨by kernel_rfl, fun W hW => by kernel_rfl⟩) (Below.refl _ _) ?_
      try simp only [List.getElem_toArray, List.getElem_cons_zero, List.getElem_cons_succ, Act.put, List.setIfInBounds_toArray, List.set_cons_zero, List.set_cons_succ]
      refine wpAnyH_take (i := 7) (v := .bool true) rfl (by kernel_rfl) (by kernel_rfl) (by kernel_rfl) (fun _ _ _ h => h) (Or.inl ⟨by kernel_rfl, fun W hW => by kernel_rfl⟩) (Below.refl _ _) ?_
      try simp only [List.getElem_toArray, List.getElem_cons_zero, List.getElem_cons_succ, Act.put, List.setIfInBounds_toArray, List.set_cons_zero, List.set_cons_succ]
      refine wpAnyH_take (i := 8) (v := .int .i64 0) rfl (by kernel_rfl) (by kernel_rfl) (by kernel_rfl) (fun _ _ _ h => h) (Or.inl ⟨by kernel_rfl, fun W hW => by kernel_rfl⟩) (Below.refl _ _) ?_
      try simp only [List.getElem_toArray, List.getElem_cons_zero, List.getElem_cons_succ, Act.put, List.setIfInBounds_toArray, List.set_cons_zero, List.set_cons_succ]
      refine wpAnyH_take (i := 9) (v := .bool true) rfl (by kernel_rfl) (by kernel_rfl) (by kernel_rfl) (fun _ _ _ h => h) (Or.inl ⟨by kernel_rfl, fun W hW => by go_simp⟩) (Below.refl _ _) ?_
      try simp only [List.getElem_toArray, List.getElem_cons_zero, List.getElem_cons_succ, Act.put, List.setIfInBounds_toArray, List.set_cons_zero, List.set_cons_succ]
      refine wpAnyH_take (i := 10) (v := .bool true) rfl (by kernel_rfl) (by kernel_rfl) (by kernel_rfl) (fun _ _ _ h => h) (Or.inl ⟨by kernel_rfl, fun W hW => by kernel_rfl⟩) (Below.refl _ _) ?_
      try simp only [List.getElem_toArray, List.getElem_cons_zero, List.getElem_cons_succ, Act.put, List.setIfInBounds_toArray, List.set_cons_zero, List.set_cons_succ]
      refine wpAnyH_take (i := 11) (v := .bool true) rfl (by kernel_rfl) (by kernel_rfl) (by kernel_rfl) (fun _ _ _ h => h) (Or.inl ⟨by kernel_rfl, fun W hW => by kernel_rfl⟩) (Below.refl _ _) ?_
      try simp only [List.getElem_toArray, List.getElem_cons_zero, List.getElem_cons_succ, Act.put, List.setIfInBounds_toArray, List.set_cons_zero, List.set_cons_succ]
      refine wpAnyH_take (i := 12) (v := .int .i64 0) rfl (by kernel_rfl) (by kernel_rfl) (by kernel_rfl) (fun _ _ _ h => h) (Or.inl ⟨by kernel_rfl, fun W hW => by kernel_rfl⟩) (Below.refl _ _) ?_
      try simp only [List.getElem_toArray, List.getElem_cons_zero, List.getElem_cons_succ, Act.put, List.setIfInBounds_toArray, List.set_cons_zero, List.set_cons_succ]
      refine wpAnyH_take (i := 13) (v := .bool true) rfl (by kernel_rfl) (by kernel_rfl) (by kernel_rfl) (fun _ _ _ h => h) (Or.inl ⟨by kernel_rfl, fun W hW => by go_simp⟩) (Below.refl _ _) ?_
      try simp only [List.getElem_toArray, List.getElem_cons_zero, List.getElem_cons_succ, Act.put, List.setIfInBounds_toArray, List.set_cons_zero, List.set_cons_succ]
      refine wpAnyH_take (i := 14) (v := .bool true) rfl (by kernel_rfl) (by kernel_rfl) (by kernel_rfl) (fun _ _ _ h => h) (Or.inl ⟨by kernel_rfl, fun W hW => by kernel_rfl⟩) (Below.refl _ _) ?_
      try simp only [List.getElem_toArray, List.getElem_cons_zero, List.getElem_cons_succ, Act.put, List.setIfInBounds_toArray, List.set_cons_zero, List.set_cons_succ]
      refine wpAnyH_take (i := 15) (v := .bool true) rfl (by kernel_rfl) (by kernel_rfl) (by kernel_rfl) (fun _ _ _ h => h) (Or.inl ⟨by kernel_rfl, fun W hW => by kernel_rfl⟩) (Below.refl _ _) ?_
      try simp only [List.getElem_toArray, List.getElem_cons_zero, List.getElem_cons_succ, Act.put, List.setIfInBounds_toArray, List.set_cons_zero, List.set_cons_succ]
      refine wpAnyH_take (i := 16) (v := .int .i64 0) rfl (by kernel_rfl) (by kernel_rfl) (by kernel_rfl) (fun _ _ _ h => h) (Or.inl ⟨by kernel_rfl, fun W hW => by kernel_rfl⟩) (Below.refl _ _) ?_
      try simp only [List.getElem_toArray, List.getElem_cons_zero, List.getElem_cons_succ, Act.put, List.setIfInBounds_toArray, List.set_cons_zero, List.set_cons_succ]
      refine wpAnyH_take (i := 17) (v := .bool true) rfl (by kernel_rfl) (by kernel_rfl) (by kernel_rfl) (fun _ _ _ h => h) (Or.inl ⟨by kernel_rfl, fun W hW => by go_simp⟩) (Below.refl _ _) ?_
      try simp only [List.getElem_toArray, List.getElem_cons_zero, List.getElem_cons_succ, Act.put, List.setIfInBounds_toArray, List.set_cons_zero, List.set_cons_succ]
      refine wpAnyH_take (i := 18) (v := .bool true) rfl (by kernel_rfl) (by kernel_rfl) (by kernel_rfl) (fun _ _ _ h => h) (Or.inl ⟨by kernel_rfl, fun W hW => by kernel_rfl⟩) (Below.refl _ _) ?_
      try simp only [List.getElem_toArray, List.getElem_cons_zero, List.getElem_cons_succ, Act.put, List.setIfInBounds_toArray, List.set_cons_zero, List.set_cons_succ]
      refine wpAnyH_take (i := 19) (v := .bool true) rfl (by kernel_rfl) (by kernel_rfl) (by kernel_rfl) (fun _ _ _ h => h) (Or.inl ⟨by kernel_rfl, fun W hW => by kernel_rfl⟩) (Below.refl _ _) ?_
      try simp only [List.getElem_toArray, List.getElem_cons_zero, List.getElem_cons_succ, Act.put, List.setIfInBounds_toArray, List.set_cons_zero, List.set_cons_succ]
      refine wpAnyH_take (i := 20) (v := v5) rfl (by kernel_rfl) (by kernel_rfl) (by kernel_rfl) (fun _ _ _ h => h) (Or.inl ⟨by kernel_rfl, fun W hW => by kernel_rfl⟩) (Below.refl _ _) ?_
      try simp only [List.getElem_toArray, List.getElem_cons_zero, List.getElem_cons_succ, Act.put, List.setIfInBounds_toArray, List.set_cons_zero, List.set_cons_succ]
      refine wpAnyH_take (i := 21) (v := .string ⟨(blk 1).toArray⟩) rfl (by kernel_rfl) (by kernel_rfl) (by kernel_rfl) (fun _ _ _ h => h) (Or.inl ⟨by kernel_rfl, fun W hW => by have hq := q5 W (kwA.trans (hW.mono kwA.size)); go_simp⟩) (Below.refl _ _) ?_
      try simp only [List.getElem_toArray, List.getElem_cons_zero, List.getElem_cons_succ, Act.put, List.setIfInBounds_toArray, List.set_cons_zero, List.set_cons_succ]
      refine wpAnyH_ready (rs := [22]) (by kernel_rfl) (by simp) ?_
      refine AllReadyH.cons rfl (fun K hK => ?_) AllReadyH.nil
      simp only [List.getElem_toArray, List.getElem_cons_zero, List.getElem_cons_succ]
      go_simp
      refine (all_sl 1 _).mono ?_; rintro e wB ⟨gB, rfl, hsB, hbwB⟩; have qB := hsB.conv (by decide : (blk 1).length = 64); have kwB : Below wf.heap.size wf wB := kwA.trans (hbwB.mono kwA.size)
      refine hK.out _ _ hbwB (fun _ => ?_)
      clear hK K
      try simp only [List.getElem_toArray, List.getElem_cons_zero, List.getElem_cons_succ, Act.put, List.setIfInBounds_toArray, List.set_cons_zero, List.set_cons_succ]
      refine anyH_mono (S' := fun W => Below wB.heap.size wB W) (fun W hW => hbwB.trans (hW.mono hbwB.size)) _ _ _ _ ?_
      refine wpAnyH_take (i := 23) (v := .string ⟨(blk 1).toArray⟩) rfl (by kernel_rfl) (by kernel_rfl) (by kernel_rfl) (fun _ _ _ h => h) (Or.inl ⟨by kernel_rfl, fun W hW => by have hq := qB W hW; go_simp⟩) (Below.refl _ _) ?_
      try simp only [List.getElem_toArray, List.getElem_cons_zero, List.getElem_cons_succ, Act.put, List.setIfInBounds_toArray, List.set_cons_zero, List.set_cons_succ]
      refine wpAnyH_take (i := 24) (v := .bool true) rfl (by kernel_rfl) (by kernel_rfl) (by kernel_rfl) (fun _ _ _ h => h) (Or.inl ⟨by kernel_rfl, fun W hW => by go_simp⟩) (Below.refl _ _) ?_
      try simp only [List.getElem_toArray, List.getElem_cons_zero, List.getElem_cons_succ, Act.put, List.setIfInBounds_toArray, List.set_cons_zero, List.set_cons_succ]
      refine wpAnyH_take (i := 25) (v := .bool true) rfl (by kernel_rfl) (by kernel_rfl) (by kernel_rfl) (fun _ _ _ h => h) (Or.inl ⟨by kernel_rfl, fun W hW => by kernel_rfl⟩) (Below.refl _ _) ?_
      try simp only [List.getElem_toArray, List.getElem_cons_zero, List.getElem_cons_succ, Act.put, List.setIfInBounds_toArray, List.set_cons_zero, List.set_cons_succ]
      refine wpAnyH_take (i := 26) (v := .bool true) rfl (by kernel_rfl) (by kernel_rfl) (by kernel_rfl) (fun _ _ _ h => h) (Or.inl ⟨by kernel_rfl, fun W hW => by kernel_rfl⟩) (Below.refl _ _) ?_
      try simp only [List.getElem_toArray, List.getElem_cons_zero, List.getElem_cons_succ, Act.put, List.setIfInBounds_toArray, List.set_cons_zero, List.set_cons_succ]
      refine wpAnyH_take (i := 27) (v := .int .i64 0) rfl (by kernel_rfl) (by kernel_rfl) (by kernel_rfl) (fun _ _ _ h => h) (Or.inl ⟨by kernel_rfl, fun W hW => by kernel_rfl⟩) (Below.refl _ _) ?_
      try simp only [List.getElem_toArray, List.getElem_cons_zero, List.getElem_cons_succ, Act.put, List.setIfInBounds_toArray, List.set_cons_zero, List.set_cons_succ]
      refine wpAnyH_take (i := 28) (v := .bool true) rfl (by kernel_rfl) (by kernel_rfl) (by kernel_rfl) (fun _ _ _ h => h) (Or.inl ⟨by kernel_rfl, fun W hW => by go_simp⟩) (Below.refl _ _) ?_
      try simp only [List.getElem_toArray, List.getElem_cons_zero, List.getElem_cons_succ, Act.put, List.setIfInBounds_toArray, List.set_cons_zero, List.set_cons_succ]
      refine wpAnyH_take (i := 29) (v := .bool true) rfl (by kernel_rfl) (by kernel_rfl) (by kernel_rfl) (fun _ _ _ h => h) (Or.inl ⟨by kernel_rfl, fun W hW => by kernel_rfl⟩) (Below.refl _ _) ?_
      try simp only [List.getElem_toArray, List.getElem_cons_zero, List.getElem_cons_succ, Act.put, List.setIfInBounds_toArray, List.set_cons_zero, List.set_cons_succ]
      refine wpAnyH_take (i := 30) (v := .bool true) rfl (by kernel_rfl) (by kernel_rfl) (by kernel_rfl) (fun _ _ _ h => h) (Or.inl ⟨by kernel_rfl, fun W hW => by kernel_rfl⟩) (Below.refl _ _) ?_
      try simp only [List.getElem_toArray, List.getElem_cons_zero, List.getElem_cons_succ, Act.put, List.setIfInBounds_toArray, List.set_cons_zero, List.set_cons_succ]
      refine wpAnyH_take (i := 31) (v := .slice ro7 1 rc7) rfl (by kernel_rfl) (by kernel_rfl) (by kernel_rfl) (fun _ _ _ h => h) (Or.inl ⟨by kernel_rfl, fun W hW => by kernel_rfl⟩) (Below.refl _ _) ?_
      try simp only [List.getElem_toArray, List.getElem_cons_zero, List.getElem_cons_succ, Act.put, List.setIfInBounds_toArray, List.set_cons_zero, List.set_cons_succ]
      refine wpAnyH_ready (rs := [32]) (by kernel_rfl) (by simp) ?_
      refine AllReadyH.cons rfl (fun K hK => ?_) AllReadyH.nil
      simp only [List.getElem_toArray, List.getElem_cons_zero, List.getElem_cons_succ]
      go_simp
      refine (three_sl _).mono ?_; rintro e wC ⟨gC, rfl, hpC, hbwC⟩; have kwC : Below wf.heap.size wf wC := kwB.trans (hbwC.mono kwB.size)
      refine hK.out _ _ hbwC (fun _ => ?_)
      clear hK K
      try simp only [List.getElem_toArray, List.getElem_cons_zero, List.getElem_cons_succ, Act.put, List.setIfInBounds_toArray, List.set_cons_zero, List.set_cons_succ]
      refine anyH_mono (S' := fun W => Below wC.heap.size wC W) (fun W hW => hbwC.trans (hW.mono hbwC.size)) _ _ _ _ ?_
      refine wpAnyH_take (i := 33) (v := .slice (some ⟨gC, 4, none⟩) 1 1) rfl (by kernel_rfl) (by kernel_rfl) (by kernel_rfl) (fun _ _ _ h => h) (Or.inl ⟨by kernel_rfl, fun W hW => by go_simp⟩) (Below.refl _ _) ?_
      try simp only [List.getElem_toArray, List.getElem_cons_zero, List.getElem_cons_succ, Act.put, List.setIfInBounds_toArray, List.set_cons_zero, List.set_cons_succ]
      refine wpAnyH_ready (rs := [34]) (by kernel_rfl) (by simp) ?_
      refine AllReadyH.cons rfl (fun K hK => ?_) AllReadyH.nil
      simp only [List.getElem_toArray, List.getElem_cons_zero, List.getElem_cons_succ]
      go_simp
      refine (samePuts_sl _ ro7 (some ⟨gC, 4, none⟩) [⟨1, blk 1⟩] rc7 1 (Pf.below kwC) hpC).mono ?_; rintro e wD ⟨rfl, hbwD⟩; have kwD : Below wf.heap.size wf wD := kwC.trans (hbwD.mono kwC.size)
      refine hK.out _ _ hbwD (fun _ => ?_)
      clear hK K
      try simp only [List.getElem_toArray, List.getElem_cons_zero, List.getElem_cons_succ, Act.put, List.setIfInBounds_toArray, List.set_cons_zero, List.set_cons_succ]
      refine anyH_mono (S' := fun W => Below wD.heap.size wD W) (fun W hW => hbwD.trans (hW.mono hbwD.size)) _ _ _ _ ?_
      refine wpAnyH_take (i := 35) (v := .bool true) rfl (by kernel_rfl) (by kernel_rfl) (by kernel_rfl) (fun _ _ _ h => h) (Or.inl ⟨by kernel_rfl, fun W hW => by kernel_rfl⟩) (Below.refl _ _) ?_
      try simp only [List.getElem_toArray, List.getElem_cons_zero, List.getElem_cons_succ, Act.put, List.setIfInBounds_toArray, List.set_cons_zero, List.set_cons_succ]
      refine wpAnyH_take (i := 36) (v := .bool true) rfl (by kernel_rfl) (by kernel_rfl) (by kernel_rfl) (fun _ _ _ h => h) (Or.inl ⟨by kernel_rfl, fun W hW => by kernel_rfl⟩) (Below.refl _ _) ?_
      try simp only [List.getElem_toArray, List.getElem_cons_zero, List.getElem_cons_succ, Act.put, List.setIfInBounds_toArray, List.set_cons_zero, List.set_cons_succ]
      refine wpAnyH_take (i := 37) (v := .int .i64 20) rfl (by kernel_rfl) (by kernel_rfl) (by kernel_rfl) (fun _ _ _ h => h) (Or.inl ⟨by kernel_rfl, fun W hW => by kernel_rfl⟩) (Below.refl _ _) ?_
      try simp only [List.getElem_toArray, List.getElem_cons_zero, List.getElem_cons_succ, Act.put, List.setIfInBounds_toArray, List.set_cons_zero, List.set_cons_succ]
      refine wpAnyH_take (i := 38) (v := .bool true) rfl (by kernel_rfl) (by kernel_rfl) (by kernel_rfl) (fun _ _ _ h => h) (Or.inl ⟨by kernel_rfl, fun W hW => by go_simp⟩) (Below.refl _ _) ?_
      try simp only [List.getElem_toArray, List.getElem_cons_zero, List.getElem_cons_succ, Act.put, List.setIfInBounds_toArray, List.set_cons_zero, List.set_cons_succ]
      refine wpAnyH_take (i := 39) (v := .bool true) rfl (by kernel_rfl) (by kernel_rfl) (by kernel_rfl) (fun _ _ _ h => h) (Or.inl ⟨by kernel_rfl, fun W hW => by kernel_rfl⟩) (Below.refl _ _) ?_
      try simp only [List.getElem_toArray, List.getElem_cons_zero, List.getElem_cons_succ, Act.put, List.setIfInBounds_toArray, List.set_cons_zero, List.set_cons_succ]
      refine wpAnyH_take (i := 40) (v := .bool true) rfl (by kernel_rfl) (by kernel_rfl) (by kernel_rfl) (fun _ _ _ h => h) (Or.inl ⟨by kernel_rfl, fun W hW => by kernel_rfl⟩) (Below.refl _ _) ?_
      try simp only [List.getElem_toArray, List.getElem_cons_zero, List.getElem_cons_succ, Act.put, List.setIfInBounds_toArray, List.set_cons_zero, List.set_cons_succ]
      refine wpAnyH_take (i := 41) (v := .int .i64 20) rfl (by kernel_rfl) (by kernel_rfl) (by kernel_rfl) (fun _ _ _ h => h) (Or.inl ⟨by kernel_rfl, fun W hW => by kernel_rfl⟩) (Below.refl _ _) ?_
      try simp only [List.getElem_toArray, List.getElem_cons_zero, List.getElem_cons_succ, Act.put, List.setIfInBounds_toArray, List.set_cons_zero, List.set_cons_succ]
      refine wpAnyH_take (i := 42) (v := .bool true) rfl (by kernel_rfl) (by kernel_rfl) (by kernel_rfl) (fun _ _ _ h => h) (Or.inl ⟨by kernel_rfl, fun W hW => by go_simp⟩) (Below.refl _ _) ?_
      try simp only [List.getElem_toArray, List.getElem_cons_zero, List.getElem_cons_succ, Act.put, List.setIfInBounds_toArray, List.set_cons_zero, List.set_cons_succ]
      refine wpAnyH_take (i := 43) (v := .bool true) rfl (by kernel_rfl) (by kernel_rfl) (by kernel_rfl) (fun _ _ _ h => h) (Or.inl ⟨by kernel_rfl, fun W hW => by kernel_rfl⟩) (Below.refl _ _) ?_
      try simp only [List.getElem_toArray, List.getElem_cons_zero, List.getElem_cons_succ, Act.put, List.setIfInBounds_toArray, List.set_cons_zero, List.set_cons_succ]
      refine wpAnyH_take (i := 44) (v := .bool true) rfl (by kernel_rfl) (by kernel_rfl) (by kernel_rfl) (fun _ _ _ h => h) (Or.inl ⟨by kernel_rfl, fun W hW => by kernel_rfl⟩) (Below.refl _ _) ?_
      try simp only [List.getElem_toArray, List.getElem_cons_zero, List.getElem_cons_succ, Act.put, List.setIfInBounds_toArray, List.set_cons_zero, List.set_cons_succ]
      refine wpAnyH_take (i := 45) (v := .int .i64 2) rfl (by kernel_rfl) (by kernel_rfl) (by kernel_rfl) (fun _ _ _ h => h) (Or.inl ⟨by kernel_rfl, fun W hW => by kernel_rfl⟩) (Below.refl _ _) ?_
      try simp only [List.getElem_toArray, List.getElem_cons_zero, List.getElem_cons_succ, Act.put, List.setIfInBounds_toArray, List.set_cons_zero, List.set_cons_succ]
      refine wpAnyH_take (i := 46) (v := .bool true) rfl (by kernel_rfl) (by kernel_rfl) (by kernel_rfl) (fun _ _ _ h => h) (Or.inl ⟨by kernel_rfl, fun W hW => by go_simp⟩) (Below.refl _ _) ?_
      try simp only [List.getElem_toArray, List.getElem_cons_zero, List.getElem_cons_succ, Act.put, List.setIfInBounds_toArray, List.set_cons_zero, List.set_cons_succ]
      refine wpAnyH_take (i := 47) (v := .bool true) rfl (by kernel_rfl) (by kernel_rfl) (by kernel_rfl) (fun _ _ _ h => h) (Or.inl ⟨by kernel_rfl, fun W hW => by kernel_rfl⟩) (Below.refl _ _) ?_
      try simp only [List.getElem_toArray, List.getElem_cons_zero, List.getElem_cons_succ, Act.put, List.setIfInBounds_toArray, List.set_cons_zero, List.set_cons_succ]
      refine wpAnyH_take (i := 48) (v := .bool true) rfl (by kernel_rfl) (by kernel_rfl) (by kernel_rfl) (fun _ _ _ h => h) (Or.inl ⟨by kernel_rfl, fun W hW => by kernel_rfl⟩) (Below.refl _ _) ?_
      try simp only [List.getElem_toArray, List.getElem_cons_zero, List.getElem_cons_succ, Act.put, List.setIfInBounds_toArray, List.set_cons_zero, List.set_cons_succ]
      refine wpAnyH_take (i := 49) (v := .int .i64 3) rfl (by kernel_rfl) (by kernel_rfl) (by kernel_rfl) (fun _ _ _ h => h) (Or.inl ⟨by kernel_rfl, fun W hW => by kernel_rfl⟩) (Below.refl _ _) ?_
      try simp only [List.getElem_toArray, List.getElem_cons_zero, List.getElem_cons_succ, Act.put, List.setIfInBounds_toArray, List.set_cons_zero, List.set_cons_succ]
      refine wpAnyH_take (i := 50) (v := .bool true) rfl (by kernel_rfl) (by kernel_rfl) (by kernel_rfl) (fun _ _ _ h => h) (Or.inl ⟨by kernel_rfl, fun W hW => by go_simp⟩) (Below.refl _ _) ?_
      try simp only [List.getElem_toArray, List.getElem_cons_zero, List.getElem_cons_succ, Act.put, List.setIfInBounds_toArray, List.set_cons_zero, List.set_cons_succ]
      refine wpAnyH_take (i := 51) (v := .bool true) rfl (by kernel_rfl) (by kernel_rfl) (by kernel_rfl) (fun _ _ _ h => h) (Or.inl ⟨by kernel_rfl, fun W hW => by kernel_rfl⟩) (Below.refl _ _) ?_
      try simp only [List.getElem_toArray, List.getElem_cons_zero, List.getElem_cons_succ, Act.put, List.setIfInBounds_toArray, List.set_cons_zero, List.set_cons_succ]
      refine wpAnyH_take (i := 52) (v := .bool true) rfl (by kernel_rfl) (by kernel_rfl) (by kernel_rfl) (fun _ _ _ h => h) (Or.inl ⟨by kernel_rfl, fun W hW => by kernel_rfl⟩) (Below.refl _ _) ?_
      try simp only [List.getElem_toArray, List.getElem_cons_zero, List.getElem_cons_succ, Act.put, List.setIfInBounds_toArray, List.set_cons_zero, List.set_cons_succ]
      refine wpAnyH_take (i := 53) (v := .int .i64 2) rfl (by kernel_rfl) (by kernel_rfl) (by kernel_rfl) (fun _ _ _ h => h) (Or.inl ⟨by kernel_rfl, fun W hW => by kernel_rfl⟩) (Below.refl _ _) ?_
      try simp only [List.getElem_toArray, List.getElem_cons_zero, List.getElem_cons_succ, Act.put, List.setIfInBounds_toArray, List.set_cons_zero, List.set_cons_succ]
      refine wpAnyH_take (i := 54) (v := .bool true) rfl (by kernel_rfl) (by kernel_rfl) (by kernel_rfl) (fun _ _ _ h => h) (Or.inl ⟨by kernel_rfl, fun W hW => by go_simp⟩) (Below.refl _ _) ?_
      try simp only [List.getElem_toArray, List.getElem_cons_zero, List.getElem_cons_succ, Act.put, List.setIfInBounds_toArray, List.set_cons_zero, List.set_cons_succ]
      refine wpAnyH_take (i := 55) (v := .bool true) rfl (by kernel_rfl) (by kernel_rfl) (by kernel_rfl) (fun _ _ _ h => h) (Or.inl ⟨by kernel_rfl, fun W hW => by kernel_rfl⟩) (Below.refl _ _) ?_
      try simp only [List.getElem_toArray, List.getElem_cons_zero, List.getElem_cons_succ, Act.put, List.setIfInBounds_toArray, List.set_cons_zero, List.set_cons_succ]
      refine wpAnyH_take (i := 56) (v := .bool true) rfl (by kernel_rfl) (by kernel_rfl) (by kernel_rfl) (fun _ _ _ h => h) (Or.inl ⟨by kernel_rfl, fun W hW => by kernel_rfl⟩) (Below.refl _ _) ?_
      try simp only [List.getElem_toArray, List.getElem_cons_zero, List.getElem_cons_succ, Act.put, List.setIfInBounds_toArray, List.set_cons_zero, List.set_cons_succ]
      refine wpAnyH_take (i := 57) (v := .agg #[.slice none 0 0]) rfl (by kernel_rfl) (by kernel_rfl) (by kernel_rfl) (fun _ _ _ h => h) (Or.inl ⟨by kernel_rfl, fun W hW => by go_simp⟩) (Below.refl _ _) ?_
      try simp only [List.getElem_toArray, List.getElem_cons_zero, List.getElem_cons_succ, Act.put, List.setIfInBounds_toArray, List.set_cons_zero, List.set_cons_succ]
      refine wpAnyH_ready (rs := [58]) (by kernel_rfl) (by simp) ?_
      refine AllReadyH.cons rfl (fun K hK => ?_) AllReadyH.nil
      simp only [List.getElem_toArray, List.getElem_cons_zero, List.getElem_cons_succ]
      go_simp
      refine (h20 _).mono ?_; rintro e wE ⟨rfl, hbwE⟩; have kwE : Below wf.heap.size wf wE := kwD.trans (hbwE.mono kwD.size)
      refine hK.out _ _ hbwE (fun _ => ?_)
      clear hK K
      try simp only [List.getElem_toArray, List.getElem_cons_zero, List.getElem_cons_succ, Act.put, List.setIfInBounds_toArray, List.set_cons_zero, List.set_cons_succ]
      refine anyH_mono (S' := fun W => Below wE.heap.size wE W) (fun W hW => hbwE.trans (hW.mono hbwE.size)) _ _ _ _ ?_
      refine wpAnyH_take (i := 59) (v := .bool true) rfl (by kernel_rfl) (by kernel_rfl) (by kernel_rfl) (fun _ _ _ h => h) (Or.inl ⟨by kernel_rfl, fun W hW => by go_simp⟩) (Below.refl _ _) ?_
      try simp only [List.getElem_toArray, List.getElem_cons_zero, List.getElem_cons_succ, Act.put, List.setIfInBounds_toArray, List.set_cons_zero, List.set_cons_succ]
      refine wpAnyH_take (i := 60) (v := .bool true) rfl (by kernel_rfl) (by kernel_rfl) (by kernel_rfl) (fun _ _ _ h => h) (Or.inl ⟨by kernel_rfl, fun W hW => by kernel_rfl⟩) (Below.refl _ _) ?_
      try simp only [List.getElem_toArray, List.getElem_cons_zero, List.getElem_cons_succ, Act.put, List.setIfInBounds_toArray, List.set_cons_zero, List.set_cons_succ]
      refine wpAnyH_take (i := 61) (v := .bool true) rfl (by kernel_rfl) (by kernel_rfl) (by kernel_rfl) (fun _ _ _ h => h) (Or.inl ⟨by kernel_rfl, fun W hW => by kernel_rfl⟩) (Below.refl _ _) ?_
      try simp only [List.getElem_toArray, List.getElem_cons_zero, List.getElem_cons_succ, Act.put, List.setIfInBounds_toArray, List.set_cons_zero, List.set_cons_succ]
      refine wpAnyH_take (i := 62) (v := .agg #[.slice (some ⟨g1, 0, none⟩) 128 c1]) rfl (by kernel_rfl) (by kernel_rfl) (by kernel_rfl) (fun _ _ _ h => h) (Or.inl ⟨by kernel_rfl, fun W hW => by have h1 := LD W (kwE.trans (hW.mono kwE.size)); go_simp⟩) (Below.refl _ _) ?_
      try simp only [List.getElem_toArray, List.getElem_cons_zero, List.getElem_cons_succ, Act.put, List.setIfInBounds_toArray, List.set_cons_zero, List.set_cons_succ]
      refine wpAnyH_take (i := 63) (v := .agg #[.slice (some ⟨r, 0, none⟩) 128 rc]) rfl (by kernel_rfl) (by kernel_rfl) (by kernel_rfl) (fun _ _ _ h => h) (Or.inl ⟨by kernel_rfl, fun W hW => by have h1 := LX W (kwE.trans (hW.mono kwE.size)); go_simp⟩) (Below.refl _ _) ?_
      try simp only [List.getElem_toArray, List.getElem_cons_zero, List.getElem_cons_succ, Act.put, List.setIfInBounds_toArray, List.set_cons_zero, List.set_cons_succ]
      refine wpAnyH_ready (rs := [64]) (by kernel_rfl) (by simp) ?_
      refine AllReadyH.cons rfl (fun K hK => ?_) AllReadyH.nil
      simp only [List.getElem_toArray, List.getElem_cons_zero, List.getElem_cons_succ]
      go_simp
      refine (hsm _ kwE).mono ?_; rintro e wF ⟨rfl, hbwF⟩; have kwF : Below wf.heap.size wf wF := kwE.trans (hbwF.mono kwE.size)
      refine hK.out _ _ hbwF (fun _ => ?_)
      clear hK K
      try simp only [List.getElem_toArray, List.getElem_cons_zero, List.getElem_cons_succ, Act.put, List.setIfInBounds_toArray, List.set_cons_zero, List.set_cons_succ]
      refine anyH_mono (S' := fun W => Below wF.heap.size wF W) (fun W hW => hbwF.trans (hW.mono hbwF.size)) _ _ _ _ ?_
      refine wpAnyH_take (i := 65) (v := .bool true) rfl (by kernel_rfl) (by kernel_rfl) (by kernel_rfl) (fun _ _ _ h => h) (Or.inl ⟨by kernel_rfl, fun W hW => by go_simp⟩) (Below.refl _ _) ?_
      try simp only [List.getElem_toArray, List.getElem_cons_zero, List.getElem_cons_succ, Act.put, List.setIfInBounds_toArray, List.set_cons_zero, List.set_cons_succ]
      refine wpAnyH_take (i := 66) (v := .bool true) rfl (by kernel_rfl) (by kernel_rfl) (by kernel_rfl) (fun _ _ _ h => h) (Or.inl ⟨by kernel_rfl, fun W hW => by kernel_rfl⟩) (Below.refl _ _) ?_
      try simp only [List.getElem_toArray, List.getElem_cons_zero, List.getElem_cons_succ, Act.put, List.setIfInBounds_toArray, List.set_cons_zero, List.set_cons_succ]
      refine wpAnyH_take (i := 67) (v := .bool true) rfl (by kernel_rfl) (by kernel_rfl) (by kernel_rfl) (fun _ _ _ h => h) (Or.inl ⟨by kernel_rfl, fun W hW => by kernel_rfl⟩) (Below.refl _ _) ?_
      try simp only [List.getElem_toArray, List.getElem_cons_zero, List.getElem_cons_succ, Act.put, List.setIfInBounds_toArray, List.set_cons_zero, List.set_cons_succ]
      refine wpAnyH_take (i := 68) (v := .agg #[.slice (some ⟨g1, 0, none⟩) 128 c1]) rfl (by kernel_rfl) (by kernel_rfl) (by kernel_rfl) (fun _ _ _ h => h) (Or.inl ⟨by kernel_rfl, fun W hW => by have h1 := LD W (kwF.trans (hW.mono kwF.size)); go_simp⟩) (Below.refl _ _) ?_
      try simp only [List.getElem_toArray, List.getElem_cons_zero, List.getElem_cons_succ, Act.put, List.setIfInBounds_toArray, List.set_cons_zero, List.set_cons_succ]
      refine wpAnyH_take (i := 69) (v := .agg #[.slice (some ⟨g1, 0, none⟩) 128 c1]) rfl (by kernel_rfl) (by kernel_rfl) (by kernel_rfl) (fun _ _ _ h => h) (Or.inl ⟨by kernel_rfl, fun W hW => by have h1 := LD W (kwF.trans (hW.mono kwF.size)); go_simp⟩) (Below.refl _ _) ?_
      try simp only [List.getElem_toArray, List.getElem_cons_zero, List.getElem_cons_succ, Act.put, List.setIfInBounds_toArray, List.set_cons_zero, List.set_cons_succ]
      refine wpAnyH_ready (rs := [70]) (by kernel_rfl) (by simp) ?_
      refine AllReadyH.cons rfl (fun K hK => ?_) AllReadyH.nil
      simp only [List.getElem_toArray, List.getElem_cons_zero, List.getElem_cons_succ]
      go_simp
      refine (hsd _ kwF).mono ?_; rintro e wG ⟨rfl, hbwG⟩; have kwG : Below wf.heap.size wf wG := kwF.trans (hbwG.mono kwF.size)
      refine hK.out _ _ hbwG (fun _ => ?_)
      clear hK K
      try simp only [List.getElem_toArray, List.getElem_cons_zero, List.getElem_cons_succ, Act.put, List.setIfInBounds_toArray, List.set_cons_zero, List.set_cons_succ]
      refine anyH_mono (S' := fun W => Below wG.heap.size wG W) (fun W hW => hbwG.trans (hW.mono hbwG.size)) _ _ _ _ ?_
      refine wpAnyH_take (i := 71) (v := .bool true) rfl (by kernel_rfl) (by kernel_rfl) (by kernel_rfl) (fun _ _ _ h => h) (Or.inl ⟨by kernel_rfl, fun W hW => by kernel_rfl⟩) (Below.refl _ _) ?_
      try simp only [List.getElem_toArray, List.getElem_cons_zero, List.getElem_cons_succ, Act.put, List.setIfInBounds_toArray, List.set_cons_zero, List.set_cons_succ]
      refine wpAnyH_take (i := 72) (v := .bool true) rfl (by kernel_rfl) (by kernel_rfl) (by kernel_rfl) (fun _ _ _ h => h) (Or.inl ⟨by kernel_rfl, fun W hW => by kernel_rfl⟩) (Below.refl _ _) ?_
      try simp only [List.getElem_toArray, List.getElem_cons_zero, List.getElem_cons_succ, Act.put, List.setIfInBounds_toArray, List.set_cons_zero, List.set_cons_succ]
      refine wpAnyH_done (by kernel_rfl) ?_ _
      refine NoPanic.normal ?_
      refine act_any (Q := Exit.then _ _) (by kernel_rfl) (by kernel_rfl) (fun A h0 hd => ?_)
      go_wp2
      refine bodyPost_ret (results_tmp rfl _ _ _) hd ?_
      rw [h0]
      exact ⟨rfl, hbWf.trans (kwG.mono hbWf.size)⟩
end Go.Proofs.Ythdfomcikdjkpab
