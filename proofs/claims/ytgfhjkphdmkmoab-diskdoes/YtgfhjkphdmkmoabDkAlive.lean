/-
  What every statement on disks begins with: two of the chapter's three writes.
-/
import Derived.Test.YtgfhjkphdmkmoabDkSmall
import Derived.Deep.Cut
namespace Go.Proofs.Ytgfhjkphdmkmoab
open Go.RowKit
set_option linter.unusedSimpArgs false
set_option linter.unusedVariables false
set_option maxRecDepth 100000

def threeP : List Pt := [⟨0, blk 1⟩, ⟨0, blk 2⟩, ⟨1, blk 1⟩]
theorem new2 : newE 2 = 0 ∧ newB 2 = List.replicate 128 0 := by decide
theorem do2 : doE 128 threeP 2 = 0 ∧ doB (List.replicate 128 0) threeP 2 = blk 2 ++ blk 0 := by decide
theorem rd0 : rdE 128 0 = 0 ∧ rdB (blk 2 ++ blk 0) 0 = blk 2 := by decide
theorem rd1 : rdE 128 1 = 0 ∧ rdB (blk 2 ++ blk 0) 1 = blk 0 := by decide

set_option maxHeartbeats 4000000 in
theorem dalive_any (w : World) :
    Calls Try.prog 27 #[] w fun e w' => e = .returned (.bool true) ∧ Below w.heap.size w w' := by
  have hnew := new_any 2 w
  rw [new2.1, new2.2] at hnew
  have hthree := fun W => three_any W
  go_enter Try.func27, Try.ntmps27
  go_wp2_with (go_at_call 19; refine hnew.mono ?_; rintro e w1 ⟨v1, rfl, ho1, hb1⟩; obtain ⟨g1, c1, cur1, hv1, hg1, hr1, hcs1, htk1, hlc1, hcm1⟩ := ho1.row (by decide); rw [List.length_replicate] at hv1; subst hv1)
  have hs1 := hb1.size
  have hbs1 : BsAt w1 w1.heap.size (some ⟨g1, 0, none⟩) (List.replicate 128 0) := by
    obtain ⟨ao, cap, he, _, _, _, h⟩ := ho1.at
    cases he; exact h
  have hl1 : g1 < w1.heap.size := (Array.getElem?_eq_some_iff.1 hr1).1
  have hc1 : 128 ≤ c1 := by simpa using hlc1
  clear hr1 hcs1 htk1 hlc1 ho1 hnew
  have H1 : Hid (BsAt w1 w1.heap.size (some ⟨g1, 0, none⟩) (List.replicate 128 0)) := hbs1
  clear hbs1
  have hdo : ∀ (W : World) (v : Value), Below w1.heap.size w1 W → OwnPs W w1.heap.size v threeP → ∃ po pc, v = .slice po 3 pc ∧ ∀ W', Below W.heap.size W W' → Calls Try.prog 26 #[.agg #[.slice (some ⟨g1, 0, none⟩) 128 c1], .slice po 3 pc, .int .i64 2] W' fun e w' => ∃ g c, e = .returned (.tuple #[.agg #[.slice (some ⟨g, 0, none⟩) 128 c], .int .i64 0]) ∧ W'.heap.size ≤ g ∧ g < w'.heap.size ∧ 128 ≤ c ∧ c ≤ 9223372036854775807 ∧ BsAt w' w'.heap.size (some ⟨g, 0, none⟩) (blk 2 ++ blk 0) ∧ Below W'.heap.size W' w' := by
    intro W v hb ho
    obtain ⟨po, pc, rfl, hp1, hp2, hpt⟩ := ho.at
    have hpn : po = none → pc = 0 := by
      intro e
      rcases hpt with h | ⟨b, off, h, _⟩
      · cases h
      · rw [h] at e; cases e
    refine ⟨po, pc, rfl, fun W' hbb => ?_⟩
    have hb2 : Below w1.heap.size w1 W' := hb.trans (hbb.mono hb.size)
    have h := do_any W' W'.heap.size (some ⟨g1, 0, none⟩) (List.replicate 128 0) c1 (H1.out.below hb2 hb2.size) (by simpa using hc1) hcm1 (by intro e; cases e) (Nat.le_refl _) po threeP pc (hpt.below hbb hbb.size) hpn hp1 hp2 2
    rw [List.length_replicate, do2.1, do2.2] at h
    refine h.mono ?_
    rintro e w' ⟨v', rfl, hf, hb'⟩
    obtain ⟨g, c, cur, hv, hg, hr, hcs, htk, hlc, hcm⟩ := hf.row (by decide)
    have hl : (blk 2 ++ blk 0).length = 128 := by decide
    rw [hl] at hv hlc
    subst hv
    refine ⟨g, c, rfl, hg, (Array.getElem?_eq_some_iff.1 hr).1, hlc, hcm, ?_, hb'⟩
    obtain ⟨ao, cap, he, _, _, _, h⟩ := hf.at
    cases he; exact h
  have HDO : Hid (∀ (W : World) (v : Value), Below w1.heap.size w1 W → OwnPs W w1.heap.size v threeP → ∃ po pc, v = .slice po 3 pc ∧ ∀ W', Below W.heap.size W W' → Calls Try.prog 26 #[.agg #[.slice (some ⟨g1, 0, none⟩) 128 c1], .slice po 3 pc, .int .i64 2] W' fun e w' => ∃ g c, e = .returned (.tuple #[.agg #[.slice (some ⟨g, 0, none⟩) 128 c], .int .i64 0]) ∧ W'.heap.size ≤ g ∧ g < w'.heap.size ∧ 128 ≤ c ∧ c ≤ 9223372036854775807 ∧ BsAt w' w'.heap.size (some ⟨g, 0, none⟩) (blk 2 ++ blk 0) ∧ Below W'.heap.size W' w') := hdo
  clear hdo
  have kD : (w1.alloc (Obj.cells #[Value.slice (some ⟨g1, 0, none⟩) 128 c1] 48)).drew.cell? ⟨w1.heap.size, 0, none⟩ = some (.slice (some ⟨g1, 0, none⟩) 128 c1) := by simp
  have hbD : Below w1.heap.size w1 (w1.alloc (Obj.cells #[Value.slice (some ⟨g1, 0, none⟩) 128 c1] 48)).drew := ((Below.refl _ _).alloc (Nat.le_refl _) _).drew
  have hx0 : w1.heap.size < (w1.alloc (Obj.cells #[Value.slice (some ⟨g1, 0, none⟩) 128 c1] 48)).drew.heap.size := by simp
  have az : ((w1.alloc (Obj.cells #[Value.slice (some ⟨g1, 0, none⟩) 128 c1] 48)).drew.alloc (Obj.cells #[Value.slice none 0 0] 48)).cell? ⟨w1.heap.size + 1, 0, none⟩ = some (.slice none 0 0) := by
    rw [World.cell?_alloc_at _ _ _ _ (show w1.heap.size + 1 = _ by simp)]; rfl
  have afz : ((w1.alloc (Obj.cells #[Value.slice (some ⟨g1, 0, none⟩) 128 c1] 48)).drew.alloc (Obj.cells #[Value.slice none 0 0] 48)).frozen? ⟨w1.heap.size + 1, 0, none⟩ = false := World.frozen?_alloc_at _ _ _ _ (show w1.heap.size + 1 = _ by simp)
  go_cut [3, 4] from 13 (fun s3 s4 wx => ∃ X g c, s3 = .pointer (some ⟨X, 0, none⟩) ∧ s4 = .int .i64 0 ∧ wx.cell? ⟨X, 0, none⟩ = some (.slice (some ⟨g, 0, none⟩) 128 c) ∧ X < wx.heap.size ∧ 128 ≤ c ∧ c ≤ 9223372036854775807 ∧ BsAt wx wx.heap.size (some ⟨g, 0, none⟩) (blk 2 ++ blk 0) ∧ Below w.heap.size w wx)
  case first =>
    go_region_held3 (fun W => W.cell? ⟨w1.heap.size, 0, none⟩ = some (.slice (some ⟨g1, 0, none⟩) 128 c1)) (first | exact kD | exact k3 | exact k4 | exact (World.cell?_alloc_past _ _ _ hx0).trans kD | exact (World.cell?_alloc_past _ _ _ hx3).trans k3 | exact (World.cell?_alloc_past _ _ _ hx4).trans k4 | exact ka5 | exact kb5 | exact kc5)
      (first
        | (go_at_call 26; have ha := a3; refine (hd3 w3 (Below.refl _ _)).mono ?_; rintro e w4 ⟨g4, c4, rfl, hge4, hl4, hc4, hm4, hbs4, hb4⟩; have k4 := (hb4.cell (p := ⟨w1.heap.size, 0, none⟩) hx3).trans k3; have hs4 := hb4.size; have hx4 : w1.heap.size < w4.heap.size := (by omega); have a4 := (hb4.cell (p := ⟨w1.heap.size + 1, 0, none⟩) ax3).trans a3; have af4 := (hb4.frozen (p := ⟨w1.heap.size + 1, 0, none⟩) ax3).trans af3; have ka5 : (w4.setCell ⟨w1.heap.size + 1, 0, none⟩ (.slice (some ⟨g4, 0, none⟩) 128 c4)).cell? ⟨w1.heap.size, 0, none⟩ = some (.slice (some ⟨g1, 0, none⟩) 128 c1) := (World.cell?_setCell_other _ _ _ _ (by first | (simp; done) | (simp; omega))).trans k4)
        | (go_at_call 26; refine (hd3 (w3.alloc (Obj.cells #[Value.slice none 0 0] 48)) ((Below.refl _ _).alloc (Nat.le_refl _) _)).mono ?_; rintro e w4 ⟨g4, c4, rfl, hge4, hl4, hc4, hm4, hbs4, hb4⟩; have k4 := (hb4.cell (p := ⟨w1.heap.size, 0, none⟩) (by first | (simp; done) | (simp; omega))).trans ((World.cell?_alloc_past _ _ _ hx3).trans k3); have hs4 := hb4.size; simp at hs4; have hx4 : w1.heap.size < w4.heap.size := (by omega); have b4 : w4.cell? ⟨w3.heap.size, 0, none⟩ = some (.slice none 0 0) := (hb4.cell (p := ⟨w3.heap.size, 0, none⟩) (by first | (simp; done) | (simp; omega))).trans (by first | (simp; done) | (simp; omega)); have bf4 : w4.frozen? ⟨w3.heap.size, 0, none⟩ = false := (hb4.frozen (p := ⟨w3.heap.size, 0, none⟩) (by first | (simp; done) | (simp; omega))).trans (by first | (simp; done) | (simp; omega)); have kb5 : (w4.setCell ⟨w3.heap.size, 0, none⟩ (.slice (some ⟨g4, 0, none⟩) 128 c4)).cell? ⟨w1.heap.size, 0, none⟩ = some (.slice (some ⟨g1, 0, none⟩) 128 c1) := (World.cell?_setCell_other _ _ _ _ (by first | (simp; done) | (simp; omega))).trans k4)
        | (go_at_call 26; refine (hd3 w3 (Below.refl _ _)).mono ?_; rintro e w4 ⟨g4, c4, rfl, hge4, hl4, hc4, hm4, hbs4, hb4⟩; have k4 := (hb4.cell (p := ⟨w1.heap.size, 0, none⟩) hx3).trans k3; have hs4 := hb4.size; have hx4 : w1.heap.size < w4.heap.size := (by omega); have kc5 : (w4.alloc (Obj.cells #[Value.slice (some ⟨g4, 0, none⟩) 128 c4] 48)).cell? ⟨w1.heap.size, 0, none⟩ = some (.slice (some ⟨g1, 0, none⟩) 128 c1) := (World.cell?_alloc_past _ _ _ hx4).trans k4)
        | (go_at_call 25; refine (hthree (w1.alloc (Obj.cells #[Value.slice (some ⟨g1, 0, none⟩) 128 c1] 48)).drew).mono ?_; rintro e w3 ⟨v3, rfl, ho3, hb3⟩; have hb13 : Below w1.heap.size w1 w3 := hbD.trans (hb3.mono (by first | (simp; done) | (simp; omega))); have k3 := (hb3.cell (p := ⟨w1.heap.size, 0, none⟩) (by first | (simp; done) | (simp; omega))).trans kD; have hx3 : w1.heap.size < w3.heap.size := (by have := hb3.size; simp at this; omega); obtain ⟨po, pc, hv3, hd3⟩ := HDO.out w3 v3 hb13 (ho3.mono (by first | (simp; done) | (simp; omega))); subst hv3)
        | (go_at_call 25; refine (hthree ((w1.alloc (Obj.cells #[Value.slice (some ⟨g1, 0, none⟩) 128 c1] 48)).drew.alloc (Obj.cells #[Value.slice none 0 0] 48))).mono ?_; rintro e w3 ⟨v3, rfl, ho3, hb3⟩; have hb13 : Below w1.heap.size w1 w3 := (hbD.alloc (by first | (simp; done) | (simp; omega)) _).trans (hb3.mono (by first | (simp; done) | (simp; omega))); have k3 := (hb3.cell (p := ⟨w1.heap.size, 0, none⟩) (by first | (simp; done) | (simp; omega))).trans ((World.cell?_alloc_past _ _ _ hx0).trans kD); have hx3 : w1.heap.size < w3.heap.size := (by have := hb3.size; simp at this; omega); have a3 : w3.cell? ⟨w1.heap.size + 1, 0, none⟩ = some (.slice none 0 0) := (hb3.cell (p := ⟨w1.heap.size + 1, 0, none⟩) (by first | (simp; done) | (simp; omega))).trans az; have af3 : w3.frozen? ⟨w1.heap.size + 1, 0, none⟩ = false := (hb3.frozen (p := ⟨w1.heap.size + 1, 0, none⟩) (by first | (simp; done) | (simp; omega))).trans afz; have ax3 : w1.heap.size + 1 < w3.heap.size := (by have := hb3.size; simp at this; omega); obtain ⟨po, pc, hv3, hd3⟩ := HDO.out w3 v3 hb13 (ho3.mono (by first | (simp; done) | (simp; omega))); subst hv3))
    · go_wp2_with fail
      go_meet
      case rel => exact ⟨w4.heap.size, g4, c4, rfl, rfl, by simp, by simp, hc4, hm4, (hbs4.below ((Below.refl _ _).alloc (Nat.le_refl _) _) (by simp)), (hb1.trans ((hb13.mono hs1).trans (hb4.mono (by omega)))).alloc (by omega) _⟩
    · go_wp2_with fail
      go_meet
      have hl3 : w3.heap.size + 1 ≤ g4 := by simpa using hge4
      case rel => exact ⟨w3.heap.size, g4, c4, rfl, rfl, World.cell?_setCell_same _ _ _ b4, by simp; omega, hc4, hm4, by simpa using hbs4.store w3.heap.size 0 _ (by omega), ((hb1.trans ((hb13.mono hs1).trans (((Below.refl _ _).alloc (Nat.le_refl _) _).mono (by omega)))).trans (hb4.mono (by simp; omega))).setCell (by show w.heap.size ≤ w3.heap.size; omega) _⟩
    · go_wp2_with fail
      go_meet
      case rel => exact ⟨w1.heap.size + 1, g4, c4, rfl, rfl, World.cell?_setCell_same _ _ _ a4, by simp; omega, hc4, hm4, by simpa using hbs4.store (w1.heap.size + 1) 0 _ (by omega), (hb1.trans ((hb13.mono hs1).trans (hb4.mono (by omega)))).setCell (by show w.heap.size ≤ w1.heap.size + 1; omega) _⟩
  case rest =>
    obtain ⟨X, g, c, rfl, rfl, hX, hXl, hc128, hcm, hbs, hbc⟩ := hcut
    have hl128 : (blk 2 ++ blk 0).length = 128 := by decide
    have hr0 : ∀ W, Below wc.heap.size wc W → Calls Try.prog 23 #[.agg #[.slice (some ⟨g, 0, none⟩) 128 c], .int .i64 0] W fun e w' => ∃ v', e = .returned (.tuple #[v', .int .i64 0]) ∧ Fresh w' W.heap.size v' (blk 2) ∧ Below W.heap.size W w' := by
      intro W hW
      have h := read_any2 W W.heap.size (some ⟨g, 0, none⟩) (blk 2 ++ blk 0) c (hbs.below hW hW.size) (by rw [hl128]; exact hc128) hcm (Nat.le_refl _) 0
      rw [hl128, rd0.1, rd0.2] at h
      exact h
    have hr1 : ∀ W, Below wc.heap.size wc W → Calls Try.prog 23 #[.agg #[.slice (some ⟨g, 0, none⟩) 128 c], .int .i64 1] W fun e w' => ∃ v', e = .returned (.tuple #[v', .int .i64 0]) ∧ Fresh w' W.heap.size v' (blk 0) ∧ Below W.heap.size W w' := by
      intro W hW
      have h := read_any2 W W.heap.size (some ⟨g, 0, none⟩) (blk 2 ++ blk 0) c (hbs.below hW hW.size) (by rw [hl128]; exact hc128) hcm (Nat.le_refl _) 1
      rw [hl128, rd1.1, rd1.2] at h
      exact h
    have HR0 : Hid (∀ W, Below wc.heap.size wc W → Calls Try.prog 23 #[.agg #[.slice (some ⟨g, 0, none⟩) 128 c], .int .i64 0] W fun e w' => ∃ v', e = .returned (.tuple #[v', .int .i64 0]) ∧ Fresh w' W.heap.size v' (blk 2) ∧ Below W.heap.size W w') := hr0
    have HR1 : Hid (∀ W, Below wc.heap.size wc W → Calls Try.prog 23 #[.agg #[.slice (some ⟨g, 0, none⟩) 128 c], .int .i64 1] W fun e w' => ∃ v', e = .returned (.tuple #[v', .int .i64 0]) ∧ Fresh w' W.heap.size v' (blk 0) ∧ Below W.heap.size W w') := hr1
    clear hr0 hr1 HDO hthree H1 kD hbD az afz hx0
    go_wp2_with (first
      | (go_at_call 23; refine (HR1.out w6 hb6).mono ?_; rintro e w7 ⟨v7, rfl, ho7, hb7⟩)
      | (go_at_call 23; refine (HR0.out wc (Below.refl _ _)).mono ?_; rintro e w6 ⟨v6, rfl, ho6, hb6⟩; have hX6 := (hb6.cell (p := ⟨X, 0, none⟩) hXl).trans hX))
    have q6 : ∀ W, Below w7.heap.size w7 W → (convert 23 9 v6).run Try.prog W = .ok (.string ⟨(blk 2).toArray⟩) W := fun W hW => ho6.conv W (hb7.trans (hW.mono hb7.size))
    have q7 := ho7.conv
    refine wp_region_noPanic ?_
    refine wp_region_held_drew (S := fun W => Below w7.heap.size w7 W) (by kernel_rfl) ((Below.refl _ _).drew) (fun _ => ?_)
    refine wpAnyH_take (i := 0) (v := .int .i64 0) rfl (by kernel_rfl) (by kernel_rfl) (by kernel_rfl) (fun _ _ _ h => h) (Or.inl ⟨by rfl, fun W hW => by rfl⟩) ((Below.refl _ _).drew) ?_
    try simp only [List.getElem_toArray, List.getElem_cons_zero, List.getElem_cons_succ, Act.put, List.setIfInBounds_toArray, List.set_cons_zero, List.set_cons_succ]
    refine wpAnyH_take (i := 1) (v := .bool true) rfl (by kernel_rfl) (by kernel_rfl) (by kernel_rfl) (fun _ _ _ h => h) (Or.inl ⟨by rfl, fun W hW => by go_simp⟩) ((Below.refl _ _).drew) ?_
    try simp only [List.getElem_toArray, List.getElem_cons_zero, List.getElem_cons_succ, Act.put, List.setIfInBounds_toArray, List.set_cons_zero, List.set_cons_succ]
    refine wpAnyH_take (i := 2) (v := .bool true) rfl (by kernel_rfl) (by kernel_rfl) (by kernel_rfl) (fun _ _ _ h => h) (Or.inl ⟨by rfl, fun W hW => by rfl⟩) ((Below.refl _ _).drew) ?_
    try simp only [List.getElem_toArray, List.getElem_cons_zero, List.getElem_cons_succ, Act.put, List.setIfInBounds_toArray, List.set_cons_zero, List.set_cons_succ]
    refine wpAnyH_take (i := 3) (v := .int .i64 0) rfl (by kernel_rfl) (by kernel_rfl) (by kernel_rfl) (fun _ _ _ h => h) (Or.inl ⟨by rfl, fun W hW => by rfl⟩) ((Below.refl _ _).drew) ?_
    try simp only [List.getElem_toArray, List.getElem_cons_zero, List.getElem_cons_succ, Act.put, List.setIfInBounds_toArray, List.set_cons_zero, List.set_cons_succ]
    refine wpAnyH_take (i := 4) (v := .bool true) rfl (by kernel_rfl) (by kernel_rfl) (by kernel_rfl) (fun _ _ _ h => h) (Or.inl ⟨by rfl, fun W hW => by go_simp⟩) ((Below.refl _ _).drew) ?_
    try simp only [List.getElem_toArray, List.getElem_cons_zero, List.getElem_cons_succ, Act.put, List.setIfInBounds_toArray, List.set_cons_zero, List.set_cons_succ]
    refine wpAnyH_take (i := 5) (v := .bool true) rfl (by kernel_rfl) (by kernel_rfl) (by kernel_rfl) (fun _ _ _ h => h) (Or.inl ⟨by rfl, fun W hW => by rfl⟩) ((Below.refl _ _).drew) ?_
    try simp only [List.getElem_toArray, List.getElem_cons_zero, List.getElem_cons_succ, Act.put, List.setIfInBounds_toArray, List.set_cons_zero, List.set_cons_succ]
    refine wpAnyH_take (i := 6) (v := .bool true) rfl (by kernel_rfl) (by kernel_rfl) (by kernel_rfl) (fun _ _ _ h => h) (Or.inl ⟨by rfl, fun W hW => by rfl⟩) ((Below.refl _ _).drew) ?_
    try simp only [List.getElem_toArray, List.getElem_cons_zero, List.getElem_cons_succ, Act.put, List.setIfInBounds_toArray, List.set_cons_zero, List.set_cons_succ]
    refine wpAnyH_take (i := 7) (v := .int .i64 0) rfl (by kernel_rfl) (by kernel_rfl) (by kernel_rfl) (fun _ _ _ h => h) (Or.inl ⟨by rfl, fun W hW => by rfl⟩) ((Below.refl _ _).drew) ?_
    try simp only [List.getElem_toArray, List.getElem_cons_zero, List.getElem_cons_succ, Act.put, List.setIfInBounds_toArray, List.set_cons_zero, List.set_cons_succ]
    refine wpAnyH_take (i := 8) (v := .bool true) rfl (by kernel_rfl) (by kernel_rfl) (by kernel_rfl) (fun _ _ _ h => h) (Or.inl ⟨by rfl, fun W hW => by go_simp⟩) ((Below.refl _ _).drew) ?_
    try simp only [List.getElem_toArray, List.getElem_cons_zero, List.getElem_cons_succ, Act.put, List.setIfInBounds_toArray, List.set_cons_zero, List.set_cons_succ]
    refine wpAnyH_take (i := 9) (v := .bool true) rfl (by kernel_rfl) (by kernel_rfl) (by kernel_rfl) (fun _ _ _ h => h) (Or.inl ⟨by rfl, fun W hW => by rfl⟩) ((Below.refl _ _).drew) ?_
    try simp only [List.getElem_toArray, List.getElem_cons_zero, List.getElem_cons_succ, Act.put, List.setIfInBounds_toArray, List.set_cons_zero, List.set_cons_succ]
    refine wpAnyH_take (i := 10) (v := .bool true) rfl (by kernel_rfl) (by kernel_rfl) (by kernel_rfl) (fun _ _ _ h => h) (Or.inl ⟨by rfl, fun W hW => by rfl⟩) ((Below.refl _ _).drew) ?_
    try simp only [List.getElem_toArray, List.getElem_cons_zero, List.getElem_cons_succ, Act.put, List.setIfInBounds_toArray, List.set_cons_zero, List.set_cons_succ]
    refine wpAnyH_take (i := 11) (v := .int .i64 0) rfl (by kernel_rfl) (by kernel_rfl) (by kernel_rfl) (fun _ _ _ h => h) (Or.inl ⟨by rfl, fun W hW => by rfl⟩) ((Below.refl _ _).drew) ?_
    try simp only [List.getElem_toArray, List.getElem_cons_zero, List.getElem_cons_succ, Act.put, List.setIfInBounds_toArray, List.set_cons_zero, List.set_cons_succ]
    refine wpAnyH_take (i := 12) (v := .bool true) rfl (by kernel_rfl) (by kernel_rfl) (by kernel_rfl) (fun _ _ _ h => h) (Or.inl ⟨by rfl, fun W hW => by go_simp⟩) ((Below.refl _ _).drew) ?_
    try simp only [List.getElem_toArray, List.getElem_cons_zero, List.getElem_cons_succ, Act.put, List.setIfInBounds_toArray, List.set_cons_zero, List.set_cons_succ]
    refine wpAnyH_take (i := 13) (v := .bool true) rfl (by kernel_rfl) (by kernel_rfl) (by kernel_rfl) (fun _ _ _ h => h) (Or.inl ⟨by rfl, fun W hW => by rfl⟩) ((Below.refl _ _).drew) ?_
    try simp only [List.getElem_toArray, List.getElem_cons_zero, List.getElem_cons_succ, Act.put, List.setIfInBounds_toArray, List.set_cons_zero, List.set_cons_succ]
    refine wpAnyH_take (i := 14) (v := .bool true) rfl (by kernel_rfl) (by kernel_rfl) (by kernel_rfl) (fun _ _ _ h => h) (Or.inl ⟨by rfl, fun W hW => by rfl⟩) ((Below.refl _ _).drew) ?_
    try simp only [List.getElem_toArray, List.getElem_cons_zero, List.getElem_cons_succ, Act.put, List.setIfInBounds_toArray, List.set_cons_zero, List.set_cons_succ]
    refine wpAnyH_take (i := 15) (v := v6) rfl (by kernel_rfl) (by kernel_rfl) (by kernel_rfl) (fun _ _ _ h => h) (Or.inl ⟨by rfl, fun W hW => by rfl⟩) ((Below.refl _ _).drew) ?_
    try simp only [List.getElem_toArray, List.getElem_cons_zero, List.getElem_cons_succ, Act.put, List.setIfInBounds_toArray, List.set_cons_zero, List.set_cons_succ]
    refine wpAnyH_take (i := 16) (v := .string ⟨(blk 2).toArray⟩) rfl (by kernel_rfl) (by kernel_rfl) (by kernel_rfl) (fun _ _ _ h => h) (Or.inl ⟨by rfl, fun W hW => by have hq := q6 W hW; go_simp⟩) ((Below.refl _ _).drew) ?_
    try simp only [List.getElem_toArray, List.getElem_cons_zero, List.getElem_cons_succ, Act.put, List.setIfInBounds_toArray, List.set_cons_zero, List.set_cons_succ]
    refine wpAnyH_ready (rs := [17]) (by kernel_rfl) (by simp) ?_
    refine AllReadyH.cons rfl (fun K hK => ?_) AllReadyH.nil
    simp only [List.getElem_toArray, List.getElem_cons_zero, List.getElem_cons_succ]
    go_simp
    refine (all_any 2 _).mono ?_; rintro e w8 ⟨rfl, ho8, hb8⟩; have q8 : ∀ W, Below w8.heap.size w8 W → (convert 23 9 (.slice (some ⟨w7.heap.size, 0, none⟩) 64 64)).run Try.prog W = .ok (.string ⟨(blk 2).toArray⟩) W := ho8.conv; have k8 : Below w7.heap.size w7 w8 := ((Below.refl _ _).drew).trans hb8
    refine hK.out _ _ k8 (fun _ => ?_)
    clear hK K
    try simp only [List.getElem_toArray, List.getElem_cons_zero, List.getElem_cons_succ, Act.put, List.setIfInBounds_toArray, List.set_cons_zero, List.set_cons_succ]
    refine anyH_mono (S' := fun W => Below w8.heap.size w8 W) (fun W hW => k8.trans (hW.mono k8.size)) _ _ _ _ ?_
    refine wpAnyH_take (i := 18) (v := .string ⟨(blk 2).toArray⟩) rfl (by kernel_rfl) (by kernel_rfl) (by kernel_rfl) (fun _ _ _ h => h) (Or.inl ⟨by rfl, fun W hW => by have hq := q8 W hW; go_simp⟩) (Below.refl _ _) ?_
    try simp only [List.getElem_toArray, List.getElem_cons_zero, List.getElem_cons_succ, Act.put, List.setIfInBounds_toArray, List.set_cons_zero, List.set_cons_succ]
    refine wpAnyH_take (i := 19) (v := .bool true) rfl (by kernel_rfl) (by kernel_rfl) (by kernel_rfl) (fun _ _ _ h => h) (Or.inl ⟨by rfl, fun W hW => by go_simp⟩) (Below.refl _ _) ?_
    try simp only [List.getElem_toArray, List.getElem_cons_zero, List.getElem_cons_succ, Act.put, List.setIfInBounds_toArray, List.set_cons_zero, List.set_cons_succ]
    refine wpAnyH_take (i := 20) (v := .bool true) rfl (by kernel_rfl) (by kernel_rfl) (by kernel_rfl) (fun _ _ _ h => h) (Or.inl ⟨by rfl, fun W hW => by rfl⟩) (Below.refl _ _) ?_
    try simp only [List.getElem_toArray, List.getElem_cons_zero, List.getElem_cons_succ, Act.put, List.setIfInBounds_toArray, List.set_cons_zero, List.set_cons_succ]
    refine wpAnyH_take (i := 21) (v := .bool true) rfl (by kernel_rfl) (by kernel_rfl) (by kernel_rfl) (fun _ _ _ h => h) (Or.inl ⟨by rfl, fun W hW => by rfl⟩) (Below.refl _ _) ?_
    try simp only [List.getElem_toArray, List.getElem_cons_zero, List.getElem_cons_succ, Act.put, List.setIfInBounds_toArray, List.set_cons_zero, List.set_cons_succ]
    refine wpAnyH_take (i := 22) (v := v7) rfl (by kernel_rfl) (by kernel_rfl) (by kernel_rfl) (fun _ _ _ h => h) (Or.inl ⟨by rfl, fun W hW => by rfl⟩) (Below.refl _ _) ?_
    try simp only [List.getElem_toArray, List.getElem_cons_zero, List.getElem_cons_succ, Act.put, List.setIfInBounds_toArray, List.set_cons_zero, List.set_cons_succ]
    refine wpAnyH_take (i := 23) (v := .string ⟨(blk 0).toArray⟩) rfl (by kernel_rfl) (by kernel_rfl) (by kernel_rfl) (fun _ _ _ h => h) (Or.inl ⟨by rfl, fun W hW => by have hq := q7 W (k8.trans (hW.mono k8.size)); go_simp⟩) (Below.refl _ _) ?_
    try simp only [List.getElem_toArray, List.getElem_cons_zero, List.getElem_cons_succ, Act.put, List.setIfInBounds_toArray, List.set_cons_zero, List.set_cons_succ]
    refine wpAnyH_ready (rs := [24]) (by kernel_rfl) (by simp) ?_
    refine AllReadyH.cons rfl (fun K hK => ?_) AllReadyH.nil
    simp only [List.getElem_toArray, List.getElem_cons_zero, List.getElem_cons_succ]
    go_simp
    refine (all_any 0 _).mono ?_; rintro e w9 ⟨rfl, ho9, hb9⟩; have q9 := ho9.conv
    refine hK.out _ _ hb9 (fun _ => ?_)
    clear hK K
    try simp only [List.getElem_toArray, List.getElem_cons_zero, List.getElem_cons_succ, Act.put, List.setIfInBounds_toArray, List.set_cons_zero, List.set_cons_succ]
    refine anyH_mono (S' := fun W => Below w9.heap.size w9 W) (fun W hW => hb9.trans (hW.mono hb9.size)) _ _ _ _ ?_
    refine wpAnyH_take (i := 25) (v := .string ⟨(blk 0).toArray⟩) rfl (by kernel_rfl) (by kernel_rfl) (by kernel_rfl) (fun _ _ _ h => h) (Or.inl ⟨by rfl, fun W hW => by have hq := q9 W hW; go_simp⟩) (Below.refl _ _) ?_
    try simp only [List.getElem_toArray, List.getElem_cons_zero, List.getElem_cons_succ, Act.put, List.setIfInBounds_toArray, List.set_cons_zero, List.set_cons_succ]
    refine wpAnyH_take (i := 26) (v := .bool true) rfl (by kernel_rfl) (by kernel_rfl) (by kernel_rfl) (fun _ _ _ h => h) (Or.inl ⟨by rfl, fun W hW => by go_simp⟩) (Below.refl _ _) ?_
    try simp only [List.getElem_toArray, List.getElem_cons_zero, List.getElem_cons_succ, Act.put, List.setIfInBounds_toArray, List.set_cons_zero, List.set_cons_succ]
    refine wpAnyH_take (i := 27) (v := .bool true) rfl (by kernel_rfl) (by kernel_rfl) (by kernel_rfl) (fun _ _ _ h => h) (Or.inl ⟨by rfl, fun W hW => by rfl⟩) (Below.refl _ _) ?_
    try simp only [List.getElem_toArray, List.getElem_cons_zero, List.getElem_cons_succ, Act.put, List.setIfInBounds_toArray, List.set_cons_zero, List.set_cons_succ]
    refine wpAnyH_take (i := 28) (v := .bool true) rfl (by kernel_rfl) (by kernel_rfl) (by kernel_rfl) (fun _ _ _ h => h) (Or.inl ⟨by rfl, fun W hW => by rfl⟩) (Below.refl _ _) ?_
    try simp only [List.getElem_toArray, List.getElem_cons_zero, List.getElem_cons_succ, Act.put, List.setIfInBounds_toArray, List.set_cons_zero, List.set_cons_succ]
    refine wpAnyH_done (by kernel_rfl) ?_ _
    refine NoPanic.normal ?_
    go_wp2
    go_ret
    exact ⟨rfl, (hbc.trans ((hb6.mono hbc.size).trans ((hb7.mono (Nat.le_trans hbc.size hb6.size)).trans (k8.mono (Nat.le_trans (Nat.le_trans hbc.size hb6.size) hb7.size))))).trans (hb9.mono (Nat.le_trans (Nat.le_trans (Nat.le_trans hbc.size hb6.size) hb7.size) k8.size))⟩
end Go.Proofs.Ytgfhjkphdmkmoab
