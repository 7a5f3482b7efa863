/-
  Contracts of the document's Do, of any writes, and of its Write.
-/
import Derived.Test.YtgfhjkphdmkmoabDkRef4
namespace Go.Proofs.Ytgfhjkphdmkmoab
open Go.RowKit
set_option linter.unusedSimpArgs false
set_option linter.unusedVariables false
set_option maxRecDepth 100000

set_option maxHeartbeats 1000000 in
theorem rdo_none (w : World) (ao : Option Addr) (d : List UInt8) (cap : Nat) (hd : Sl w ao d cap) (po : Option Addr) (pc : Nat) (m : Int) (k1 : dOk d.length = true) :
    Calls Try.prog 38 #[.agg #[.slice ao d.length cap], .slice po 0 pc, .int .i64 m] w fun e w' => ∃ v', e = .returned (.tuple #[.agg #[v'], .int .i64 (doE d.length [] m)]) ∧ Fresh w' w.heap.size v' (doB d [] m) ∧ Below w.heap.size w w' := by
  have hL : d.length ≤ 9223372036854775807 := Nat.le_trans hd.hl hd.hc
  have e1 : dE d.length = 0 := by unfold dE; rw [if_pos k1]
  have hc := fun W => rcheck_any ao d.length cap W hL
  rw [e1] at hc
  have hne : d ≠ [] := by intro e; rw [e] at k1; simp [dOk] at k1
  have hroom : d.length ≤ 262144 := by simp [dOk] at k1; omega
  have HD : Hid (Sl w ao d cap) := hd
  clear e1 hd
  by_cases hm : m = 0
  · subst hm
    have hE : doE d.length [] 0 = 0 := by unfold doE; rw [if_neg (by rw [k1]; decide)]; simp [ptsE, cutOk]
    have hR : doB d [] 0 = d := by unfold doB; rw [if_pos hE]; rfl
    rw [hE, hR]
    clear hE hR k1
    go_enter Try.func38, Try.ntmps38
    go_wp2_with (go_at_call 40; refine (hc _).mono ?_; rintro e w1 ⟨rfl, hb1⟩; have hc1 := below_cells hb1; have hf1 := below_frozen hb1; have hs1 := hb1.size)
    have z3 : w1.cell? ⟨w.heap.size, 0, none⟩ = some (.slice ao d.length cap) := by rw [hc1 _ _ (by simp; omega)]; simp
    have z6 : w1.cell? ⟨w.heap.size + 1, 0, none⟩ = some (.slice none 0 0) := by rw [hc1 _ _ (by simp)]; simp
    have f6 : w1.frozen? ⟨w.heap.size + 1, 0, none⟩ = false := by rw [hf1 _ _ (by simp)]; simp
    have hs1' : w.heap.size + 2 ≤ w1.heap.size := by simpa using hs1
    have HB1 : Hid (Below w.heap.size w w1) := below_alloc (below_alloc hb1)
    clear hc hc1 hf1 hs1 hb1
    refine wp_loop_rounds 1 ?_
    rw [rounds_succ]
    have hcall := twin_any w1 ao d cap (HD.out.below HB1.out) (by omega)
    go_wp2_with (go_at_call 33; refine hcall.mono ?_; rintro e w2 ⟨ro2, rc2, rfl, ho2, hb2⟩; obtain ⟨g, c2, cur, hv2, hgb, hrow, hcs, htk, hlc2, hcm2⟩ := ho2.row hne; cases hv2)
    refine wp_loop_rounds 1 ?_
    rw [rounds_succ]
    have hg2 : g < w2.heap.size := (Array.getElem?_eq_some_iff.1 hrow).1
    have hs2 := hb2.size
    have hx6 : w.heap.size + 1 < w2.heap.size := by omega
    have y6 : w2.cell? ⟨w.heap.size + 1, 0, none⟩ = some (.slice none 0 0) := (hb2.cell (p := ⟨w.heap.size + 1, 0, none⟩) (by show w.heap.size + 1 < _; omega)).trans z6
    have g6 : w2.frozen? ⟨w.heap.size + 1, 0, none⟩ = false := (hb2.frozen (p := ⟨w.heap.size + 1, 0, none⟩) (by show w.heap.size + 1 < _; omega)).trans f6
    go_wp2
    have hgl : g < (w2.setCell ⟨w.heap.size + 1, 0, none⟩ (.slice (some ⟨g, 0, none⟩) d.length rc2)).heap.size := by simpa using hg2
    have z0 : ((w2.setCell ⟨w.heap.size + 1, 0, none⟩ (.slice (some ⟨g, 0, none⟩) d.length rc2)).alloc (Obj.cells #[Value.slice (some ⟨g, 0, none⟩) d.length rc2] 48)).cell? ⟨w.heap.size + 1, 0, none⟩ = some (.slice (some ⟨g, 0, none⟩) d.length rc2) := (World.cell?_alloc_past _ _ _ (by simpa using hx6)).trans (World.cell?_setCell_same _ _ _ y6)
    try simp only [Exit.inBlock, Exit.then]
    refine bodyPost_ret (v := .tuple #[.agg #[.slice (some ⟨g, 0, none⟩) d.length rc2], .int .i64 0]) (by simp [results, Try.results38, go_sem, z0]) rfl ⟨_, rfl, ?_, ?_⟩
    · refine ⟨some ⟨g, 0, none⟩, rc2, rfl, hlc2, hcm2, (by intro e; cases e), .inr ⟨g, cur, rfl, by omega, ?_, hcs, htk⟩⟩
      exact (Below.heap_alloc _ _ g hgl).trans ((Below.heap_setCell w2 ⟨w.heap.size + 1, 0, none⟩ _ g (by show g ≠ w.heap.size + 1; omega)).trans hrow)
    · exact ((HB1.out.trans (hb2.mono (by omega))).setCell (by simp) _).alloc (by simp; omega) _
  · have hcut2 : cutOk 0 m = false := by simp [cutOk]; omega
    have hE : doE d.length [] m = 2 := by unfold doE; rw [if_neg (by rw [k1]; decide)]; simp [ptsE, hcut2]
    have hR : doB d [] m = [] := by unfold doB; rw [hE, if_neg (by decide)]
    rw [hE, hR]
    clear hE hR k1 hcut2
    have hm01 : m < 0 ∨ (0 : Int) < m := by omega
    go_enter Try.func38, Try.ntmps38
    go_wp2_with (go_at_call 40; refine (hc _).mono ?_; rintro e w1 ⟨rfl, hb1⟩; have hc1 := below_cells hb1; have hf1 := below_frozen hb1; have hs1 := hb1.size)
    have z6 : w1.cell? ⟨w.heap.size + 1, 0, none⟩ = some (.slice none 0 0) := by rw [hc1 _ _ (by simp)]; simp
    have f6 : w1.frozen? ⟨w.heap.size + 1, 0, none⟩ = false := by rw [hf1 _ _ (by simp)]; simp
    have z0 : (w1.setCell ⟨w.heap.size + 1, 0, none⟩ (.slice none 0 0)).cell? ⟨w.heap.size + 1, 0, none⟩ = some (.slice none 0 0) := World.cell?_setCell_same _ _ _ z6
    refine wp_loop_rounds 1 ?_
    rw [rounds_succ]
    clear hm
    rcases hm01 with hm | hm
    · go_wp2
      try simp only [Exit.inBlock, Exit.then]
      refine bodyPost_ret (v := .tuple #[.agg #[.slice none 0 0], .int .i64 2]) (by simp [results, Try.results38, go_sem, z0]) rfl ⟨_, rfl, Fresh.nil _ _, ?_⟩
      exact (below_alloc (below_alloc hb1)).setCell (by simp) _
    · have hm0 : decide (m < 0) = false := by simp; omega
      go_wp2
      try simp only [Exit.inBlock, Exit.then]
      refine bodyPost_ret (v := .tuple #[.agg #[.slice none 0 0], .int .i64 2]) (by simp [results, Try.results38, go_sem, z0]) rfl ⟨_, rfl, Fresh.nil _ _, ?_⟩
      exact (below_alloc (below_alloc hb1)).setCell (by simp) _

theorem rdo_any (w : World) (ao : Option Addr) (d : List UInt8) (cap : Nat) (hd : Sl w ao d cap) (po : Option Addr) (ps : List Pt) (pc : Nat) (hp : Pl w po ps pc) (m : Int) :
    Calls Try.prog 38 #[.agg #[.slice ao d.length cap], .slice po ps.length pc, .int .i64 m] w fun e w' => ∃ v', e = .returned (.tuple #[.agg #[v'], .int .i64 (doE d.length ps m)]) ∧ Fresh w' w.heap.size v' (doB d ps m) ∧ Below w.heap.size w w' := by
  by_cases k1 : dOk d.length = true
  · rcases hp.at_ with rfl | ⟨b, off, rfl, hbl, hc⟩
    · exact rdo_none w ao d cap hd po pc m k1
    · exact rdo_good w w.heap.size ao d cap hd.at_ hd.hl hd.hc hd.hn (Nat.le_refl _) b off ps pc hbl hc hp.hl hp.hc m k1
  · exact rdo_bad w ao d cap (Nat.le_trans hd.hl hd.hc) po ps pc (Nat.le_trans hp.hl hp.hc) m (by simpa using k1)

theorem rwrite_any (w : World) (ao : Option Addr) (d : List UInt8) (cap : Nat) (hd : Sl w ao d cap) (n : Int) (bo : Option Addr) (l : List UInt8) (bc : Nat) (hl : Sl w bo l bc) (E : Int) (R : List UInt8) (hE : doE d.length [⟨n, l⟩] 1 = E) (hR : doB d [⟨n, l⟩] 1 = R) :
    Calls Try.prog 37 #[.agg #[.slice ao d.length cap], .int .i64 n, .slice bo l.length bc] w fun e w' => ∃ ro rc, e = .returned (.tuple #[.agg #[.slice ro R.length rc], .int .i64 E]) ∧ Fresh w' w.heap.size (.slice ro R.length rc) R ∧ Below w.heap.size w w' := by
  have hb2 : ∀ o o', Below w.heap.size w ((w.alloc o).alloc o') := fun o o' => ((Below.refl _ _).alloc (Nat.le_refl _) _).alloc (by simp) _
  have hdo0 := fun o o' => rdo_any (((w.alloc o).alloc o').alloc (.cells #[.int .i64 n, .slice bo l.length bc] 77)) ao d cap ((hd.below (hb2 o o')).below ((Below.refl _ _).alloc (Nat.le_refl _) _)) (some ⟨((w.alloc o).alloc o').heap.size, 0, none⟩) [⟨n, l⟩] 1 (pl_one (hl.below (hb2 o o')) n) 1
  rw [hE, hR] at hdo0
  have hdo : ∀ o o' X, X = ((w.alloc o).alloc o').heap.size → Calls Try.prog 38 #[.agg #[.slice ao d.length cap], .slice (some ⟨X, 0, none⟩) 1 1, .int .i64 1] (((w.alloc o).alloc o').alloc (.cells #[.int .i64 n, .slice bo l.length bc] 77)) fun e w' => ∃ v', e = .returned (.tuple #[.agg #[v'], .int .i64 E]) ∧ Fresh w' (((w.alloc o).alloc o').alloc (.cells #[.int .i64 n, .slice bo l.length bc] 77)).heap.size v' R ∧ Below (((w.alloc o).alloc o').alloc (.cells #[.int .i64 n, .slice bo l.length bc] 77)).heap.size (((w.alloc o).alloc o').alloc (.cells #[.int .i64 n, .slice bo l.length bc] 77)) w' := fun o o' X hX => by subst hX; exact hdo0 o o'
  have HDO : Hid (∀ o o' X, X = ((w.alloc o).alloc o').heap.size → Calls Try.prog 38 #[.agg #[.slice ao d.length cap], .slice (some ⟨X, 0, none⟩) 1 1, .int .i64 1] (((w.alloc o).alloc o').alloc (.cells #[.int .i64 n, .slice bo l.length bc] 77)) fun e w' => ∃ v', e = .returned (.tuple #[.agg #[v'], .int .i64 E]) ∧ Fresh w' (((w.alloc o).alloc o').alloc (.cells #[.int .i64 n, .slice bo l.length bc] 77)).heap.size v' R ∧ Below (((w.alloc o).alloc o').alloc (.cells #[.int .i64 n, .slice bo l.length bc] 77)).heap.size (((w.alloc o).alloc o').alloc (.cells #[.int .i64 n, .slice bo l.length bc] 77)) w') := hdo
  clear hdo hdo0 hE hR hd hl
  go_enter Try.func37, Try.ntmps37
  go_wp2_with (go_at_call 38; refine (HDO.out _ _ _ (by simp)).mono ?_; rintro e w1 ⟨v1, rfl, hf1, hb1⟩; obtain ⟨ro, rc, hv1, -⟩ := hf1.sl; subst hv1; have z6 : w1.cell? ⟨w.heap.size + 1, 0, none⟩ = some (.slice none 0 0) := (hb1.cell (p := ⟨w.heap.size + 1, 0, none⟩) (by first | (simp; done) | (simp; omega))).trans ((World.cell?_alloc_past _ _ _ (by first | (simp; done) | (simp; omega))).trans (by simp)); have f6 : w1.frozen? ⟨w.heap.size + 1, 0, none⟩ = false := (hb1.frozen (p := ⟨w.heap.size + 1, 0, none⟩) (by first | (simp; done) | (simp; omega))).trans ((World.frozen?_alloc_past _ _ _ (by first | (simp; done) | (simp; omega))).trans (by simp)); have hs := hb1.size; simp at hs)
  have z0 : (w1.setCell ⟨w.heap.size + 1, 0, none⟩ (.slice ro R.length rc)).cell? ⟨w.heap.size + 1, 0, none⟩ = some (.slice ro R.length rc) := World.cell?_setCell_same _ _ _ z6
  refine bodyPost_ret (v := .tuple #[.agg #[.slice ro R.length rc], .int .i64 E]) (by simp [results, Try.results37, go_sem, z0]) rfl ⟨ro, rc, rfl, ?_, ?_⟩
  · exact (hf1.store (w.heap.size + 1) 0 _ (by first | (simp; done) | (simp; omega))).mono (by first | (simp; done) | (simp; omega))
  · exact (below_alloc (below_alloc (below_alloc hb1))).setCell (by simp) _
end Go.Proofs.Ytgfhjkphdmkmoab
