/-
  What the statements on bags begin with: the chapter's three messages, the middle one doubled.
-/
import Derived.Test.YtgfhjkphdmkmoacBgStep
import Derived.Test.YtgfhjkphdmkmoacBgSame
namespace Go.Proofs.Ytgfhjkphdmkmoac
open Go.RowKit
set_option linter.unusedSimpArgs false
set_option linter.unusedVariables false
set_option maxRecDepth 100000

theorem dt_one {w : World} {B g : Nat} (x : UInt8) (h : w.cell? ⟨g, 0, none⟩ = some (bcell x)) (hb : g < B) : DtAt w B (.slice (some ⟨g, 0, none⟩) 1 1) [x] :=
  ⟨some ⟨g, 0, none⟩, 1, rfl, by simp, by unfold maxLen; omega, (by intro e; cases e), .inr ⟨g, 0, rfl, hb, fun j hj => by
    have : j = 0 := by simp at hj; omega
    subst this
    exact h⟩⟩
/-- the chapter's bag -/
def thr : List (List UInt8) := [[1], [2], [3]]

theorem three3_any (w : World) :
    Calls Try.prog 17 #[] w fun e w' => ∃ g, e = .returned (.slice (some ⟨g, 0, none⟩) 3 3) ∧ Ll w' (some ⟨g, 0, none⟩) thr 3 ∧ Below w.heap.size w w' := by
  go_enter Try.func17, Try.ntmps17
  go_wp2
  go_ret
  refine ⟨_, rfl, ⟨by simp [thr], by omega, (by intro e; cases e), .inr ⟨_, 0, rfl, by simp, fun i hi => ?_⟩⟩, ?_⟩
  · match i, hi with
    | 0, _ => exact ⟨.slice (some ⟨w.heap.size, 0, none⟩) 1 1, ((World.cell?_alloc_at _ _ _ _ (by first | (simp; done) | (simp; omega))).trans rfl), dt_one 1 ((World.cell?_alloc_past _ _ _ (by first | (simp; done) | (simp; omega))).trans ((World.cell?_alloc_past _ _ _ (by first | (simp; done) | (simp; omega))).trans ((World.cell?_alloc_past _ _ _ (by first | (simp; done) | (simp; omega))).trans ((World.cell?_alloc_at _ _ _ _ (by first | (simp; done) | (simp; omega))).trans rfl)))) (by first | (simp; done) | (simp; omega))⟩
    | 1, _ => exact ⟨.slice (some ⟨w.heap.size + 1, 0, none⟩) 1 1, ((World.cell?_alloc_at _ _ _ _ (by first | (simp; done) | (simp; omega))).trans rfl), dt_one 2 ((World.cell?_alloc_past _ _ _ (by first | (simp; done) | (simp; omega))).trans ((World.cell?_alloc_past _ _ _ (by first | (simp; done) | (simp; omega))).trans ((World.cell?_alloc_at _ _ _ _ (by first | (simp; done) | (simp; omega))).trans rfl))) (by first | (simp; done) | (simp; omega))⟩
    | 2, _ => exact ⟨.slice (some ⟨w.heap.size + 1 + 1, 0, none⟩) 1 1, ((World.cell?_alloc_at _ _ _ _ (by first | (simp; done) | (simp; omega))).trans rfl), dt_one 3 ((World.cell?_alloc_past _ _ _ (by first | (simp; done) | (simp; omega))).trans ((World.cell?_alloc_at _ _ _ _ (by first | (simp; done) | (simp; omega))).trans rfl)) (by first | (simp; done) | (simp; omega))⟩
    | i + 3, hi => exact absurd hi (by simp [thr])
  · exact ((((Below.refl _ _).alloc (Nat.le_refl _) _).alloc (by simp) _).alloc (by simp; omega) _).alloc (by simp; omega) _

theorem st1 : stepE 3 1 1 = 0 ∧ stepL thr 1 1 = thr ∧ stepO thr 1 1 = [2] := by decide

theorem balive_any (w : World) :
    Calls Try.prog 20 #[] w fun e w' => e = .returned (.bool true) ∧ Below w.heap.size w w' := by
  have hth := fun W => three3_any W
  have hstep : ∀ (W : World) (g : Nat), Ll W (some ⟨g, 0, none⟩) thr 3 → Calls Try.prog 16 #[.slice (some ⟨g, 0, none⟩) 3 3, .int .u8 1, .int .i64 1] W (StepPost W 0 thr [2]) := by
    intro W g h
    have hx := step_any W (some ⟨g, 0, none⟩) thr 3 h (by decide) 1 1
    rw [show thr.length = 3 from rfl, st1.1, st1.2.1, st1.2.2] at hx
    exact hx
  have HST : Hid (∀ (W : World) (g : Nat), Ll W (some ⟨g, 0, none⟩) thr 3 → Calls Try.prog 16 #[.slice (some ⟨g, 0, none⟩) 3 3, .int .u8 1, .int .i64 1] W (StepPost W 0 thr [2])) := hstep
  clear hstep
  go_enter Try.func20, Try.ntmps20
  go_wp2_with (first
    | (go_at_call 19; refine (lsame_sl w3 vo (some ⟨g3, 0, none⟩) thr vc 3 hl3 hs3).mono ?_; rintro e w4 ⟨rfl, hb4⟩; have q4 := hf2.conv w4 (hb3.trans (hb4.mono hb3.size)))
    | (go_at_call 17; have hq := hmk; refine (hth w2).mono ?_; rintro e w3 ⟨g3, rfl, hs3, hb3⟩; have hl3 := hl2.below hb3)
    | (go_at_call 16; refine (HST.out w1 g1 hs1).mono ?_; rintro e w2 ⟨v2, o2, rfl, ho2, hf2, hb2⟩; obtain ⟨vo, vc, hv2, hl2⟩ := ho2.ll; subst hv2; have hmk := True.intro)
    | (go_at_call 17; (fail_if_success have hq := hmk); refine (hth w).mono ?_; rintro e w1 ⟨g1, rfl, hs1, hb1⟩))
  go_ret
  exact ⟨rfl, ((hb1.trans (hb2.mono hb1.size)).trans (hb3.mono (Nat.le_trans hb1.size hb2.size))).trans (hb4.mono (Nat.le_trans (Nat.le_trans hb1.size hb2.size) hb3.size))⟩
end Go.Proofs.Ytgfhjkphdmkmoac
