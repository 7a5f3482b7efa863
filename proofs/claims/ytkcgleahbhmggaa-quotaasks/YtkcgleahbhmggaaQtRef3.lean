/-
  The document's quotas: Room, Over.
-/
import Derived.Test.YtkcgleahbhmggaaQtRef
import Derived.Test.YtkcgleahbhmggaaQtAlive
import Derived.Test.YtkcgleahbhmggaaSbRef
namespace Go.Proofs.Ytkcgleahbhmggaa
open Go.RowKit
set_option linter.unusedSimpArgs false
set_option linter.unusedVariables false
set_option maxRecDepth 100000

set_option maxHeartbeats 2000000 in
theorem rqroom_any (w : World) (so : Option Addr) (ps : List Pg) (sc : Nat) (hs : Sb w so ps sc) (ao : Option Addr) (q : List Int) (cap : Nat) (h : Il w ao q cap) (t : Int) (hl : ps.length ≤ 100) :
    Calls Try.prog 20 #[.agg #[.slice so ps.length sc], .slice ao q.length cap, .int .i64 t] w fun e w' => e = .returned (.tuple #[.bool (roomV ps q t), .int .i64 (askE ps q t)]) ∧ Below w.heap.size w w' := by
  have ha : ∀ o, Below w.heap.size w (w.alloc o) := fun o => (Below.refl _ _).alloc (Nat.le_refl _) _
  have hlq := h.len
  have HA := Hid.mk2 (fun W (hb : Below w.heap.size w W) => rasked_any W so ps sc (hs.below hb) ao q cap (h.below hb) t)
  by_cases e : askE ps q t = 0
  · have e1 : roomV ps q t = decide ((owned ps t : Int) < qAt q t) := by simp [roomV, e]
    have HO := Hid.mk2 (fun W (hb : Below w.heap.size w W) => rowned_any W so ps sc (hs.below hb) (by omega) t)
    obtain ⟨T, b, off, rfl, hT, rfl, hbl, hc, h0, h16⟩ := askE_get h e
    rw [e, e1]
    rw [e] at HA
    have hT2 : (T : Int) < (q.length : Int) := by omega
    obtain ⟨Q, hQ⟩ : ∃ Q, Q = qAt q T := ⟨_, rfl⟩
    obtain ⟨O, hO⟩ : ∃ O, O = owned ps T := ⟨_, rfl⟩
    rw [← hQ] at hc ⊢
    rw [← hO] at HO ⊢
    clear hQ hO e e1 h hs h0 h16
    go_enter Try.func20, Try.ntmps20
    go_upto_region 4 with (go_at_call 50; refine (HA.out _ (ha _)).mono ?_; rintro e w2 ⟨rfl, hb2⟩; have z : w2.cell? ⟨b, off + T, none⟩ = some (.int .i64 Q) := (below_cells (below_alloc hb2) _ _ hbl).trans hc; have z2 : w2.cell? ⟨w.heap.size, 0, none⟩ = some (.slice so ps.length sc) := (below_cells hb2 _ 0 (by simp)).trans (by simp); have hs2 : w.heap.size < w2.heap.size := by (have := hb2.size; simp at this; omega))
    have HB2 := Hid.mk2 (below_alloc hb2)
    have hbl2 : b < w2.heap.size := by omega
    have HD : Hid (∀ V, Below w2.heap.size w2 V → Below w.heap.size w V) := fun V hv => HB2.out.trans (hv.mono HB2.out.size)
    clear hb2 ha
    go_region_with (go_at_call 41; refine (HO.out _ (HD.out _ (by first | exact Below.refl _ _ | exact (Below.refl _ _).drew | exact ((Below.refl _ _).alloc (Nat.le_refl _) _).drew | exact (Below.refl _ _).alloc (Nat.le_refl _) _ | exact (Below.refl _ _).drew.alloc (Nat.le_refl _) _))).mono ?_; rintro e w6 ⟨rfl, hb6⟩; have HB6 : Hid (Below w2.heap.size w2 w6) := (by first | exact hb6 | exact below_drew0 hb6); have z6 : w6.cell? ⟨b, off + T, none⟩ = some (.int .i64 Q) := (HB6.out.cell (p := ⟨b, off + T, none⟩) hbl2).trans z; have hb6s : b < w6.heap.size := Nat.lt_of_lt_of_le hbl2 HB6.out.size; clear hb6)
    all_goals
      go_wp2
      go_ret2
      exact ⟨rfl, HD.out _ (by first | exact HB6.out | exact HB6.out.drew)⟩
  · have e1 : roomV ps q t = false := by simp [roomV, e]
    rw [e1]
    obtain ⟨E, hE⟩ : ∃ E, E = askE ps q t := ⟨_, rfl⟩
    rw [← hE] at HA e ⊢
    have e' : (E != 0) = true := by simp [e]
    clear hE e e1 h hs
    go_enter Try.func20, Try.ntmps20
    go_wp2_with (go_at_call 50; refine (HA.out _ (ha _)).mono ?_; rintro e w2 ⟨rfl, hb2⟩)
    go_ret2
    exact ⟨rfl, below_alloc hb2⟩
set_option maxHeartbeats 2000000 in
theorem rqover_any (w : World) (so : Option Addr) (ps : List Pg) (sc : Nat) (hs : Sb w so ps sc) (ao : Option Addr) (q : List Int) (cap : Nat) (h : Il w ao q cap) (t : Int) (hl : ps.length ≤ 100) :
    Calls Try.prog 21 #[.agg #[.slice so ps.length sc], .slice ao q.length cap, .int .i64 t] w fun e w' => e = .returned (.tuple #[.int .i64 (overV ps q t), .int .i64 (askE ps q t)]) ∧ Below w.heap.size w w' := by
  have ha : ∀ o, Below w.heap.size w (w.alloc o) := fun o => (Below.refl _ _).alloc (Nat.le_refl _) _
  have hlq := h.len
  have HA := Hid.mk2 (fun W (hb : Below w.heap.size w W) => rasked_any W so ps sc (hs.below hb) ao q cap (h.below hb) t)
  by_cases e : askE ps q t = 0
  · have e1 : overV ps q t = max ((owned ps t : Int) - qAt q t) 0 := by unfold overV; rw [if_pos e]
    have hol := owned_le ps t
    have HO := Hid.mk2 (fun W (hb : Below w.heap.size w W) => rowned_any W so ps sc (hs.below hb) (by omega) t)
    obtain ⟨T, b, off, rfl, hT, rfl, hbl, hc, h0, h16⟩ := askE_get h e
    rw [e, e1]
    rw [e] at HA
    have hT2 : (T : Int) < (q.length : Int) := by omega
    obtain ⟨Q, hQ⟩ : ∃ Q, Q = qAt q T := ⟨_, rfl⟩
    obtain ⟨O, hO⟩ : ∃ O, O = owned ps T := ⟨_, rfl⟩
    rw [← hQ] at hc h0 h16 ⊢
    rw [← hO] at HO hol ⊢
    clear hQ hO e e1 h hs
    obtain ⟨X, hX⟩ : ∃ X, X = max ((O : Int) - Q) 0 := ⟨_, rfl⟩
    rw [← hX]
    have hcs : ((O : Int) - Q ≤ 0 ∧ X = 0) ∨ (0 < (O : Int) - Q ∧ X = (O : Int) - Q) := by omega
    have HCS := Hid.mk2 hcs
    clear hX hcs
    go_enter Try.func21, Try.ntmps21
    go_upto_region 4 with (go_at_call 50; refine (HA.out _ (ha _)).mono ?_; rintro e w2 ⟨rfl, hb2⟩; have z : w2.cell? ⟨b, off + T, none⟩ = some (.int .i64 Q) := (below_cells (below_alloc hb2) _ _ hbl).trans hc; have z2 : w2.cell? ⟨w.heap.size, 0, none⟩ = some (.slice so ps.length sc) := (below_cells hb2 _ 0 (by simp)).trans (by simp); have hs2 : w.heap.size < w2.heap.size := by (have := hb2.size; simp at this; omega))
    have HB2 := Hid.mk2 (below_alloc hb2)
    have hbl2 : b < w2.heap.size := by omega
    have HD : Hid (∀ V, Below w2.heap.size w2 V → Below w.heap.size w V) := fun V hv => HB2.out.trans (hv.mono HB2.out.size)
    clear hb2 ha
    have hwr : IntKind.i64.wrap ((O : Int) - Q) = (O : Int) - Q := by simp [IntKind.wrap, IntKind.bits, IntKind.signed]; omega
    go_region_with (go_at_call 41; refine (HO.out _ (HD.out _ (by first | exact Below.refl _ _ | exact (Below.refl _ _).drew | exact ((Below.refl _ _).alloc (Nat.le_refl _) _).drew | exact (Below.refl _ _).alloc (Nat.le_refl _) _ | exact (Below.refl _ _).drew.alloc (Nat.le_refl _) _))).mono ?_; rintro e w6 ⟨rfl, hb6⟩; have HB6 : Hid (Below w2.heap.size w2 w6) := (by first | exact hb6 | exact below_drew0 hb6); have z6 : w6.cell? ⟨b, off + T, none⟩ = some (.int .i64 Q) := (HB6.out.cell (p := ⟨b, off + T, none⟩) hbl2).trans z; have hb6s : b < w6.heap.size := Nat.lt_of_lt_of_le hbl2 HB6.out.size; clear hb6)
    all_goals
      go_wp2
      all_goals
        go_ret2
        refine ⟨?_, HD.out _ (by first | exact HB6.out | exact HB6.out.drew)⟩
        show Ending.returned (.tuple #[.int .i64 _, .int .i64 0]) = _
        congr 5
        have := HCS.out
        omega
  · have e1 : overV ps q t = 0 := by unfold overV; rw [if_neg e]
    rw [e1]
    obtain ⟨E, hE⟩ : ∃ E, E = askE ps q t := ⟨_, rfl⟩
    rw [← hE] at HA e ⊢
    have e' : (E != 0) = true := by simp [e]
    clear hE e e1 h hs
    go_enter Try.func21, Try.ntmps21
    go_wp2_with (go_at_call 50; refine (HA.out _ (ha _)).mono ?_; rintro e w2 ⟨rfl, hb2⟩)
    go_ret2
    exact ⟨rfl, below_alloc hb2⟩
end Go.Proofs.Ytkcgleahbhmggaa
