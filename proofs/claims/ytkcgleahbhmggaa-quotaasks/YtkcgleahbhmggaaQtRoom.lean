/-
  Contracts of owned, Room and Over.
-/
import Derived.Test.YtkcgleahbhmggaaQtSet
import Derived.Test.YtkcgleahbhmggaaSbAll
namespace Go.Proofs.Ytkcgleahbhmggaa
open Go.RowKit
set_option linter.unusedSimpArgs false
set_option linter.unusedVariables false
set_option maxRecDepth 100000

theorem hasQ_t {q : List Int} {t : Int} (hl : q.length ≤ 4) (h : hasQ q t = true) : isT t = true := by
  simp [hasQ] at h; simp [isT]; omega
theorem qowned_any (w : World) (so : Option Addr) (ps : List Pg) (sc : Nat) (hs : Sb w so ps sc) (ao : Option Addr) (q : List Int) (cap : Nat) (h : Il w ao q cap) (t : Int) (E O : Int) (hE : askE ps q t = E) (hO : O = if E = 0 then (owned ps t : Int) else 0) :
    Calls Try.prog 47 #[.agg #[.slice so ps.length sc], .slice ao q.length cap, .int .i64 t] w fun e w' => e = .returned (.tuple #[.int .i64 O, .int .i64 E]) ∧ Below w.heap.size w w' := by
  have HC := Hid.mk2 (fun W (hb : Below w.heap.size w W) => scheck_any W so ps sc (hs.below hb))
  have hlq := h.len
  have hlp : ps.length ≤ 9223372036854775807 := by have := hs.hl; have := hs.hc; omega
  have HQ := Hid.mk2 (fun W (hb : Below w.heap.size w W) => qcheck_any ps.length W ao q cap (h.below hb))
  have ha : ∀ o, Below w.heap.size w (w.alloc o) := fun o => (Below.refl _ _).alloc (Nat.le_refl _) _
  cases e1 : sOk ps
  · have e2 : sE ps = 8 := by unfold sE; rw [e1]; rfl
    have e3 : askE ps q t = 8 := by unfold askE; rw [if_pos e1]
    rw [e3] at hE
    subst hE
    have e4 : O = 0 := by rw [hO]; rfl
    subst e4
    rw [e2] at HC
    clear e1 e2 e3 HQ hO h hs
    go_enter Try.func47, Try.ntmps47
    go_wp2_with (go_at_call 35; refine (HC.out _ (ha _)).mono ?_; rintro e w2 ⟨rfl, hb2⟩)
    go_ret2
    exact ⟨rfl, below_alloc hb2⟩
  have e2 : sE ps = 0 := by unfold sE; rw [e1]; rfl
  rw [e2] at HC
  clear e2
  by_cases eC : chkE ps.length q = 0
  · rw [eC] at HQ
    have hh := fun W => qhas_any ao q cap hlq t W
    cases eH : hasQ q t
    · have e3 : askE ps q t = 2 := by unfold askE; rw [if_neg (by simp [e1]), if_neg (by simp [eC]), if_pos eH]
      rw [e3] at hE
      subst hE
      have e4 : O = 0 := by rw [hO]; rfl
      subst e4
      rw [eH] at hh
      clear e1 e3 hO h hs eC eH
      go_enter Try.func47, Try.ntmps47
      go_wp2_with (first
        | (go_at_call 35; refine (HC.out _ (ha _)).mono ?_; rintro e w2 ⟨rfl, hb2⟩; have z : w2.cell? ⟨w.heap.size, 0, none⟩ = some (.slice so ps.length sc) := (below_cells hb2 _ 0 (by simp)).trans (by simp); have hs2 : w.heap.size < w2.heap.size := by (have := hb2.size; simp at this; omega))
        | (go_at_call 16; refine (HQ.out _ (below_alloc hb2)).mono ?_; rintro e w3 ⟨rfl, rfl⟩)
        | (go_at_call 44; refine (hh _).mono ?_; rintro e w4 ⟨rfl, rfl⟩))
      go_ret2
      exact ⟨rfl, below_alloc hb2⟩
    · have e3 : askE ps q t = 0 := by unfold askE; rw [if_neg (by simp [e1]), if_neg (by simp [eC]), if_neg (by simp [eH])]
      rw [e3] at hE
      subst hE
      have e4 : O = (owned ps t : Int) := by rw [hO]; rfl
      have HO := Hid.mk2 (fun W (hb : Below w.heap.size w W) => Owned_any W so ps sc (hs.below hb) e1 t (hasQ_t (mayQ_len (chkE_may eC).2.2).2 eH))
      rw [← e4] at HO
      rw [eH] at hh
      clear e1 e3 hO h hs eC eH e4
      go_enter Try.func47, Try.ntmps47
      go_wp2_with (first
        | (go_at_call 35; refine (HC.out _ (ha _)).mono ?_; rintro e w2 ⟨rfl, hb2⟩; have z : w2.cell? ⟨w.heap.size, 0, none⟩ = some (.slice so ps.length sc) := (below_cells hb2 _ 0 (by simp)).trans (by simp); have hs2 : w.heap.size < w2.heap.size := by (have := hb2.size; simp at this; omega))
        | (go_at_call 16; refine (HQ.out _ (below_alloc hb2)).mono ?_; rintro e w3 ⟨rfl, rfl⟩)
        | (go_at_call 44; refine (hh _).mono ?_; rintro e w4 ⟨rfl, rfl⟩)
        | (go_at_call 25; refine (HO.out _ (below_alloc hb2)).mono ?_; rintro e w5 ⟨rfl, hb5⟩))
      go_ret2
      exact ⟨rfl, (below_alloc hb2).trans (hb5.mono (below_alloc hb2).size)⟩
  · have e3 : askE ps q t = chkE ps.length q := by unfold askE; rw [if_neg (by simp [e1]), if_pos eC]
    rw [e3] at hE
    rw [hE] at HQ eC
    have e4 : O = 0 := by rw [hO, if_neg eC]
    subst e4
    have eC' : (E != 0) = true := by simp [eC]
    clear e1 e3 hO h hs eC hE
    go_enter Try.func47, Try.ntmps47
    go_wp2_with (first
      | (go_at_call 35; refine (HC.out _ (ha _)).mono ?_; rintro e w2 ⟨rfl, hb2⟩; have z : w2.cell? ⟨w.heap.size, 0, none⟩ = some (.slice so ps.length sc) := (below_cells hb2 _ 0 (by simp)).trans (by simp); have hs2 : w.heap.size < w2.heap.size := by (have := hb2.size; simp at this; omega))
      | (go_at_call 16; refine (HQ.out _ (below_alloc hb2)).mono ?_; rintro e w3 ⟨rfl, rfl⟩))
    go_ret2
    exact ⟨rfl, below_alloc hb2⟩
theorem askE_get {w : World} {ao : Option Addr} {ps : List Pg} {q : List Int} {cap : Nat} {t : Int} (h : Il w ao q cap) (e : askE ps q t = 0) :
    ∃ (T b off : Nat), t = (T : Int) ∧ T < q.length ∧ ao = some ⟨b, off, none⟩ ∧ b < w.heap.size ∧ w.cell? ⟨b, off + T, none⟩ = some (.int .i64 (qAt q t)) ∧ 0 ≤ qAt q t ∧ qAt q t ≤ 16 := by
  obtain ⟨h1, h2, h3⟩ := askE_ok e
  have ht : 0 ≤ t ∧ t < (q.length : Int) := by simpa [hasQ] using h3
  obtain ⟨T, rfl⟩ : ∃ T : Nat, t = (T : Int) := ⟨t.toNat, by omega⟩
  have hT : T < q.length := by omega
  have hne : q ≠ [] := by intro e; rw [e] at hT; simp at hT
  obtain ⟨b, off, rfl, hbl, hcs⟩ := h.lies hne
  have hr := mayQ_in (chkE_may h2).2.2 _ (List.getElem_mem hT)
  rw [qAt_get hT]
  exact ⟨T, b, off, rfl, hT, rfl, hbl, hcs T hT, hr⟩
theorem qroom_any (w : World) (so : Option Addr) (ps : List Pg) (sc : Nat) (hs : Sb w so ps sc) (ao : Option Addr) (q : List Int) (cap : Nat) (h : Il w ao q cap) (t : Int) :
    Calls Try.prog 14 #[.agg #[.slice so ps.length sc], .slice ao q.length cap, .int .i64 t] w fun e w' => e = .returned (.tuple #[.bool (roomV ps q t), .int .i64 (askE ps q t)]) ∧ Below w.heap.size w w' := by
  have ha : ∀ o, Below w.heap.size w (w.alloc o) := fun o => (Below.refl _ _).alloc (Nat.le_refl _) _
  have hlq := h.len
  by_cases e : askE ps q t = 0
  · have e1 : roomV ps q t = decide ((owned ps t : Int) < qAt q t) := by simp [roomV, e]
    have HO := Hid.mk2 (fun W (hb : Below w.heap.size w W) => qowned_any W so ps sc (hs.below hb) ao q cap (h.below hb) t 0 (owned ps t) e (by rw [if_pos rfl]))
    obtain ⟨T, b, off, rfl, hT, rfl, hbl, hc, h0, h16⟩ := askE_get h e
    rw [e, e1]
    have hT2 : (T : Int) < (q.length : Int) := by omega
    obtain ⟨Q, hQ⟩ : ∃ Q, Q = qAt q T := ⟨_, rfl⟩
    obtain ⟨O, hO⟩ : ∃ O, O = owned ps T := ⟨_, rfl⟩
    rw [← hQ] at hc ⊢
    rw [← hO] at HO ⊢
    clear hQ hO e e1 h hs h0 h16
    go_enter Try.func14, Try.ntmps14
    go_wp2_with (go_at_call 47; refine (HO.out _ (ha _)).mono ?_; rintro e w2 ⟨rfl, hb2⟩; have z : w2.cell? ⟨b, off + T, none⟩ = some (.int .i64 Q) := (below_cells (below_alloc hb2) _ _ hbl).trans hc)
    go_ret2
    exact ⟨rfl, below_alloc hb2⟩
  · have e1 : roomV ps q t = false := by simp [roomV, e]
    have HO := Hid.mk2 (fun W (hb : Below w.heap.size w W) => qowned_any W so ps sc (hs.below hb) ao q cap (h.below hb) t (askE ps q t) 0 rfl (by rw [if_neg e]))
    rw [e1]
    obtain ⟨E, hE⟩ : ∃ E, E = askE ps q t := ⟨_, rfl⟩
    rw [← hE] at HO e ⊢
    have e' : (E != 0) = true := by simp [e]
    clear hE e e1 h hs
    go_enter Try.func14, Try.ntmps14
    go_wp2_with (go_at_call 47; refine (HO.out _ (ha _)).mono ?_; rintro e w2 ⟨rfl, hb2⟩)
    go_ret2
    exact ⟨rfl, below_alloc hb2⟩
theorem qover_any (w : World) (so : Option Addr) (ps : List Pg) (sc : Nat) (hs : Sb w so ps sc) (ao : Option Addr) (q : List Int) (cap : Nat) (h : Il w ao q cap) (t : Int) :
    Calls Try.prog 15 #[.agg #[.slice so ps.length sc], .slice ao q.length cap, .int .i64 t] w fun e w' => e = .returned (.tuple #[.int .i64 (overV ps q t), .int .i64 (askE ps q t)]) ∧ Below w.heap.size w w' := by
  have ha : ∀ o, Below w.heap.size w (w.alloc o) := fun o => (Below.refl _ _).alloc (Nat.le_refl _) _
  have hlq := h.len
  by_cases e : askE ps q t = 0
  · have e1 : overV ps q t = max ((owned ps t : Int) - qAt q t) 0 := by unfold overV; rw [if_pos e]
    have HO := Hid.mk2 (fun W (hb : Below w.heap.size w W) => qowned_any W so ps sc (hs.below hb) ao q cap (h.below hb) t 0 (owned ps t) e (by rw [if_pos rfl]))
    have hol := owned_le ps t
    have hlp : ps.length ≤ 9223372036854775807 := by have := hs.hl; have := hs.hc; omega
    obtain ⟨T, b, off, rfl, hT, rfl, hbl, hc, h0, h16⟩ := askE_get h e
    rw [e, e1]
    have hT2 : (T : Int) < (q.length : Int) := by omega
    obtain ⟨Q, hQ⟩ : ∃ Q, Q = qAt q T := ⟨_, rfl⟩
    obtain ⟨O, hO⟩ : ∃ O, O = owned ps T := ⟨_, rfl⟩
    rw [← hQ] at hc h0 h16 ⊢
    rw [← hO] at HO hol ⊢
    clear hQ hO e e1 h hs
    go_enter Try.func15, Try.ntmps15
    go_wp2_with (go_at_call 47; refine (HO.out _ (ha _)).mono ?_; rintro e w2 ⟨rfl, hb2⟩; have z : w2.cell? ⟨b, off + T, none⟩ = some (.int .i64 Q) := (below_cells (below_alloc hb2) _ _ hbl).trans hc)
    all_goals
      go_ret2
      refine ⟨?_, below_alloc hb2⟩
      show Ending.returned (.tuple #[.int .i64 _, .int .i64 0]) = _
      congr 5
      omega
  · have e1 : overV ps q t = 0 := by unfold overV; rw [if_neg e]
    have HO := Hid.mk2 (fun W (hb : Below w.heap.size w W) => qowned_any W so ps sc (hs.below hb) ao q cap (h.below hb) t (askE ps q t) 0 rfl (by rw [if_neg e]))
    rw [e1]
    obtain ⟨E, hE⟩ : ∃ E, E = askE ps q t := ⟨_, rfl⟩
    rw [← hE] at HO e ⊢
    have e' : (E != 0) = true := by simp [e]
    clear hE e e1 h hs
    go_enter Try.func15, Try.ntmps15
    go_wp2_with (go_at_call 47; refine (HO.out _ (ha _)).mono ?_; rintro e w2 ⟨rfl, hb2⟩)
    go_ret2
    exact ⟨rfl, below_alloc hb2⟩
end Go.Proofs.Ytkcgleahbhmggaa
