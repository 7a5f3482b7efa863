/-
  Contract of the document's Add (wheel).
-/
import Derived.Test.YthcekkahkioibadWdH
namespace Go.Proofs.Ythcekkahkioibad
open Go.RowKit
set_option linter.unusedSimpArgs false
set_option linter.unusedVariables false
set_option maxRecDepth 100000

theorem wfind_wo (w : World) (now : Int) (ao : Option Addr) (D : List NU) (cap : Nat) (h : De w ao D cap) (hl : D.length ≤ 100000) (ha : D.Pairwise (fun p q => p.1 ≠ q.1)) (y : Nm) :
    Calls Try.prog 69 #[wv now ao D.length cap, .agg #[.int .i64 y.tenant, .string y.key]] w fun e w' => ∃ i : Int, e = .returned (.int .i64 i) ∧ Hid (woI D i = strike y D) ∧ Below w.heap.size w w' := by
  refine (wfind_any w now ao D cap h hl y).mono ?_
  rintro e w' ⟨hb, ⟨rfl, hno⟩ | ⟨k, u, rfl, hk⟩⟩
  · exact ⟨-1, rfl, by show _ = _; rw [woI_none, strike_none hno], hb⟩
  · exact ⟨k, rfl, woI_strike ha hk, hb⟩
theorem OwnE.de' {w : World} {base : Nat} {ao : Option Addr} {cap : Nat} {T : List NU} (h : OwnE w base (.slice ao T.length cap) T) : De w ao T cap := by
  obtain ⟨ao', cap', e, hs⟩ := h.de
  cases e
  exact hs
theorem OwnE.row {w : World} {base : Nat} {ao : Option Addr} {cap : Nat} {T : List NU} (h : OwnE w base (.slice ao T.length cap) T) : (ao = none ∧ T = [] ∧ cap = 0) ∨ ∃ g, ao = some ⟨g, 0, none⟩ := by
  rcases h.2 with ⟨e, hn⟩ | ⟨g, cap', cur, e, _⟩
  · obtain ⟨h1, _, h3⟩ := Value.slice.inj e
    exact .inl ⟨h1, List.eq_nil_of_length_eq_zero hn, h3⟩
  · exact .inr ⟨g, (Value.slice.inj e).1⟩
theorem De.take {w : World} {ao : Option Addr} {D : List NU} {cap : Nat} (h : De w ao D cap) (j : Nat) : De w ao (D.take j) cap := by
  refine ⟨by have := h.hl; simp; omega, h.hc, h.hn, ?_⟩
  rcases h.at_ with rfl | ⟨b, off, e, hb, hc⟩
  · exact .inl (by simp)
  · refine .inr ⟨b, off, e, hb, fun i hi => ?_⟩
    have hi2 : i < D.length := by simp at hi; omega
    have := hc i hi2
    simpa using this
theorem De.drop {w : World} {g off : Nat} {D : List NU} {cap : Nat} (h : De w (some ⟨g, off, none⟩) D cap) (j : Nat) : De w (some ⟨g, off + j * 3, none⟩) (D.drop j) (cap - j) := by
  refine ⟨by have := h.hl; simp; omega, by have := h.hc; omega, (by intro e; cases e), ?_⟩
  rcases h.at_ with rfl | ⟨b, off', e, hb, hc⟩
  · exact .inl (by simp)
  · cases e
    refine .inr ⟨g, off + j * 3, rfl, hb, fun i hi => ?_⟩
    have hi2 : j + i < D.length := by simp at hi; omega
    have := hc (j + i) hi2
    rw [show off + (j + i) * 3 = off + j * 3 + i * 3 by omega] at this
    simpa using this
theorem while_take {q : NU} : ∀ {S : List NU} {j : Nat}, j ≤ S.length → (∀ x ∈ S.take j, tlt x q) → (∀ h : j < S.length, ¬ tlt S[j] q) → insT q S = S.take j ++ [q] ++ S.drop j
  | [], j, hj, h1, h2 => by
    have : j = 0 := by simpa using hj
    subst this
    simp [insT]
  | x :: S, 0, hj, h1, h2 => by
    have h3 := h2 (by simp)
    have h4 : ¬ tlt x q := by simpa using h3
    simp [insT, h4]
  | x :: S, j + 1, hj, h1, h2 => by
    have h4 : tlt x q := h1 x (by simp)
    have ih := while_take (q := q) (S := S) (j := j) (by simpa using hj) (fun z hz => h1 z (by simp [hz])) (fun h => by have := h2 (by simpa using h); simpa using this)
    have e : insT q (x :: S) = x :: insT q S := by simp [insT, h4]
    rw [e, ih]
    simp
/-- does the entry at a place stand ahead? -/
def aheadB (S : List NU) (q : NU) (j : Nat) : Bool := match S[j]? with
  | some x => decide (tlt x q)
  | none => false
theorem ahead_none {S : List NU} {q : NU} {j : Nat} (h : ¬ j < S.length) : aheadB S q j = false := by unfold aheadB; rw [List.getElem?_eq_none (by omega)]
theorem ahead_some {S : List NU} {q : NU} {j : Nat} (h : j < S.length) : aheadB S q j = decide (tlt S[j] q) := by unfold aheadB; rw [List.getElem?_eq_getElem h]
theorem insT_len (q : NU) (D : List NU) : (insT q D).length = D.length + 1 := by rw [(insT_perm q D).length_eq]; rfl
/-- a world on the way of the document's Add: its three blocks -/
structure Bx (w W : World) (now : Int) (ao : Option Addr) (n cap : Nat) (y : Nm) : Prop where
  below : Below w.heap.size w W
  facts : W.cell? ⟨w.heap.size, 0, none⟩ = some (.int .i64 now) ∧ W.cell? ⟨w.heap.size, 1, none⟩ = some (.slice ao n cap) ∧ W.cell? ⟨w.heap.size + 1, 0, none⟩ = some (.int .i64 y.tenant) ∧ W.cell? ⟨w.heap.size + 1, 1, none⟩ = some (.string y.key) ∧ W.cell? ⟨w.heap.size + 1 + 1, 0, none⟩ = some (.int .i64 0) ∧ W.cell? ⟨w.heap.size + 1 + 1, 1, none⟩ = some (.slice none 0 0) ∧ W.frozen? ⟨w.heap.size + 1 + 1, 0, none⟩ = false ∧ W.frozen? ⟨w.heap.size + 1 + 1, 1, none⟩ = false ∧ W.frozen? ⟨w.heap.size, 0, none⟩ = false ∧ W.frozen? ⟨w.heap.size, 1, none⟩ = false ∧ w.heap.size + 1 + 1 < W.heap.size
theorem Bx.begin (w : World) (now : Int) (ao : Option Addr) (n cap : Nat) (y : Nm) : Bx w (((w.alloc (Obj.cells #[.int .i64 now, .slice ao n cap] 45)).alloc (Obj.cells #[.int .i64 y.tenant, .string y.key] 24)).alloc (Obj.cells #[.int .i64 0, .slice none 0 0] 45)) now ao n cap y := by
  obtain ⟨w1, hw1⟩ : ∃ w1, w1 = (w.alloc (Obj.cells #[.int .i64 now, .slice ao n cap] 45)).alloc (Obj.cells #[.int .i64 y.tenant, .string y.key] 24) := ⟨_, rfl⟩
  rw [← hw1]
  obtain ⟨w0, hw0⟩ : ∃ w0, w0 = w1.alloc (Obj.cells #[.int .i64 0, .slice none 0 0] 45) := ⟨_, rfl⟩
  rw [← hw0]
  have hs1 : w1.heap.size = w.heap.size + 1 + 1 := by rw [hw1]; simp
  have hb0 : Below w.heap.size w w1 := by rw [hw1]; exact ((Below.refl _ _).alloc (Nat.le_refl _) _).alloc (by simp) _
  have hb1 : Below w1.heap.size w1 w0 := by rw [hw0]; exact (Below.refl _ _).alloc (Nat.le_refl _) _
  have x0 : w.heap.size + 1 + 1 < w0.heap.size := by rw [hw0, ← hs1]; simp
  have t0 : w0.cell? ⟨w1.heap.size, 0, none⟩ = some (.int .i64 0) ∧ w0.cell? ⟨w1.heap.size, 1, none⟩ = some (.slice none 0 0) ∧ w0.frozen? ⟨w1.heap.size, 0, none⟩ = false ∧ w0.frozen? ⟨w1.heap.size, 1, none⟩ = false := by rw [hw0]; simp
  rw [hs1] at t0
  exact ⟨hb0.trans (hb1.mono (by omega)), (bcl hb1 _ _ (by omega)).trans (by rw [hw1]; simp), (bcl hb1 _ _ (by omega)).trans (by rw [hw1]; simp), (bcl hb1 _ _ (by omega)).trans (by rw [hw1]; simp), (bcl hb1 _ _ (by omega)).trans (by rw [hw1]; simp), t0.1, t0.2.1, t0.2.2.1, t0.2.2.2, (bfr hb1 _ _ (by omega)).trans (by rw [hw1]; simp), (bfr hb1 _ _ (by omega)).trans (by rw [hw1]; simp), x0⟩
theorem Bx.step {w W W' : World} {now : Int} {ao : Option Addr} {n cap : Nat} {y : Nm} (h : Bx w W now ao n cap y) (hb : Below W.heap.size W W') : Bx w W' now ao n cap y := by
  obtain ⟨k0, k1, k2, k3, k4, k5, k6, k7, k8, k9, kA⟩ := h.facts
  exact ⟨h.below.trans (hb.mono h.below.size), (bcl hb _ _ (by omega)).trans k0, (bcl hb _ _ (by omega)).trans k1, (bcl hb _ _ (by omega)).trans k2, (bcl hb _ _ (by omega)).trans k3, (bcl hb _ _ kA).trans k4, (bcl hb _ _ kA).trans k5, (bfr hb _ _ kA).trans k6, (bfr hb _ _ kA).trans k7, (bfr hb _ _ (by omega)).trans k8, (bfr hb _ _ (by omega)).trans k9, Nat.lt_of_lt_of_le kA hb.size⟩
/-- the first block is written anew -/
theorem Bx.set {w W : World} {now : Int} {ao : Option Addr} {n cap : Nat} {y : Nm} (h : Bx w W now ao n cap y) (ro : Option Addr) (m rc : Nat) : Bx w ((W.setCell ⟨w.heap.size, 0, none⟩ (.int .i64 now)).setCell ⟨w.heap.size, 1, none⟩ (.slice ro m rc)) now ro m rc y := by
  obtain ⟨k0, k1, k2, k3, k4, k5, k6, k7, k8, k9, kA⟩ := h.facts
  refine ⟨below_set2 h.below (Nat.le_refl _), set2_0 k0, set2_1 k1, ?_, ?_, ?_, ?_, by simpa using k6, by simpa using k7, by simpa using k8, by simpa using k9, by simpa using kA⟩
  · exact (World.cell?_of_block (set2_heap W _ _ _ (by show w.heap.size + 1 ≠ w.heap.size; omega))).trans k2
  · exact (World.cell?_of_block (set2_heap W _ _ _ (by show w.heap.size + 1 ≠ w.heap.size; omega))).trans k3
  · exact (World.cell?_of_block (set2_heap W _ _ _ (by show w.heap.size + 1 + 1 ≠ w.heap.size; omega))).trans k4
  · exact (World.cell?_of_block (set2_heap W _ _ _ (by show w.heap.size + 1 + 1 ≠ w.heap.size; omega))).trans k5
theorem Bx.drew {w W : World} {now : Int} {ao : Option Addr} {n cap : Nat} {y : Nm} (h : Bx w W now ao n cap y) : Bx w W.drew now ao n cap y := h.step ⟨rfl, rfl, rfl, Nat.le_refl _, fun _ _ => rfl⟩
theorem wadd_bad (w : World) (now : Nat) (ao : Option Addr) (D : List NU) (cap : Nat) (y : Nm) (u : Int) (hE : ¬ addE now y u = 0) :
    Calls Try.prog 45 #[wv now ao D.length cap, .agg #[.int .i64 y.tenant, .string y.key], .int .i64 u] w fun e w' => e = .returned (.tuple #[wv now ao D.length cap, .int .i64 (addE now y u)]) ∧ Below w.heap.size w w' := by
  have HNM := Hid.mk2 (fun W => wname_any y W)
  by_cases hok : y.ok
  · rw [decide_eq_true hok] at HNM
    have hc : u ≤ (now : Int) ∨ 1099511627776 < u := by
      refine Classical.byContradiction fun h => hE ?_
      unfold addE
      rw [if_pos hok, if_neg h]
    have e : addE now y u = 2 := by unfold addE; rw [if_pos hok, if_pos hc]
    rw [e]
    clear hE e
    by_cases h1 : u ≤ (now : Int)
    · have h2 : decide (u ≤ (now : Int)) = true := by simp [h1]
      clear hc hok
      go_enter Try.func45, Try.ntmps45
      go_upto_region 1 with (fail)
      obtain ⟨w0, hw0⟩ : ∃ w0, w0 = ((w.alloc (Obj.cells #[.int .i64 now, .slice ao D.length cap] 45)).alloc (Obj.cells #[.int .i64 y.tenant, .string y.key] 24)).alloc (Obj.cells #[.int .i64 0, .slice none 0 0] 45) := ⟨_, rfl⟩
      rw [← hw0]
      have HK : Hid (Bx w w0 now ao D.length cap y) := by rw [hw0]; exact Bx.begin _ _ _ _ _ _
      clear hw0
      obtain ⟨k0, k1, k2, k3, k4, k5, k6, k7, k8, k9, kA⟩ := HK.out.facts
      go_wp2_with (go_at_call 68; refine (HNM.out _).mono ?_; rintro e w1 ⟨rfl, hb1⟩; have HK1 := Hid.mk2 (HK.out.step hb1); clear hb1 k0 k1 k2 k3 k4 k5 k6 k7 k8 k9 kA; obtain ⟨k0, k1, k2, k3, k4, k5, k6, k7, k8, k9, kA⟩ := HK1.out.facts)
      have z0 := set2_0 (a := .int .i64 now) (b := .slice ao D.length cap) k4
      have z1 := set2_1 (a := .int .i64 now) (b := .slice ao D.length cap) k5
      try simp only [Exit.inBlock, Exit.then]
      exact bodyPost_ret (v := .tuple #[wv now ao D.length cap, .int .i64 2]) (by simp [results, Try.results45, go_sem, z0, z1]) rfl ⟨rfl, below_set2 HK1.out.below (by omega)⟩
    · have h2 : decide (u ≤ (now : Int)) = false := by simp; omega
      have h3 : decide (1099511627776 < u) = true := by simp; omega
      clear hc hok
      go_enter Try.func45, Try.ntmps45
      go_upto_region 1 with (fail)
      obtain ⟨w0, hw0⟩ : ∃ w0, w0 = ((w.alloc (Obj.cells #[.int .i64 now, .slice ao D.length cap] 45)).alloc (Obj.cells #[.int .i64 y.tenant, .string y.key] 24)).alloc (Obj.cells #[.int .i64 0, .slice none 0 0] 45) := ⟨_, rfl⟩
      rw [← hw0]
      have HK : Hid (Bx w w0 now ao D.length cap y) := by rw [hw0]; exact Bx.begin _ _ _ _ _ _
      clear hw0
      obtain ⟨k0, k1, k2, k3, k4, k5, k6, k7, k8, k9, kA⟩ := HK.out.facts
      go_wp2_with (go_at_call 68; refine (HNM.out _).mono ?_; rintro e w1 ⟨rfl, hb1⟩; have HK1 := Hid.mk2 (HK.out.step hb1); clear hb1 k0 k1 k2 k3 k4 k5 k6 k7 k8 k9 kA; obtain ⟨k0, k1, k2, k3, k4, k5, k6, k7, k8, k9, kA⟩ := HK1.out.facts)
      have z0 := set2_0 (a := .int .i64 now) (b := .slice ao D.length cap) k4
      have z1 := set2_1 (a := .int .i64 now) (b := .slice ao D.length cap) k5
      try simp only [Exit.inBlock, Exit.then]
      exact bodyPost_ret (v := .tuple #[wv now ao D.length cap, .int .i64 2]) (by simp [results, Try.results45, go_sem, z0, z1]) rfl ⟨rfl, below_set2 HK1.out.below (by omega)⟩
  · rw [decide_eq_false hok] at HNM
    have e : addE now y u = 8 := by unfold addE; rw [if_neg hok]
    rw [e]
    clear hE e hok
    go_enter Try.func45, Try.ntmps45
    go_upto_region 1 with (fail)
    obtain ⟨w0, hw0⟩ : ∃ w0, w0 = ((w.alloc (Obj.cells #[.int .i64 now, .slice ao D.length cap] 45)).alloc (Obj.cells #[.int .i64 y.tenant, .string y.key] 24)).alloc (Obj.cells #[.int .i64 0, .slice none 0 0] 45) := ⟨_, rfl⟩
    rw [← hw0]
    have HK : Hid (Bx w w0 now ao D.length cap y) := by rw [hw0]; exact Bx.begin _ _ _ _ _ _
    clear hw0
    obtain ⟨k0, k1, k2, k3, k4, k5, k6, k7, k8, k9, kA⟩ := HK.out.facts
    go_wp2_with (go_at_call 68; refine (HNM.out _).mono ?_; rintro e w1 ⟨rfl, hb1⟩; have HK1 := Hid.mk2 (HK.out.step hb1); clear hb1 k0 k1 k2 k3 k4 k5 k6 k7 k8 k9 kA; obtain ⟨k0, k1, k2, k3, k4, k5, k6, k7, k8, k9, kA⟩ := HK1.out.facts)
    have z0 := set2_0 (a := .int .i64 now) (b := .slice ao D.length cap) k4
    have z1 := set2_1 (a := .int .i64 now) (b := .slice ao D.length cap) k5
    try simp only [Exit.inBlock, Exit.then]
    exact bodyPost_ret (v := .tuple #[wv now ao D.length cap, .int .i64 8]) (by simp [results, Try.results45, go_sem, z0, z1]) rfl ⟨rfl, below_set2 HK1.out.below (by omega)⟩
end Go.Proofs.Ythcekkahkioibad
