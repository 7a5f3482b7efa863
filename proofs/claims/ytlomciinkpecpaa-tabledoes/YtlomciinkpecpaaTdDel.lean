/-
  The document's table: Del.
-/
import Derived.Test.YtlomciinkpecpaaTdE
namespace Go.Proofs.Ytlomciinkpecpaa
open Go.RowKit
set_option linter.unusedSimpArgs false
set_option linter.unusedVariables false
set_option maxRecDepth 100000

theorem OwnE.de' {w : World} {base : Nat} {ao : Option Addr} {cap : Nat} {T : List NU} (h : OwnE w base (.slice ao T.length cap) T) : De w ao T cap := by
  obtain ⟨ao', cap', e, hs⟩ := h.de
  cases e
  exact hs
theorem OwnE.row {w : World} {base : Nat} {ao : Option Addr} {cap : Nat} {T : List NU} (h : OwnE w base (.slice ao T.length cap) T) : (ao = none ∧ T = [] ∧ cap = 0) ∨ ∃ g, ao = some ⟨g, 0, none⟩ := by
  rcases h.2 with ⟨e, hn⟩ | ⟨g, cap', cur, e, _⟩
  · obtain ⟨h1, _, h3⟩ := Value.slice.inj e
    exact .inl ⟨h1, List.eq_nil_of_length_eq_zero hn, h3⟩
  · exact .inr ⟨g, (Value.slice.inj e).1⟩
/-- a call on the way: its table, its name, its answer -/
structure Bt (w W : World) (ao : Option Addr) (n cap : Nat) (y : Nm) : Prop where
  below : Below w.heap.size w W
  facts : W.cell? ⟨w.heap.size, 0, none⟩ = some (.slice ao n cap) ∧ W.cell? ⟨w.heap.size + 1, 0, none⟩ = some (.int .i64 y.tenant) ∧ W.cell? ⟨w.heap.size + 1, 1, none⟩ = some (.string y.key) ∧ W.cell? ⟨w.heap.size + 1 + 1, 0, none⟩ = some (.slice none 0 0) ∧ W.frozen? ⟨w.heap.size + 1 + 1, 0, none⟩ = false ∧ w.heap.size + 1 + 1 < W.heap.size
theorem Bt.begin (w : World) (ao : Option Addr) (n cap : Nat) (y : Nm) : Bt w (((w.alloc (Obj.cells #[.slice ao n cap] 46)).alloc (Obj.cells #[.int .i64 y.tenant, .string y.key] 28)).alloc (Obj.cells #[.slice none 0 0] 46)) ao n cap y := by
  obtain ⟨w1, hw1⟩ : ∃ w1, w1 = (w.alloc (Obj.cells #[.slice ao n cap] 46)).alloc (Obj.cells #[.int .i64 y.tenant, .string y.key] 28) := ⟨_, rfl⟩
  rw [← hw1]
  obtain ⟨w0, hw0⟩ : ∃ w0, w0 = w1.alloc (Obj.cells #[.slice none 0 0] 46) := ⟨_, rfl⟩
  rw [← hw0]
  have hs1 : w1.heap.size = w.heap.size + 1 + 1 := by rw [hw1]; simp
  have hb0 : Below w.heap.size w w1 := by rw [hw1]; exact ((Below.refl _ _).alloc (Nat.le_refl _) _).alloc (by simp) _
  have hb1 : Below w1.heap.size w1 w0 := by rw [hw0]; exact (Below.refl _ _).alloc (Nat.le_refl _) _
  have x0 : w.heap.size + 1 + 1 < w0.heap.size := by rw [hw0, ← hs1]; simp
  have t0 : w0.cell? ⟨w1.heap.size, 0, none⟩ = some (.slice none 0 0) ∧ w0.frozen? ⟨w1.heap.size, 0, none⟩ = false := by rw [hw0]; simp
  rw [hs1] at t0
  exact ⟨hb0.trans (hb1.mono (by omega)), (bcl hb1 _ _ (by omega)).trans (by rw [hw1]; simp), (bcl hb1 _ _ (by omega)).trans (by rw [hw1]; simp), (bcl hb1 _ _ (by omega)).trans (by rw [hw1]; simp), t0.1, t0.2, x0⟩
theorem Bt.step {w W W' : World} {ao : Option Addr} {n cap : Nat} {y : Nm} (h : Bt w W ao n cap y) (hb : Below W.heap.size W W') : Bt w W' ao n cap y := by
  obtain ⟨k0, k1, k2, k3, k4, k5⟩ := h.facts
  exact ⟨h.below.trans (hb.mono h.below.size), (bcl hb _ _ (by omega)).trans k0, (bcl hb _ _ (by omega)).trans k1, (bcl hb _ _ (by omega)).trans k2, (bcl hb _ _ k5).trans k3, (bfr hb _ _ k5).trans k4, Nat.lt_of_lt_of_le k5 hb.size⟩
theorem OwnE.set1 {w : World} {base X : Nat} {v a : Value} {T : List NU} (h : OwnE w base v T) (hX : ∀ g, v.ownBlock = some g → g ≠ X) : OwnE (w.setCell ⟨X, 0, none⟩ a) base v T :=
  h.same (fun g hg => Below.heap_setCell _ ⟨X, 0, none⟩ a g (hX g hg))
/-- a row from before the call is none of the call's blocks -/
theorem OwnE.early {w W : World} {base : Nat} {v a : Value} {T : List NU} (h : OwnE w base v T) (hb : Below w.heap.size w W) : OwnE (W.setCell ⟨w.heap.size + 1 + 1, 0, none⟩ a) base v T :=
  (h.below hb).set1 (fun g hg => by have := (h.lt g hg).2; omega)
set_option maxHeartbeats 1000000 in
theorem rdel_bad (w : World) (base : Nat) (ao : Option Addr) (D : List NU) (cap : Nat) (h : OwnE w base (.slice ao D.length cap) D) (y : Nm) (hok : ¬ y.ok) :
    Calls Try.prog 31 #[.agg #[.slice ao D.length cap], .agg #[.int .i64 y.tenant, .string y.key]] w fun e w' => e = .returned (.tuple #[.agg #[.slice ao D.length cap], .bool false, .int .i64 8]) ∧ OwnE w' base (.slice ao D.length cap) D ∧ Below w.heap.size w w' := by
  have HNM := Hid.mk2 (fun W => wname_any y W)
  rw [decide_eq_false hok] at HNM
  have HO := Hid.mk2 h
  obtain ⟨w0, hw0⟩ : ∃ x, x = ((w.alloc (Obj.cells #[.slice ao D.length cap] 46)).alloc (Obj.cells #[.int .i64 y.tenant, .string y.key] 28)).alloc (Obj.cells #[.slice none 0 0] 46) := ⟨_, rfl⟩
  have HK0 : Hid (Bt w w0 ao D.length cap y) := by rw [hw0]; exact Bt.begin _ _ _ _ _
  clear h hok
  go_enter Try.func31, Try.ntmps31
  go_upto_region 1 with (fail)
  rw [← hw0]
  clear hw0
  obtain ⟨k0, k1, k2, k3, k4, k5⟩ := HK0.out.facts
  go_wp2_with (go_at_call 43; refine (HNM.out _).mono ?_; rintro e w1 ⟨rfl, hb1⟩; have HK1 := Hid.mk2 (HK0.out.step hb1); clear hb1 k0 k1 k2 k3 k4 k5; obtain ⟨k0, k1, k2, k3, k4, k5⟩ := HK1.out.facts)
  try simp only [Exit.inBlock, Exit.then]
  have z0 := World.cell?_setCell_same w1 ⟨w.heap.size + 1 + 1, 0, none⟩ (.slice ao D.length cap) k3
  exact bodyPost_ret (v := .tuple #[.agg #[.slice ao D.length cap], .bool false, .int .i64 8]) (by simp [results, Try.results31, go_sem, z0]) rfl ⟨rfl, HO.out.early HK1.out.below, HK1.out.below.setCell (by show w.heap.size ≤ w.heap.size + 1 + 1; omega) _⟩
set_option maxHeartbeats 1000000 in
theorem rdel_none (w : World) (base : Nat) (ao : Option Addr) (D : List NU) (cap : Nat) (h : OwnE w base (.slice ao D.length cap) D) (hl : D.length ≤ 1000) (y : Nm) (hok : y.ok) (hf : fis D y = false) :
    Calls Try.prog 31 #[.agg #[.slice ao D.length cap], .agg #[.int .i64 y.tenant, .string y.key]] w fun e w' => e = .returned (.tuple #[.agg #[.slice ao D.length cap], .bool false, .int .i64 0]) ∧ OwnE w' base (.slice ao D.length cap) D ∧ Below w.heap.size w w' := by
  have HNM := Hid.mk2 (fun W => wname_any y W)
  rw [decide_eq_true hok] at HNM
  have HFI := Hid.mk2 (fun W (hb : Below w.heap.size w W) => rfind_any W ao D cap (h.de'.at_.belowD hb) hl h.de'.hl y)
  rw [hf] at HFI
  have HO := Hid.mk2 h
  obtain ⟨w0, hw0⟩ : ∃ x, x = ((w.alloc (Obj.cells #[.slice ao D.length cap] 46)).alloc (Obj.cells #[.int .i64 y.tenant, .string y.key] 28)).alloc (Obj.cells #[.slice none 0 0] 46) := ⟨_, rfl⟩
  have HK0 : Hid (Bt w w0 ao D.length cap y) := by rw [hw0]; exact Bt.begin _ _ _ _ _
  clear h hok hf
  go_enter Try.func31, Try.ntmps31
  go_upto_region 1 with (fail)
  rw [← hw0]
  clear hw0
  obtain ⟨k0, k1, k2, k3, k4, k5⟩ := HK0.out.facts
  go_wp2_with (first | (go_at_call 43; refine (HNM.out _).mono ?_; rintro e w1 ⟨rfl, hb1⟩; have HK1 := Hid.mk2 (HK0.out.step hb1); clear hb1 k0 k1 k2 k3 k4 k5; obtain ⟨k0, k1, k2, k3, k4, k5⟩ := HK1.out.facts) | (go_at_call 44; refine (HFI.out _ HK1.out.below).mono ?_; rintro e w2 ⟨rfl, hb2⟩; have HK2 := Hid.mk2 (HK1.out.step hb2); clear hb2 k0 k1 k2 k3 k4 k5; obtain ⟨k0, k1, k2, k3, k4, k5⟩ := HK2.out.facts))
  try simp only [Exit.inBlock, Exit.then]
  have z0 := World.cell?_setCell_same w2 ⟨w.heap.size + 1 + 1, 0, none⟩ (.slice ao D.length cap) k3
  exact bodyPost_ret (v := .tuple #[.agg #[.slice ao D.length cap], .bool false, .int .i64 0]) (by simp [results, Try.results31, go_sem, z0]) rfl ⟨rfl, HO.out.early HK2.out.below, HK2.out.below.setCell (by show w.heap.size ≤ w.heap.size + 1 + 1; omega) _⟩
set_option maxHeartbeats 1000000 in
theorem rdel_is (w : World) (base : Nat) (ao : Option Addr) (D : List NU) (cap : Nat) (h : OwnE w base (.slice ao D.length cap) D) (hl : D.length ≤ 1000) (y : Nm) (hok : y.ok) (hr : Rise D) (hf : fis D y = true) :
    Calls Try.prog 31 #[.agg #[.slice ao D.length cap], .agg #[.int .i64 y.tenant, .string y.key]] w fun e w' => ∃ ro rc, e = .returned (.tuple #[.agg #[.slice ro (strike y D).length rc], .bool true, .int .i64 0]) ∧ OwnE w' w.heap.size (.slice ro (strike y D).length rc) (strike y D) ∧ Below w.heap.size w w' := by
  have HNM := Hid.mk2 (fun W => wname_any y W)
  rw [decide_eq_true hok] at HNM
  have HFI := Hid.mk2 (fun W (hb : Below w.heap.size w W) => rfind_any W ao D cap (h.de'.at_.belowD hb) hl h.de'.hl y)
  have hlt : fpos D y < D.length := by
    rcases lk_fis (y := y) hr with ⟨h1, _⟩ | ⟨_, h2, _⟩
    · rw [h1] at hf; cases hf
    · exact h2
  obtain ⟨j, hj⟩ : ∃ j, j = fpos D y := ⟨_, rfl⟩
  have HS : Hid (strike y D = D.take j ++ D.drop (j + 1)) := by show _ = _; rw [← ddel_eq hr hf, hj]; rfl
  rw [hf, ← hj] at HFI
  rw [← hj] at hlt
  have HD := Hid.mk2 h.de'
  have hcap := HD.out.hl
  have hcm := HD.out.hc
  unfold maxLen at hcm
  obtain ⟨g, rfl⟩ : ∃ g, ao = some ⟨g, 0, none⟩ := by
    rcases h.row with ⟨_, e, _⟩ | e
    · rw [e] at hlt; simp at hlt
    · exact e
  have htl : (D.take j).length = j := by simp; omega
  have hdl : (D.drop (j + 1)).length = D.length - (j + 1) := by simp
  have hltI : (j : Int) < (D.length : Int) := by omega
  obtain ⟨w0, hw0⟩ : ∃ x, x = ((w.alloc (Obj.cells #[.slice (some ⟨g, 0, none⟩) D.length cap] 46)).alloc (Obj.cells #[.int .i64 y.tenant, .string y.key] 28)).alloc (Obj.cells #[.slice none 0 0] 46) := ⟨_, rfl⟩
  have HK0 : Hid (Bt w w0 (some ⟨g, 0, none⟩) D.length cap y) := by rw [hw0]; exact Bt.begin _ _ _ _ _
  clear h hok hf hr hj
  by_cases hcj : cap = j + 1
  · have hDj : D.length = j + 1 := by omega
    have hdn : D.drop (j + 1) = [] := List.drop_eq_nil_of_le (by omega)
    subst hcj
    have HDJ := Hid.mk2 hDj
    have HDN := Hid.mk2 hdn
    clear hDj hdn
    go_enter Try.func31, Try.ntmps31
    go_upto_region 1 with (fail)
    rw [← hw0]
    clear hw0
    obtain ⟨k0, k1, k2, k3, k4, k5⟩ := HK0.out.facts
    go_upto_region 7 with (first | (go_at_call 43; refine (HNM.out _).mono ?_; rintro e w1 ⟨rfl, hb1⟩; have HK1 := Hid.mk2 (HK0.out.step hb1); clear hb1 k0 k1 k2 k3 k4 k5; obtain ⟨k0, k1, k2, k3, k4, k5⟩ := HK1.out.facts) | (go_at_call 44; refine (HFI.out _ HK1.out.below).mono ?_; rintro e w2 ⟨rfl, hb2⟩; have HK2 := Hid.mk2 (HK1.out.step hb2); clear hb2 k0 k1 k2 k3 k4 k5; obtain ⟨k0, k1, k2, k3, k4, k5⟩ := HK2.out.facts))
    have HD2 := Hid.mk2 (HD.out.below HK2.out.below)
    go_upto_region 8 with (at_builtin; refine app_es rfl (.tmp 23) (.tmp 27) rfl w2.heap.size _ [] (OwnE.nil _ _) rfl (some ⟨g, 0, none⟩) (D.take j) (j + 1) (by first | rfl | (rw [htl]; rfl)) (HD2.out.take j) (by first | (simp; done) | (simp; omega)) (Nat.le_refl _) ?_; rw [List.nil_append]; intro v3 w3 ho3 hg3; have HB3 : Hid (Below w2.heap.size w2 w3) := (Below.refl _ _).grown hg3.grown (Nat.le_refl _) (fun k hk => by cases hk); have HK3 := Hid.mk2 (HK2.out.step HB3.out); clear k0 k1 k2 k3 k4 k5; obtain ⟨k0, k1, k2, k3, k4, k5⟩ := HK3.out.facts)
    clear hg3
    go_wp2_with (at_builtin; refine app_es rfl (.tmp 29) (.tmp 34) rfl w2.heap.size _ _ ho3 rfl (some ⟨g, 0, none⟩) [] 0 (by first | rfl | (simp; done)) ⟨by simp, by simp [maxLen], (by intro e; cases e), .inl rfl⟩ (by first | (simp; done) | (simp; omega)) HB3.out.size ?_; intro v4 w4 ho4 hg4; have HB4 : Hid (Below w2.heap.size w2 w4) := grew_below HB3.out ho3 HB3.out.size hg4; have HK4 := Hid.mk2 (HK2.out.step HB4.out); clear k0 k1 k2 k3 k4 k5; obtain ⟨k0, k1, k2, k3, k4, k5⟩ := HK4.out.facts; rw [List.append_nil] at ho4; have hs4 := HS.out; rw [HDN.out, List.append_nil] at hs4; rw [← hs4] at ho4; clear hs4; obtain ⟨lo, lc, hv, -⟩ := ho4.de; subst hv; have HO4 := Hid.mk2 ho4; clear ho3 ho4 hg4)
    try simp only [Exit.inBlock, Exit.then]
    have z0 := World.cell?_setCell_same w4 ⟨w.heap.size + 1 + 1, 0, none⟩ (.slice lo (strike y D).length lc) k3
    exact bodyPost_ret (v := .tuple #[.agg #[.slice lo (strike y D).length lc], .bool true, .int .i64 0]) (by simp [results, Try.results31, go_sem, z0]) rfl ⟨lo, lc, rfl, (HO4.out.down HK2.out.below.size).set1 (fun g hg => by have := (HO4.out.lt g hg).1; have := HK2.out.facts.2.2.2.2.2; omega), HK4.out.below.setCell (by show w.heap.size ≤ w.heap.size + 1 + 1; omega) _⟩
  · have hcj2 : ¬ j + 1 = cap := fun e => hcj e.symm
    have hcj3 : ¬ (cap : Int) = (j : Int) + 1 := by omega
    go_enter Try.func31, Try.ntmps31
    go_upto_region 1 with (fail)
    rw [← hw0]
    clear hw0
    obtain ⟨k0, k1, k2, k3, k4, k5⟩ := HK0.out.facts
    go_upto_region 7 with (first | (go_at_call 43; refine (HNM.out _).mono ?_; rintro e w1 ⟨rfl, hb1⟩; have HK1 := Hid.mk2 (HK0.out.step hb1); clear hb1 k0 k1 k2 k3 k4 k5; obtain ⟨k0, k1, k2, k3, k4, k5⟩ := HK1.out.facts) | (go_at_call 44; refine (HFI.out _ HK1.out.below).mono ?_; rintro e w2 ⟨rfl, hb2⟩; have HK2 := Hid.mk2 (HK1.out.step hb2); clear hb2 k0 k1 k2 k3 k4 k5; obtain ⟨k0, k1, k2, k3, k4, k5⟩ := HK2.out.facts))
    have HD2 := Hid.mk2 (HD.out.below HK2.out.below)
    go_upto_region 8 with (at_builtin; refine app_es rfl (.tmp 23) (.tmp 27) rfl w2.heap.size _ [] (OwnE.nil _ _) rfl (some ⟨g, 0, none⟩) (D.take j) cap (by first | rfl | (rw [htl]; rfl)) (HD2.out.take j) (by first | (simp; done) | (simp; omega)) (Nat.le_refl _) ?_; rw [List.nil_append]; intro v3 w3 ho3 hg3; have HB3 : Hid (Below w2.heap.size w2 w3) := (Below.refl _ _).grown hg3.grown (Nat.le_refl _) (fun k hk => by cases hk); have HK3 := Hid.mk2 (HK2.out.step HB3.out); clear k0 k1 k2 k3 k4 k5; obtain ⟨k0, k1, k2, k3, k4, k5⟩ := HK3.out.facts)
    clear hg3
    go_wp2_with (at_builtin; refine app_es rfl (.tmp 29) (.tmp 34) rfl w2.heap.size _ _ ho3 rfl (some ⟨g, (j + 1) * 3, none⟩) (D.drop (j + 1)) (cap - (j + 1)) (by first | rfl | (rw [hdl]; rfl)) (by have := (HD2.out.below HB3.out).drop (j + 1) (by omega); rwa [Nat.zero_add] at this) (by first | (simp; done) | (simp; omega)) HB3.out.size ?_; intro v4 w4 ho4 hg4; have HB4 : Hid (Below w2.heap.size w2 w4) := grew_below HB3.out ho3 HB3.out.size hg4; have HK4 := Hid.mk2 (HK2.out.step HB4.out); clear k0 k1 k2 k3 k4 k5; obtain ⟨k0, k1, k2, k3, k4, k5⟩ := HK4.out.facts; rw [← HS.out] at ho4; obtain ⟨lo, lc, hv, -⟩ := ho4.de; subst hv; have HO4 := Hid.mk2 ho4; clear ho3 ho4 hg4)
    try simp only [Exit.inBlock, Exit.then]
    have z0 := World.cell?_setCell_same w4 ⟨w.heap.size + 1 + 1, 0, none⟩ (.slice lo (strike y D).length lc) k3
    exact bodyPost_ret (v := .tuple #[.agg #[.slice lo (strike y D).length lc], .bool true, .int .i64 0]) (by simp [results, Try.results31, go_sem, z0]) rfl ⟨lo, lc, rfl, (HO4.out.down HK2.out.below.size).set1 (fun g hg => by have := (HO4.out.lt g hg).1; have := HK2.out.facts.2.2.2.2.2; omega), HK4.out.below.setCell (by show w.heap.size ≤ w.heap.size + 1 + 1; omega) _⟩
end Go.Proofs.Ytlomciinkpecpaa
