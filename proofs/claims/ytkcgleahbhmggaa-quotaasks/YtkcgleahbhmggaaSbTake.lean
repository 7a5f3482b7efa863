/-
  Contract of Take.
-/
import Derived.Test.YtkcgleahbhmggaaSbCopy
namespace Go.Proofs.Ytkcgleahbhmggaa
open Go.RowKit
set_option linter.unusedSimpArgs false
set_option linter.unusedVariables false
set_option maxRecDepth 100000

/-- a world on the way of a call whose two first blocks hold what came in, and what is answered -/
structure TK (w wq : World) (v : Value) : Prop where
  below : Below w.heap.size w wq
  c0 : wq.cell? ⟨w.heap.size, 0, none⟩ = some v
  c1 : wq.cell? ⟨w.heap.size + 1, 0, none⟩ = some (.slice none 0 0)
  f1 : wq.frozen? ⟨w.heap.size + 1, 0, none⟩ = false
  x0 : w.heap.size < wq.heap.size
  x1 : w.heap.size + 1 < wq.heap.size
theorem TK.step {w wq wr : World} {v : Value} (h : TK w wq v) (hb : Below wq.heap.size wq wr) : TK w wr v :=
  ⟨h.below.trans (hb.mono (Nat.le_of_lt h.x0)), (below_cells hb _ 0 h.x0).trans h.c0, (below_cells hb _ 0 h.x1).trans h.c1, (below_frozen hb _ 0 h.x1).trans h.f1, Nat.lt_of_lt_of_le h.x0 hb.size, Nat.lt_of_lt_of_le h.x1 hb.size⟩
theorem TK.begin (w : World) (v : Value) (t t' : TypeId) : TK w ((w.alloc (Obj.cells #[v] t)).alloc (Obj.cells #[Value.slice none 0 0] t')) v :=
  ⟨((Below.refl _ _).alloc (Nat.le_refl _) _).alloc (by simp) _, by simp, by simp, by simp, by simp; omega, by simp⟩
theorem TK.drew {w wq : World} {v : Value} (h : TK w wq v) : TK w wq.drew v := ⟨⟨h.below.os, h.below.tape, h.below.output, h.below.size, h.below.block⟩, h.c0, h.c1, h.f1, h.x0, h.x1⟩
theorem place_some {ps : List Pg} {t c q : Int} {i k : Nat} (h : place ps t c q = some (i, k)) :
    room ps t c = some (i, k) ∨ (room ps t c = none ∧ (owned ps t : Int) < q ∧ freeP ps = some i ∧ k = 0) := by
  unfold place at h
  cases e : room ps t c with
  | some x => rw [e] at h; simp at h; exact .inl (by rw [h])
  | none =>
    rw [e] at h
    simp only at h
    split at h
    · rename_i hq
      rw [Option.map_eq_some_iff] at h
      obtain ⟨a, h1, h2⟩ := h
      cases h2
      exact .inr ⟨rfl, hq, h1, rfl⟩
    · simp at h
theorem place_none {ps : List Pg} {t c q : Int} (h : place ps t c q = none) : room ps t c = none ∧ (¬ (owned ps t : Int) < q ∨ freeP ps = none) := by
  unfold place at h
  cases e : room ps t c with
  | some x => rw [e] at h; simp at h
  | none =>
    rw [e] at h
    simp only at h
    split at h
    · rw [Option.map_eq_none_iff] at h
      exact ⟨rfl, .inr h⟩
    · rename_i hq
      exact ⟨rfl, .inl hq⟩
theorem place_lt {ps : List Pg} {t c q : Int} {i k : Nat} (hc : isC c = true) (h : place ps t c q = some (i, k)) : ∃ hi : i < ps.length, k < chunks c ∧ ps[i].u.testBit k = false ∧ (ps[i].u = 0 ∨ (ps[i].t = t ∧ ps[i].c = c)) := by
  rcases place_some h with h | ⟨_, _, h2, rfl⟩
  · obtain ⟨hi, h1, h2, h3, h4⟩ := room_some h
    obtain ⟨a, b, _⟩ := lowFree_some h4
    exact ⟨hi, a, b, .inr ⟨h2, h3⟩⟩
  · obtain ⟨hi, h1⟩ := freeP_some h2
    exact ⟨hi, (chunks_le hc).1, by rw [h1]; simp, .inl h1⟩
theorem sOk_len {ps : List Pg} (h : sOk ps = true) : 1 ≤ ps.length ∧ ps.length ≤ 16 := by
  unfold sOk at h
  simp at h
  exact h.1
theorem sOk_pg {ps : List Pg} (h : sOk ps = true) (i : Nat) (hi : i < ps.length) : pOk ps[i] = true := by
  unfold sOk at h
  simp only [Bool.and_eq_true, List.all_eq_true] at h
  exact h.2 _ (List.getElem_mem hi)

/-- Take's error ahead of the looking -/
theorem take_bad1 (w : World) (ao : Option Addr) (ps : List Pg) (cap : Nat) (h : Sb w ao ps cap) (t c q : Int) (he : ¬ tE ps t = 0) :
    Calls Try.prog 26 #[.agg #[.slice ao ps.length cap], .int .i64 t, .int .i64 c, .int .i64 q] w fun e w' => e = .returned (.tuple #[.agg #[.slice none 0 0], .int .i64 0, .int .i64 0, .int .i64 (tE ps t)]) ∧ Below w.heap.size w w' := by
  have HCT := Hid.mk2 (fun W (hb : Below w.heap.size w W) => checkTenant_any W ao ps cap (h.below hb) t)
  obtain ⟨E, hE⟩ : ∃ E, E = tE ps t := ⟨_, rfl⟩
  rw [← hE] at he HCT ⊢
  have he2 : (E != 0) = true := by simp [he]
  clear hE h he
  go_enter Try.func26, Try.ntmps26
  go_upto_region 1 with (fail)
  obtain ⟨w0, hw0⟩ : ∃ w0, w0 = (w.alloc (Obj.cells #[Value.slice ao ps.length cap] 33)).alloc (Obj.cells #[Value.slice none 0 0] 33) := ⟨_, rfl⟩
  rw [← hw0]
  have T0 : TK w w0 (.slice ao ps.length cap) := by rw [hw0]; exact TK.begin _ _ _ _
  have a0 := T0.c0
  have x0 := T0.x0
  have HT0 := Hid.mk2 T0
  clear hw0 T0
  go_wp2_with (go_at_call 54; refine (HCT.out _ HT0.out.below).mono ?_; rintro e w1 ⟨rfl, hb1⟩; have T1 := HT0.out.step hb1; have a1 := T1.c1; have b1 := T1.f1; have x1 := T1.x1; have HT1 := Hid.mk2 T1.below; clear T1 hb1)
  have z0 : (w1.setCell ⟨w.heap.size + 1, 0, none⟩ (.slice none 0 0)).cell? ⟨w.heap.size + 1, 0, none⟩ = some (.slice none 0 0) := World.cell?_setCell_same _ _ _ a1
  try simp only [Exit.inBlock, Exit.then]
  refine bodyPost_ret (v := .tuple #[.agg #[.slice none 0 0], .int .i64 0, .int .i64 0, .int .i64 E]) (by simp [results, Try.results26, go_sem, z0]) rfl ⟨rfl, HT1.out.setCell (by simp) _⟩
theorem take_bad2 (w : World) (ao : Option Addr) (ps : List Pg) (cap : Nat) (h : Sb w ao ps cap) (t c q : Int) (he : tE ps t = 0) (hcq : isC c = false ∨ isQ q = false) :
    Calls Try.prog 26 #[.agg #[.slice ao ps.length cap], .int .i64 t, .int .i64 c, .int .i64 q] w fun e w' => e = .returned (.tuple #[.agg #[.slice none 0 0], .int .i64 0, .int .i64 0, .int .i64 2]) ∧ Below w.heap.size w w' := by
  have HCT := Hid.mk2 (fun W (hb : Below w.heap.size w W) => checkTenant_any W ao ps cap (h.below hb) t)
  rw [he] at HCT
  clear h he
  have hic := fun W => isClass_any c W
  have hcase : isC c = false ∨ (isC c = true ∧ decide (q < 0) = true) ∨ (isC c = true ∧ decide (q < 0) = false ∧ decide (16 < q) = true) := by
    cases e : isC c
    · exact .inl rfl
    · rcases hcq with h | h
      · rw [e] at h; cases h
      · simp [isQ] at h
        by_cases h0 : q < 0
        · exact .inr (.inl ⟨rfl, by simp [h0]⟩)
        · exact .inr (.inr ⟨rfl, by simp; omega, by simp; omega⟩)
  clear hcq
  rcases hcase with h1 | ⟨h1, h2⟩ | ⟨h1, h2, h3⟩
  all_goals
    rw [h1] at hic
    clear h1
    go_enter Try.func26, Try.ntmps26
    go_upto_region 1 with (fail)
    obtain ⟨w0, hw0⟩ : ∃ w0, w0 = (w.alloc (Obj.cells #[Value.slice ao ps.length cap] 33)).alloc (Obj.cells #[Value.slice none 0 0] 33) := ⟨_, rfl⟩
    rw [← hw0]
    have T0 : TK w w0 (.slice ao ps.length cap) := by rw [hw0]; exact TK.begin _ _ _ _
    have a0 := T0.c0
    have x0 := T0.x0
    have HT0 := Hid.mk2 T0
    clear hw0 T0
    go_wp2_with (first
      | (go_at_call 54; refine (HCT.out _ HT0.out.below).mono ?_; rintro e w1 ⟨rfl, hb1⟩; have T1 := HT0.out.step hb1; have a1 := T1.c1; have b1 := T1.f1; have x1 := T1.x1; have HT1 := Hid.mk2 T1.below; clear T1 hb1)
      | (go_at_call 56; refine (hic _).mono ?_; rintro e w2 ⟨rfl, hwq⟩; obtain rfl : w1 = w2 := hwq.symm))
    have z0 : (w1.setCell ⟨w.heap.size + 1, 0, none⟩ (.slice none 0 0)).cell? ⟨w.heap.size + 1, 0, none⟩ = some (.slice none 0 0) := World.cell?_setCell_same _ _ _ a1
    try simp only [Exit.inBlock, Exit.then]
    exact bodyPost_ret (v := .tuple #[.agg #[.slice none 0 0], .int .i64 0, .int .i64 0, .int .i64 2]) (by simp [results, Try.results26, go_sem, z0]) rfl ⟨rfl, HT1.out.setCell (by simp) _⟩
/-- behind the storing of a page -/
theorem take_end {w w8 w9 : World} {g i : Nat} {t c : Int} {p : Pg} {b : Value} {ps : List Pg}
    (hw9 : w9 = (((w8.setCell ⟨g, i * 3, none⟩ (.int .i64 t)).setCell ⟨g, i * 3 + 1, none⟩ (.int .i64 c)).setCell ⟨g, i * 3 + 2, none⟩ (.int .u16 (p.u : Int))).drew)
    (hb : Below w.heap.size w w8) (hg : w.heap.size + 1 < g) (hgs : g < w8.heap.size) (hc : w8.cell? ⟨w.heap.size + 1, 0, none⟩ = some b) (hf : w8.frozen? ⟨w.heap.size + 1, 0, none⟩ = false) (hfr : ∀ j, w8.frozen? ⟨g, j, none⟩ = false)
    (hl : ∀ j (hj : j < ps.length), PgLies (((w8.setCell ⟨g, i * 3, none⟩ (.int .i64 t)).setCell ⟨g, i * 3 + 1, none⟩ (.int .i64 c)).setCell ⟨g, i * 3 + 2, none⟩ (.int .u16 (p.u : Int))) g (j * 3) ps[j]) :
    w9.cell? ⟨w.heap.size + 1, 0, none⟩ = some b ∧ w9.frozen? ⟨w.heap.size + 1, 0, none⟩ = false ∧ w.heap.size + 1 < w9.heap.size ∧ Hid (Below w.heap.size w w9) ∧ Hid (g < w9.heap.size ∧ (∀ j, w9.frozen? ⟨g, j, none⟩ = false) ∧ ∀ j (hj : j < ps.length), PgLies w9 g (j * 3) ps[j]) := by
  obtain ⟨x, hx⟩ : ∃ x, x = ((w8.setCell ⟨g, i * 3, none⟩ (.int .i64 t)).setCell ⟨g, i * 3 + 1, none⟩ (.int .i64 c)).setCell ⟨g, i * 3 + 2, none⟩ (.int .u16 (p.u : Int)) := ⟨_, rfl⟩
  rw [← hx] at hw9 hl
  have hgr : w8.grownBy x (some g) := by rw [hx]; exact ((grown_set _ _ _ _).trans (grown_set _ _ _ _)).trans (grown_set _ _ _ _)
  have hs : x.heap.size = w8.heap.size := by rw [hx]; simp
  have hfx : ∀ j, x.frozen? ⟨g, j, none⟩ = false := by intro j; rw [hx]; simpa using hfr j
  have hfy : x.frozen? ⟨w.heap.size + 1, 0, none⟩ = false := by rw [hx]; simpa using hf
  have hbx := hb.grown hgr (by omega) (fun k hk => by cases hk; omega)
  have hcx := hgr.cell (a := ⟨w.heap.size + 1, 0, none⟩) hc (by intro e; have := Option.some.inj e; simp at this; omega)
  clear hx
  subst hw9
  exact ⟨hcx, hfy, by show _ < x.heap.size; omega, ⟨hbx.os, hbx.tape, hbx.output, hbx.size, hbx.block⟩, by show _ < x.heap.size; omega, hfx, hl⟩
theorem fresh_end {w9 : World} {S g base n : Nat} {v : Value} {ps : List Pg} (h : g < w9.heap.size ∧ (∀ j, w9.frozen? ⟨g, j, none⟩ = false) ∧ ∀ j (hj : j < ps.length), PgLies w9 g (j * 3) ps[j]) (hb : base ≤ g) (hg : S < g ∧ n ≤ 1000) (hn : n = ps.length) : FreshS (w9.setCell ⟨S, 0, none⟩ v) base (.slice (some ⟨g, 0, none⟩) n n) ps := by
  subst hn
  refine ⟨_, _, rfl, Nat.le_refl _, by omega, (by intro e; cases e), .inr ⟨g, rfl, hb, by simpa using h.1, fun j => by simpa using h.2.1 j, fun j hj => ?_⟩⟩
  exact (h.2.2 j hj).grown (grown_set w9 S 0 v) (by intro e; have := Option.some.inj e; omega)
end Go.Proofs.Ytkcgleahbhmggaa
