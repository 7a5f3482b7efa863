/-
  Contracts of copied and New.
-/
import Derived.Test.YtkcgleahbhmggaaSbRoom
namespace Go.Proofs.Ytkcgleahbhmggaa
open Go.RowKit
set_option linter.unusedSimpArgs false
set_option linter.unusedVariables false
set_option maxRecDepth 100000

/-- copy of elements of several cells, over a row's beginning -/
theorem run_copy_size {P : Program} (w : World) (dT sT ty elem : TypeId) (g n dCap : Nat) (a : Addr) (sCap k : Nat) (cur : Array Value) (t : TypeId) (cs : List Value)
    (hu : P.underlying dT = some (.slice elem)) (hs : (P.info? elem).map (·.size) = some k)
    (hg : w.heap[g]? = some (.cells cur t (0, 0))) (hn : cs.length = n * k)
    (hsrc : ∀ j v, cs[j]? = some v → w.cell? (a.add j) = some v) (hfit : cs.length ≤ cur.size) (h1 : ∀ v ∈ cs, v.oneCell' = true) :
    (Builtin.copy_ #[dT, sT] ty #[.slice (some ⟨g, 0, none⟩) n dCap, .slice (some a) n sCap]).run P w =
      .ok (goInt n) (w.setRow g (cs ++ cur.toList.drop cs.length).toArray) := by
  have hl := run_loadCells_list (P := P) w a cs hsrc
  have hst := run_storeCells_at P g 0 t cs 0 cur w hg (by simpa using hfit) h1
  cases hq : P.info? elem with
  | none => simp [hq] at hs
  | some i =>
    have hi : i.size = k := by simpa [hq] using hs
    simp at hst
    simp [Builtin.copy_, run_underlying hu, Builtin.lenOf, Builtin.firstCells, sizeOf, typeInfo, hq, hi, ← hn, hl, hst]

theorem made_pages (n : Nat) : (madeCells (Value.agg #[.int .i64 0, .int .i64 0, .int .u16 0]).cells (n * 3)).toList = (List.replicate n pz).flatMap pcells := by
  apply List.ext_getElem?
  intro j
  by_cases h : j < n * 3
  · have hi : j / 3 < (List.replicate n pz).length := by simp; omega
    obtain ⟨g0, g1, g2⟩ := pcells_get (List.replicate n pz) (j / 3) hi
    have h3 : j % 3 = 0 ∨ j % 3 = 1 ∨ j % 3 = 2 := by omega
    rcases h3 with e | e | e
    · rw [show j / 3 * 3 = j by omega] at g0
      rw [g0]
      simp [madeCells, Value.cells, h, e, pz]
    · rw [show j / 3 * 3 + 1 = j by omega] at g1
      rw [g1]
      simp [madeCells, Value.cells, h, e, pz]
    · rw [show j / 3 * 3 + 2 = j by omega] at g2
      rw [g2]
      simp [madeCells, Value.cells, h, e, pz]
  · have e2 : ((List.replicate n pz).flatMap pcells)[j]? = none := List.getElem?_eq_none (by rw [pcells_len]; simp; omega)
    rw [e2]
    simp [madeCells, h]
theorem made_row {w1 : World} {B g n : Nat} (ho : w1.ownsRow B 30 3 (.slice (some ⟨g, 0, none⟩) n n) n (madeCells (Value.agg #[.int .i64 0, .int .i64 0, .int .u16 0]).cells (n * 3)).toList) :
    w1.heap[g]? = some (.cells ((List.replicate n pz).flatMap pcells).toArray 30 (0, 0)) := by
  rw [made_pages] at ho
  rcases ho.2 with ⟨h, _⟩ | ⟨g', cap, cur, h, hb, hg, hnc, hcm, hcs, htake⟩
  · cases h
  · cases h
    have e : cur.toList = (List.replicate n pz).flatMap pcells := by
      rw [← htake, List.take_of_length_le]
      simp [hcs]
    rw [hg]
    congr 1
    rw [← e]
/-- a row that has just these pages' cells -/
theorem row_pages {w : World} {base g : Nat} {ps : List Pg} (hg : w.heap[g]? = some (.cells (ps.flatMap pcells).toArray 30 (0, 0))) (hb : base ≤ g) (hl : ps.length ≤ 1000) : FreshS w base (.slice (some ⟨g, 0, none⟩) ps.length ps.length) ps := by
  refine ⟨_, ps.length, rfl, Nat.le_refl _, by omega, (by intro e; cases e), .inr ⟨g, rfl, hb, (Array.getElem?_eq_some_iff.1 hg).1, fun j => by simp [World.frozen?, hg], fun i hi => ?_⟩⟩
  obtain ⟨g0, g1, g2⟩ := pcells_get ps i hi
  refine ⟨?_, ?_, ?_⟩
  · simp [World.cell?, hg, g0]
  · simp [World.cell?, hg, g1]
  · simp [World.cell?, hg, g2]
/-- copy of pages over a new row -/
theorem copy_pages (w : World) (ty : TypeId) (g dc : Nat) (ps : List Pg) (b off c : Nat) (hsrc : ∀ i (hi : i < ps.length), PgLies w b (off + i * 3) ps[i])
    (cur : Array Value) (hg : w.heap[g]? = some (.cells cur 30 (0, 0))) (hfit : cur.size = ps.length * 3) :
    (Builtin.copy_ #[31, 31] ty #[.slice (some ⟨g, 0, none⟩) ps.length dc, .slice (some ⟨b, off, none⟩) ps.length c]).run Try.prog w = .ok (goInt ps.length) (w.setRow g (ps.flatMap pcells).toArray) := by
  obtain ⟨i0, hi, hz0, hz1, hz2⟩ := info_parts Try.infoPage
  have hr := run_copy_size (P := Try.prog) w 31 31 ty 30 g ps.length dc ⟨b, off, none⟩ c 3 cur 30 (ps.flatMap pcells) Try.underlying31 (by rw [hi]; simp [hz1]) hg (pcells_len ps) (pg_news hsrc) (by rw [pcells_len]; omega) (pcells_one ps)
  rw [List.drop_of_length_le (by rw [pcells_len]; simp [hfit]), List.append_nil] at hr
  exact hr
theorem scopied_any (w : World) (ao : Option Addr) (ps : List Pg) (cap : Nat) (h : Sb w ao ps cap) (hne : ps ≠ []) (hl : ps.length ≤ 1000) :
    Calls Try.prog 59 #[.agg #[.slice ao ps.length cap]] w fun e w' => ∃ g, e = .returned (.agg #[.slice (some ⟨g, 0, none⟩) ps.length ps.length]) ∧ w.heap.size ≤ g ∧ w'.heap[g]? = some (.cells (ps.flatMap pcells).toArray 30 (0, 0)) ∧ Below w.heap.size w w' := by
  obtain ⟨i0, hi, hz0, hz1, hz2⟩ := info_parts Try.infoPage
  obtain ⟨b, off, rfl, hbl, hcs⟩ := h.lies hne
  have HC := Hid.mk2 hcs
  clear hcs h hne
  go_enter Try.func59, Try.ntmps59
  go_upto_region 1 with (fail)
  obtain ⟨w2, hw2⟩ : ∃ w2, w2 = (w.alloc (Obj.cells #[Value.slice (some ⟨b, off, none⟩) ps.length cap] 33)).alloc (Obj.cells #[Value.slice none 0 0] 33) := ⟨_, rfl⟩
  rw [← hw2]
  have hs2 : w2.heap.size = w.heap.size + 2 := by rw [hw2]; simp
  have hb2 : Below w.heap.size w w2 := by rw [hw2]; exact ((Below.refl _ _).alloc (Nat.le_refl _) _).alloc (by simp) _
  have c0 : w2.cell? ⟨w.heap.size, 0, none⟩ = some (.slice (some ⟨b, off, none⟩) ps.length cap) := by rw [hw2]; simp
  have c1 : w2.cell? ⟨w.heap.size + 1, 0, none⟩ = some (.slice none 0 0) := by rw [hw2]; simp
  have f1 : w2.frozen? ⟨w.heap.size + 1, 0, none⟩ = false := by rw [hw2]; simp
  have x0 : w.heap.size < w2.heap.size := by omega
  have x1 : w.heap.size + 1 < w2.heap.size := by omega
  have HSZ := Hid.mk2 hs2
  have HB2 := Hid.mk2 hb2
  clear hw2 hs2 hb2
  go_upto_region 2 with (at_make; refine wpList_make_full _ rfl (.tmp 6) (.tmp 6) 31 rfl w2.heap.size 30 i0 _ 3 Try.underlying31 hi hz0 hz1 .i64 .i64 _ _ ps.length rfl rfl (by first | rfl | go_num) (by first | rfl | go_num) (by rw [hz2]; omega) (by unfold maxLen; omega) (Nat.le_refl _) ?_; intro w3 ho3 hg3)
  have hr3 := made_row ho3
  have hb3 : Below w2.heap.size w2 w3 := (Below.refl _ _).grown hg3 (Nat.le_refl _) (fun k hk => by cases hk)
  have hs3 : w2.heap.size < w3.heap.size := (Array.getElem?_eq_some_iff.1 hr3).1
  have d0 := (below_cells hb3 _ 0 x0).trans c0
  have d1 := (below_cells hb3 _ 0 x1).trans c1
  have g1 := (below_frozen hb3 _ 0 x1).trans f1
  have y0 : w.heap.size < w3.heap.size := by omega
  have y1 : w.heap.size + 1 < w3.heap.size := by omega
  have HR3 := Hid.mk2 hr3
  have HB3 := Hid.mk2 (HB2.out.trans (hb3.mono (by omega)))
  clear hr3 hb3 ho3 hg3 c0 c1 f1
  obtain ⟨g, hg⟩ : ∃ g, g = w2.heap.size := ⟨_, rfl⟩
  rw [← hg] at HR3 hs3 ⊢
  have hgg : w.heap.size + 1 < g := by omega
  clear hg
  obtain ⟨w4, hw4⟩ : ∃ w4, w4 = w3.setRow g (ps.flatMap pcells).toArray := ⟨_, rfl⟩
  have hrun := copy_pages w3 3 g ps.length ps b off cap (fun i hi => (HC.out i hi).below HB3.out hbl) _ HR3.out (by simp only [pcells_len, List.size_toArray, List.length_replicate])
  rw [← hw4] at hrun
  have HW4 := Hid.mk2 hw4
  clear hw4
  go_upto_region 3 with (fail)
  clear hrun
  have hw4 := HW4.out
  have hr4 : w4.heap[g]? = some (.cells (ps.flatMap pcells).toArray 30 (0, 0)) := by rw [hw4]; exact setRow_heap w3 g _ _ _ _ HR3.out
  have hg4 : w3.grownBy w4 (some g) := by rw [hw4]; exact grownBy_setRow w3 g _
  have e1 : w4.cell? ⟨w.heap.size + 1, 0, none⟩ = some (.slice none 0 0) := hg4.cell (a := ⟨w.heap.size + 1, 0, none⟩) d1 (by intro e; have := Option.some.inj e; simp at this; omega)
  have k1 : w4.frozen? ⟨w.heap.size + 1, 0, none⟩ = false := (World.frozen?_of_block (w := w3) (hg4.block (w.heap.size + 1) y1 (by intro e; have := Option.some.inj e; omega))).trans g1
  have z1 : w.heap.size + 1 < w4.heap.size := by have := hg4.size; omega
  have HR4 := Hid.mk2 hr4
  have HB4 := Hid.mk2 (HB3.out.grown hg4 (by omega) (fun k hk => by cases hk; omega))
  clear hr4 hg4 hw4 HW4 d0 d1 g1 y0 y1
  go_wp2
  have z0 : (w4.setCell ⟨w.heap.size + 1, 0, none⟩ (.slice (some ⟨g, 0, none⟩) ps.length ps.length)).cell? ⟨w.heap.size + 1, 0, none⟩ = some (.slice (some ⟨g, 0, none⟩) ps.length ps.length) := World.cell?_setCell_same _ _ _ e1
  try simp only [Exit.inBlock, Exit.then]
  refine bodyPost_ret (v := .agg #[.slice (some ⟨g, 0, none⟩) ps.length ps.length]) (by simp [results, Try.results59, go_sem, z0]) rfl ⟨g, rfl, by omega, ?_, HB4.out.setCell (by simp) _⟩
  exact (Below.heap_setCell w4 ⟨w.heap.size + 1, 0, none⟩ _ g (by show g ≠ w.heap.size + 1; omega)).trans HR4.out
theorem new_bad_any (n : Int) (w : World) (hn : ¬ (1 ≤ n ∧ n ≤ 16)) :
    Calls Try.prog 33 #[.int .i64 n] w fun e w' => e = .returned (.tuple #[.agg #[.slice none 0 0], .int .i64 2]) ∧ Below w.heap.size w w' := by
  by_cases h : n < 1
  · have h2 : decide (n < 1) = true := by simp [h]
    clear hn
    go_enter Try.func33, Try.ntmps33
    go_wp2
    try simp only [Exit.inBlock, Exit.then]
    refine bodyPost_ret (v := .tuple #[.agg #[.slice none 0 0], .int .i64 2]) (by simp [results, Try.results33, go_sem]) rfl ⟨rfl, (Below.refl _ _).alloc (Nat.le_refl _) _⟩
  · have h1 : decide (n < 1) = false := by simp; omega
    have h2 : decide (16 < n) = true := by simp; omega
    clear hn
    go_enter Try.func33, Try.ntmps33
    go_wp2
    try simp only [Exit.inBlock, Exit.then]
    refine bodyPost_ret (v := .tuple #[.agg #[.slice none 0 0], .int .i64 2]) (by simp [results, Try.results33, go_sem]) rfl ⟨rfl, (Below.refl _ _).alloc (Nat.le_refl _) _⟩
theorem snew_any (n : Nat) (w : World) (hn : 1 ≤ n ∧ n ≤ 16) :
    Calls Try.prog 33 #[.int .i64 n] w fun e w' => ∃ g, e = .returned (.tuple #[.agg #[.slice (some ⟨g, 0, none⟩) n n], .int .i64 0]) ∧ w.heap.size ≤ g ∧ w'.heap[g]? = some (.cells ((List.replicate n pz).flatMap pcells).toArray 30 (0, 0)) ∧ Below w.heap.size w w' := by
  obtain ⟨i0, hi, hz0, hz1, hz2⟩ := info_parts Try.infoPage
  have h1 : decide ((n : Int) < 1) = false := by simp; omega
  have h2 : decide ((16 : Int) < n) = false := by simp; omega
  go_enter Try.func33, Try.ntmps33
  go_upto_region 3 with (fail)
  obtain ⟨w2, hw2⟩ : ∃ w2, w2 = w.alloc (Obj.cells #[Value.slice none 0 0] 33) := ⟨_, rfl⟩
  rw [← hw2]
  have hs2 : w2.heap.size = w.heap.size + 1 := by rw [hw2]; simp
  have hb2 : Below w.heap.size w w2 := by rw [hw2]; exact (Below.refl _ _).alloc (Nat.le_refl _) _
  have c1 : w2.cell? ⟨w.heap.size, 0, none⟩ = some (.slice none 0 0) := by rw [hw2]; simp
  have f1 : w2.frozen? ⟨w.heap.size, 0, none⟩ = false := by rw [hw2]; simp
  have x1 : w.heap.size < w2.heap.size := by omega
  have HB2 := Hid.mk2 hb2
  clear hw2 hs2 hb2
  go_wp2_with (at_make; refine wpList_make_full _ rfl (.tmp 11) (.tmp 11) 31 rfl w2.heap.size 30 i0 _ 3 Try.underlying31 hi hz0 hz1 .i64 .i64 _ _ n rfl rfl (by first | rfl | go_num) (by first | rfl | go_num) (by rw [hz2]; omega) (by unfold maxLen; omega) (Nat.le_refl _) ?_; intro w3 ho3 hg3; have hr3 := made_row ho3; have hb3 : Below w2.heap.size w2 w3 := (Below.refl _ _).grown hg3 (Nat.le_refl _) (fun k hk => by cases hk); have hs3 : w2.heap.size < w3.heap.size := (Array.getElem?_eq_some_iff.1 hr3).1; have d1 := (below_cells hb3 _ 0 x1).trans c1; have g1 := (below_frozen hb3 _ 0 x1).trans f1; have y1 : w.heap.size < w3.heap.size := Nat.lt_trans x1 hs3; have HR3 := Hid.mk2 hr3; have HB3 := Hid.mk2 (HB2.out.trans (hb3.mono (by omega))); clear hr3 hb3 ho3 hg3 c1 f1)
  have z0 : (w3.setCell ⟨w.heap.size, 0, none⟩ (.slice (some ⟨w2.heap.size, 0, none⟩) n n)).cell? ⟨w.heap.size, 0, none⟩ = some (.slice (some ⟨w2.heap.size, 0, none⟩) n n) := World.cell?_setCell_same _ _ _ d1
  try simp only [Exit.inBlock, Exit.then]
  refine bodyPost_ret (v := .tuple #[.agg #[.slice (some ⟨w2.heap.size, 0, none⟩) n n], .int .i64 0]) (by simp [results, Try.results33, go_sem, z0]) rfl ⟨w2.heap.size, rfl, by omega, ?_, HB3.out.setCell (by simp) _⟩
  exact (Below.heap_setCell w3 ⟨w.heap.size, 0, none⟩ _ w2.heap.size (by show w2.heap.size ≠ w.heap.size; omega)).trans HR3.out
end Go.Proofs.Ytkcgleahbhmggaa
