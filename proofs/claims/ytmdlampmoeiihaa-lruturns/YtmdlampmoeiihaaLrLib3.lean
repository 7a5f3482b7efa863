/-
  The library's functions over rows of keys, on: Insert at the front, Grow, Concat.
-/
import Derived.Test.YtmdlampmoeiihaaLrLib2
import Derived.Deep.Upon
namespace Go.Proofs.Ytmdlampmoeiihaa
open Go.RowKit Go.Shelf Go.Lib Go.Sort
set_option linter.unusedSimpArgs false
set_option linter.unusedVariables false
set_option maxRecDepth 100000

theorem heap_set {w : World} {g o : Nat} {v : Value} {cur : Array Value} {t : TypeId} {m : Nat × Nat} (h : w.heap[g]? = some (.cells cur t m)) : (w.setCell ⟨g, o, none⟩ v).heap[g]? = some (.cells (cur.setIfInBounds o v) t m) := by
  unfold World.setCell
  simp [Array.getElem?_modify, h]
theorem heap_sets {g : Nat} {t : TypeId} {m : Nat × Nat} : ∀ (vs : List Value) (o : Nat) {w : World} {cur : Array Value}, w.heap[g]? = some (.cells cur t m) → ∃ cur', (w.setCells g o vs).heap[g]? = some (.cells cur' t m) ∧ cur'.size = cur.size
  | [], o, w, cur, h => ⟨cur, h, rfl⟩
  | v :: vs, o, w, cur, h => by
    obtain ⟨cur', h1, h2⟩ := heap_sets vs (o + 1) (heap_set (o := o) (v := v) h)
    exact ⟨cur', h1, by rw [h2]; simp⟩
theorem tape_sets (g : Nat) : ∀ (vs : List Value) (o : Nat) (w : World), (w.setCells g o vs).tape = w.tape
  | [], o, w => rfl
  | v :: vs, o, w => (tape_sets g vs (o + 1) _).trans rfl
theorem size_sets (g : Nat) : ∀ (vs : List Value) (o : Nat) (w : World), (w.setCells g o vs).heap.size = w.heap.size
  | [], o, w => rfl
  | v :: vs, o, w => (size_sets g vs (o + 1) _).trans (by simp)
theorem grown_sets (w : World) (g o : Nat) (vs : List Value) : w.grownBy (w.setCells g o vs) (some g) :=
  ⟨World.os_setCells _ _ _ _, tape_sets g vs _ _, World.output_setCells _ _ _ _, by rw [size_sets]; exact Nat.le_refl _, fun k hk hne => World.heap_setCells_other w g _ vs hk (fun e => hne (by rw [e]))⟩
theorem grown_drew (w : World) (row : Option Nat) : w.grownBy w.drew row := ⟨rfl, rfl, rfl, Nat.le_refl _, fun _ _ _ => rfl⟩
/-- the keys, and one ahead of them, laid into a row -/
theorem sets_front {w : World} {g : Nat} {cur : Array Value} {t : TypeId} (hg : w.heap[g]? = some (.cells cur t (0, 0))) (ks : List ByteArray) (k : ByteArray) (hsz : ks.length + 1 ≤ cur.size) :
    ∃ cur', ((w.setCells g 1 (ks.map Value.string)).setCells g 0 [.string k]).heap[g]? = some (.cells cur' t (0, 0)) ∧ cur'.size = cur.size ∧ ∀ j (hj : j < (k :: ks).length), ((w.setCells g 1 (ks.map Value.string)).setCells g 0 [.string k]).cell? ⟨g, j, none⟩ = some (.string (k :: ks)[j]) := by
  obtain ⟨c1, h1, s1⟩ := heap_sets (ks.map Value.string) 1 hg
  obtain ⟨c2, h2, s2⟩ := heap_sets [Value.string k] 0 h1
  refine ⟨c2, h2, by omega, fun j hj => ?_⟩
  cases j with
  | zero =>
    have := World.cell?_setCells_in g [Value.string k] 0 (w.setCells g 1 (ks.map Value.string)) (fun t ht => by rw [cell_of_heap h1, Array.getElem?_eq_getElem (by simp at ht; omega)]; rfl) 0 (by simp)
    simpa using this
  | succ j =>
    rw [World.cell?_setCells_out g [Value.string k] _ _ ⟨g, j + 1, none⟩ (fun _ _ => .inr (by simp))]
    have hj2 : j < ks.length := by simpa using hj
    have := World.cell?_setCells_in g (ks.map Value.string) 1 w (fun t ht => by rw [cell_of_heap hg, Array.getElem?_eq_getElem (by simp at ht; omega)]; rfl) j (by simpa using hj2)
    rw [Nat.add_comm 1 j] at this
    rw [this]
    simp
theorem sets_front2 {w : World} {g : Nat} {cur : Array Value} {t : TypeId} (hg : w.heap[g]? = some (.cells cur t (0, 0))) (ks : List ByteArray) (k : ByteArray) (hsz : ks.length + 1 ≤ cur.size) :
    ∃ cur', ((w.setCells g 0 [.string k]).drew.setCells g 1 (ks.map Value.string)).heap[g]? = some (.cells cur' t (0, 0)) ∧ cur'.size = cur.size ∧ ∀ j (hj : j < (k :: ks).length), ((w.setCells g 0 [.string k]).drew.setCells g 1 (ks.map Value.string)).cell? ⟨g, j, none⟩ = some (.string (k :: ks)[j]) := by
  obtain ⟨c1, h1, s1⟩ := heap_sets [Value.string k] 0 hg
  have h1d : (w.setCells g 0 [.string k]).drew.heap[g]? = some (.cells c1 t (0, 0)) := h1
  obtain ⟨c2, h2, s2⟩ := heap_sets (ks.map Value.string) 1 h1d
  refine ⟨c2, h2, by omega, fun j hj => ?_⟩
  cases j with
  | zero =>
    rw [World.cell?_setCells_out g (ks.map Value.string) _ _ ⟨g, 0, none⟩ (fun _ _ => .inl (by simp))]
    have := World.cell?_setCells_in g [Value.string k] 0 w (fun t ht => by rw [cell_of_heap hg, Array.getElem?_eq_getElem (by simp at ht; omega)]; rfl) 0 (by simp)
    simpa using this
  | succ j =>
    have hj2 : j < ks.length := by simpa using hj
    have := World.cell?_setCells_in g (ks.map Value.string) 1 (w.setCells g 0 [.string k]).drew (fun t ht => by rw [cell_of_heap h1d, Array.getElem?_eq_getElem (by simp at ht; omega)]; rfl) j (by simpa using hj2)
    rw [Nat.add_comm 1 j] at this
    rw [this]
    simp
theorem zeros_size (n : Nat) : (Builtin.zeroCells (Value.string ⟨#[]⟩).cells n).size = n := by
  unfold Builtin.zeroCells
  simp [Value.cells]
theorem alloc_heap (w : World) (o : Obj) : (w.alloc o).heap[w.heap.size]? = some o := heap_alloc_new w o
set_option maxHeartbeats 1000000 in
theorem insert_any (w : World) (base : Nat) (v : Value) (ks : List ByteArray) (h : OwnTs w base v ks) (k : ByteArray) (vb : Nat) (hvb : w.heap[vb]? = some (.cells #[.string k] 9 (0, 0))) (hne : v.ownBlock ≠ some vb) (hbase : base ≤ w.heap.size) (hl : ks.length ≤ 1000) :
    Calls Try.prog 33 #[v, .int .i64 0, .slice (some ⟨vb, 0, none⟩) 1 1] w fun e w' => ∃ v', e = .returned v' ∧ OwnTs w' base v' (k :: ks) ∧ Grew w w' v v' := by
  have hvs : ∀ j u, [Value.string k][j]? = some u → w.cell? ⟨vb, 0 + j, none⟩ = some u := by
    intro j u hu
    rw [cell_of_heap hvb, Nat.zero_add]
    simpa using hu
  have h1v : ∀ u ∈ [Value.string k], u.oneCell' = true := by intro u hu; simp at hu; subst hu; rfl
  have hmx : maxLen = 9223372036854775807 := rfl
  -- a new row of one key
  have one : ∀ c, ∃ v', Ending.returned (.slice (some ⟨w.heap.size, 0, none⟩) (0 + 1) (grownCap w (0 + 1) c 9)) = .returned v' ∧ OwnTs (w.drew.alloc (.cells (([] ++ [Value.string k]).toArray ++ Builtin.zeroCells (Value.string ⟨#[]⟩).cells (grownCap w (0 + 1) c 9 - (0 + 1))) 9)) base v' [k] ∧ ∀ row, w.grownBy (w.drew.alloc (.cells (([] ++ [Value.string k]).toArray ++ Builtin.zeroCells (Value.string ⟨#[]⟩).cells (grownCap w (0 + 1) c 9 - (0 + 1))) 9)) row ∧ ∀ g, v'.ownBlock = some g → w.heap.size ≤ g := by
    intro c
    have hge := grownCap_ge w (0 + 1) c 9
    refine ⟨_, rfl, ?_, fun row => ⟨(grown_drew w row).trans (World.grownBy_alloc _ _ _), fun g hg => by simp [Value.ownBlock] at hg; omega⟩⟩
    obtain ⟨o, ho⟩ : ∃ o : Array Value, o = ([] ++ [Value.string k]).toArray ++ Builtin.zeroCells (Value.string ⟨#[]⟩).cells (grownCap w (0 + 1) c 9 - (0 + 1)) := ⟨_, rfl⟩
    rw [← ho]
    have hh : (w.drew.alloc (.cells o 9)).heap[w.heap.size]? = some (.cells o 9 (0, 0)) := alloc_heap w.drew _
    refine OwnTs.mk' (ks := [k]) (cap := grownCap w (0 + 1) c 9) hbase hh (by rw [ho, Array.size_append, zeros_size]; show 1 + _ = _; omega) hge (grownCap_le_maxLen w _ _ _ (by omega)) (fun j hj => ?_)
    have : j = 0 := by simp at hj; omega
    subst this
    rw [cell_of_heap hh, ho, Array.getElem?_append_left (by simp)]
    rfl
  rcases h.parts with ⟨rfl, rfl⟩ | ⟨g, cap, cur, rfl, hb, hg, hs, hn, hm, hc⟩
  · refine (Any2.slices_Insert_string_end_grow Try.layInsert none 0 0 vb 0 1 1 [] [.string k] w (by omega) (by omega) (by omega) (by omega) rfl rfl (fun _ => rfl) (fun a e => by cases e) hvs h1v).mono ?_
    rintro e w' ⟨rfl, rfl⟩
    obtain ⟨v', e1, e2, e3⟩ := one 0
    exact ⟨v', e1, e2, (e3 _).1, fun g hg => .inr ((e3 none).2 g hg)⟩
  · have hnb : g ≠ vb := fun e => hne (by rw [e]; rfl)
    have hsome : ∀ j, j < cap → (w.cell? ⟨g, 0 + j, none⟩).isSome = true := fun j hj => by rw [cell_of_heap hg, Array.getElem?_eq_getElem (by omega)]; rfl
    have hfz : ∀ j, w.frozen? ⟨g, 0 + j, none⟩ = false := fun j => frozen_of_heap hg _
    have hcs : ∀ j u, (ks.map Value.string)[j]? = some u → w.cell? ⟨g, 0 + j, none⟩ = some u := by
      intro j u hu
      have := str_news (off := 0) (fun j hj => by rw [Nat.zero_add]; exact hc j hj) j u hu
      rwa [addr_add] at this
    by_cases h0 : ks = []
    · subst h0
      by_cases hr : 0 + 1 ≤ cap
      · refine (Any2.slices_Insert_string_end_room Try.layInsert g 0 0 cap vb 0 1 1 [.string k] w (by omega) hr hm rfl (fun j hj => hsome j (by omega)) (fun j hj => hfz j) hvs h1v).mono ?_
        rintro e w' ⟨rfl, rfl⟩
        have hf := sets_front hg [] k (by simp; omega)
        obtain ⟨c', e1, e2, e3⟩ := hf
        exact ⟨_, rfl, OwnTs.mk' (ks := [k]) hb e1 (by omega) hr hm e3, grown_sets _ _ _ _, fun x hx => .inl hx⟩
      · refine (Any2.slices_Insert_string_end_grow Try.layInsert (some ⟨g, 0, none⟩) 0 cap vb 0 1 1 [] [.string k] w (by omega) (by omega) (by omega) (by omega) rfl rfl (fun _ => rfl) (fun a e => by intro j u hu; simp at hu) hvs h1v).mono ?_
        rintro e w' ⟨rfl, rfl⟩
        obtain ⟨v', e1, e2, e3⟩ := one cap
        exact ⟨v', e1, e2, (e3 _).1, fun g hg => .inr ((e3 none).2 g hg)⟩
    · have hpos : 0 < ks.length := List.length_pos_iff.2 h0
      by_cases hr : ks.length + 1 ≤ cap
      · have hcon := Any2.slices_Insert_string_shift Try.layInsert g 0 ks.length cap 0 vb 0 1 1 (ks.map Value.string) [.string k] w hpos (by omega) hr hm (Ne.symm hnb) (by simp) rfl hcs (fun j hj => hsome j (by omega)) (fun j hj => hfz j) hvs (str_one ks) h1v 9 9 1 cur.size (by simp [World.shape?, hvb]) (by simp [World.shape?, hg]) (by omega) (frozen_of_heap hvb _) (frozen_of_heap hvb _)
        refine hcon.mono ?_
        rintro e w' ⟨rfl, rfl⟩
        have hgd : w.drew.heap[g]? = some (.cells cur 9 (0, 0)) := hg
        obtain ⟨c', e1, e2, e3⟩ := sets_front hgd ks k (by omega)
        have hl2 : ks.length + 1 = (k :: ks).length := by simp
        simp only [List.drop_zero, Nat.zero_add, hl2]
        exact ⟨_, rfl, OwnTs.mk' (ks := k :: ks) hb e1 (by omega) hr hm e3, ((grown_drew w _).trans (grown_sets _ _ _ _)).trans (grown_sets _ _ _ _), fun x hx => .inl hx⟩
      · have hcon := Any2.slices_Insert_string_grow Try.layInsert g 0 ks.length cap 0 vb 0 1 1 (ks.map Value.string) [.string k] w hpos (by omega) hn (by omega) (by omega) (by simp) rfl hcs hvs (str_one ks) h1v
        refine hcon.mono ?_
        rintro e w' ⟨rfl, rfl⟩
        have hge := grownCap_ge w (ks.length + 1) cap 9
        simp only [show Try.layInsert_ren.t 9 = 9 from rfl]
        obtain ⟨C, hC⟩ : ∃ C, C = grownCap w (ks.length + 1) cap 9 := ⟨_, rfl⟩
        have hle : C ≤ maxLen := by rw [hC]; exact grownCap_le_maxLen w _ _ _ (by omega)
        rw [← hC] at hge ⊢
        obtain ⟨o, ho⟩ : ∃ o : Array Value, o = ((ks.map Value.string).take 0).toArray ++ Builtin.zeroCells (Value.string ⟨#[]⟩).cells (ks.length + 1 - 0) ++ Builtin.zeroCells (Value.string ⟨#[]⟩).cells (C - (ks.length + 1)) := ⟨_, rfl⟩
        rw [← ho]
        have hos : o.size = C := by rw [ho, Array.size_append, Array.size_append, zeros_size, zeros_size]; simp; omega
        have hh : (w.alloc (.cells o 9)).drew.heap[w.heap.size]? = some (.cells o 9 (0, 0)) := alloc_heap w (.cells o 9)
        obtain ⟨c', e1, e2, e3⟩ := sets_front2 hh ks k (by omega)
        have hl2 : ks.length + 1 = (k :: ks).length := by simp
        simp only [List.drop_zero, Nat.zero_add, hl2]
        refine ⟨_, rfl, OwnTs.mk' (ks := k :: ks) hbase e1 (by omega) (by simpa using hge) hle e3, ?_, fun x hx => .inr (by simp [Value.ownBlock] at hx; omega)⟩
        have hB : Below w.heap.size w ((((w.alloc (.cells o 9)).drew.setCells w.heap.size 0 [.string k]).drew).setCells w.heap.size 1 (ks.map Value.string)) := by
          have b1 : Below w.heap.size w (w.alloc (.cells o 9)).drew := ((Below.refl _ _).alloc (Nat.le_refl _) _).drew
          have b2 := b1.grown (grown_sets (w.alloc (.cells o 9)).drew w.heap.size 0 [.string k]) (by show _ ≤ (w.alloc _).heap.size; simp) (fun x hx => by cases hx; exact Nat.le_refl _)
          have b3 := b2.drew
          exact b3.grown (grown_sets _ w.heap.size 1 (ks.map Value.string)) (by show _ ≤ ((w.alloc _).drew.setCells _ _ _).heap.size; rw [size_sets]; show _ ≤ (w.alloc _).heap.size; simp) (fun x hx => by cases hx; exact Nat.le_refl _)
        exact grown_below hB _
theorem grow_any (w : World) (n : Nat) (hn : n ≤ 1000) :
    Calls Try.prog 50 #[.slice none 0 0, .int .i64 n] w fun e w' => ∃ v', e = .returned v' ∧ OwnTs w' w.heap.size v' [] ∧ Below w.heap.size w w' := by
  obtain ⟨i0, hi, hz0, hz1, hz2⟩ := info_parts Try.infoStr
  have hmx : maxLen = 9223372036854775807 := rfl
  by_cases h0 : n = 0
  · subst h0
    refine (Any8.slices_Grow_room Try.layGrow none 0 0 0 w (by omega) (by omega) (by omega) (by omega)).mono ?_
    rintro e w' ⟨rfl, rfl⟩
    exact ⟨_, rfl, OwnTs.nil _ _, Below.refl _ _⟩
  · refine (Any8.slices_Grow_grow Try.layGrow i0 (.string ⟨#[]⟩) hi hz0 (by omega) none 0 0 n [] w (by omega) (by omega) (by rw [hz2]; omega) (by omega) (by simp) (fun _ => rfl) (fun a e => by cases e)).mono ?_
    rintro e w' ⟨rfl, rfl⟩
    have hge := grownCap_ge w (0 + n) 0 9
    refine ⟨_, rfl, ?_, (Below.refl _ _).drew.alloc (by show _ ≤ w.heap.size; exact Nat.le_refl _) _⟩
    simp only [show Try.layGrow_ren.t 25 = 9 from rfl]
    have hh : (w.drew.alloc (.cells (([] : List Value).toArray ++ Builtin.zeroCells (Value.string ⟨#[]⟩).cells (0 + n - 0) ++ Builtin.zeroCells (Value.string ⟨#[]⟩).cells (grownCap w (0 + n) 0 9 - (0 + n))) 9)).heap[w.heap.size]? = _ := alloc_heap w.drew _
    exact OwnTs.mk' (ks := []) (cap := grownCap w (0 + n) 0 9) (Nat.le_refl _) hh (by rw [Array.size_append, Array.size_append, zeros_size, zeros_size]; show 0 + (0 + n - 0) + _ = _; omega) (by simp) (grownCap_le_maxLen w _ _ _ (by omega)) (fun j hj => by simp at hj)
set_option maxHeartbeats 1000000 in
theorem concat_any (w : World) (B : Nat) (a1 a2 : Option Addr) (X Y : List ByteArray) (c1 c2 : Nat) (h0 : w.cell? ⟨B, 0, none⟩ = some (.slice a1 X.length c1)) (h1 : w.cell? ⟨B, 1, none⟩ = some (.slice a2 Y.length c2)) (hX : Tl w a1 X c1) (hY : Tl w a2 Y c2) (hl : X.length + Y.length ≤ 1000) :
    Calls Try.prog 30 #[.slice (some ⟨B, 0, none⟩) 2 2] w fun e w' => ∃ v', e = .returned v' ∧ OwnTs w' w.heap.size v' (X ++ Y) ∧ Below w.heap.size w w' := by
  have hB : B < w.heap.size := World.block_lt_of_cell? w ⟨B, 0, none⟩ h0
  have HX := Hid.mk2 hX
  have HY := Hid.mk2 hY
  have e1 : ((X.length : Int) + (Y.length : Int)) = ((X.length + Y.length : Nat) : Int) := by omega
  have HG := Hid.mk2 (grow_any w (X.length + Y.length) hl)
  rw [← e1] at HG
  have b1 : (X.length : Int) ≤ 1000 := by omega
  have b2 : (Y.length : Int) ≤ 1000 := by omega
  have b3 : ¬ (X.length : Int) < 0 := by omega
  have b4 : ¬ (X.length : Int) + (Y.length : Int) < 0 := by omega
  clear hX hY e1
  go_enter Try.func30, Try.ntmps30
  go_wp2
  refine wp_loop_rounds 3 ?_
  rw [rounds_succ]
  go_wp2
  rw [rounds_succ]
  go_wp2
  rw [rounds_succ]
  go_wp2_with (go_at_call 50; refine HG.out.mono ?_; rintro e w1 ⟨v1, rfl, hO1, hb1⟩)
  have d0 := (below_cells hb1 B 0 hB).trans h0
  have d1 := (below_cells hb1 B 1 hB).trans h1
  have HO1 := Hid.mk2 hO1
  have HB1 := Hid.mk2 hb1
  clear hO1 hb1 h0 h1
  refine wp_loop_rounds 3 ?_
  rw [rounds_succ]
  go_wp2_with (at_builtin; refine app_row rfl _ _ rfl w.heap.size v1 [] HO1.out rfl a1 c1 X X.length rfl rfl w.heap.size HX.out.hn (HX.out.at_.below HB1.out (Nat.le_refl _)) (by simp; omega) HB1.out.size ?_; intro v2 w2 hO2 hG2)
  have hb2 := HB1.out.grown hG2.grown HB1.out.size (fun k hk => (HO1.out.lt k hk).1)
  have q1 : w2.cell? ⟨B, 1, none⟩ = some (.slice a2 Y.length c2) := hG2.grown.cell (a := ⟨B, 1, none⟩) d1 (fun e => by have := (HO1.out.lt B e.symm).1; omega)
  have HO2 := Hid.mk2 hO2
  have HB2 := Hid.mk2 hb2
  clear hO2 hb2 hG2 d0 d1
  rw [rounds_succ]
  go_wp2_with (at_builtin; refine app_row rfl _ _ rfl w.heap.size v2 X HO2.out rfl a2 c2 Y Y.length rfl rfl w.heap.size HY.out.hn (HY.out.at_.below HB2.out (Nat.le_refl _)) (by omega) HB2.out.size ?_; intro v3 w3 hO3 hG3)
  have hb3 := HB2.out.grown hG3.grown HB2.out.size (fun k hk => (HO2.out.lt k hk).1)
  have HO3 := Hid.mk2 hO3
  have HB3 := Hid.mk2 hb3
  clear hO3 hb3 hG3 q1
  rw [rounds_succ]
  go_wp2
  go_ret
  exact ⟨v3, rfl, HO3.out, HB3.out⟩
end Go.Proofs.Ytmdlampmoeiihaa
