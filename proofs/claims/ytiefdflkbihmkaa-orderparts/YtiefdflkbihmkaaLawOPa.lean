/-
  OrderParts, in part (where nothing is asked): each key of a command is in the part of just one of its shards, in its order; each part may be, and has just that shard, but of flush; with one shard the part is the command. No conditions.
-/
import Derived.Test.YtiefdflkbihmkaaOrAlive
import Derived.Test.YtiefdflkbihmkaaOrRefS
import Derived.Test.YtiefdflkbihmkaaOrRefX
import Derived.Shelf.SlSortCmp.QuietGrown
namespace Go.Proofs.Ytiefdflkbihmkaa
open Go.RowKit
set_option linter.unusedSimpArgs false
set_option linter.unusedVariables false
set_option maxRecDepth 100000

set_option maxHeartbeats 2000000 in
/-- where nothing is asked -/
theorem parts_early (c : Cm) (ko : Option Addr) (kc : Nat) (n : Int) (w : World) (h : GRd ES w ko c.keys kc) (he : c.lg = true ∨ (c.lg = false ∧ ¬ c.shE n = 0)) :
    Calls Try.prog 6 #[.agg (c.arr (.slice ko c.keys.length kc)), .int .i64 n] w fun e w' => e = .returned (.bool true) ∧ Below w.heap.size w w' := by
  have HR := Hid.mk2 h
  have hlen := h.len
  have HSH := Hid.mk2 (fun W (hW : Below w.heap.size w W) => pshards_any c ko kc n W (h.below hW))
  have HLG := Hid.mk2 (fun W (hW : Below w.heap.size w W) => rlong_any c ko kc W (h.below hW))
  obtain ⟨G, hG⟩ : ∃ G, G = c.lg := ⟨_, rfl⟩
  obtain ⟨E, hE⟩ : ∃ E, E = c.shE n := ⟨_, rfl⟩
  obtain ⟨S, hS⟩ : ∃ S, S = c.shL n := ⟨_, rfl⟩
  rw [← hG] at HLG he
  rw [← hE] at HSH he
  rw [← hS] at HSH
  clear hG hE hS h
  obtain ⟨W, hW⟩ : ∃ W, W = w.alloc (.cells (c.arr (.slice ko c.keys.length kc)) 27) := ⟨_, rfl⟩
  have HB : Hid (Below w.heap.size w W) := by rw [hW]; exact g_alloc _ _
  have HX : Hid (GBx W w.heap.size (c.cl (.slice ko c.keys.length kc))) := by rw [hW]; exact GBx.made w (c.cl (.slice ko c.keys.length kc)) _
  obtain ⟨kind, tenant, keys, value, flags, life, unique, by_⟩ := c
  unfold Cm.arr at *
  unfold Cm.cl at HX
  dsimp only at *
  have c0 := HX.out.c 0 (by simp)
  have c1 := HX.out.c 1 (by simp)
  have c2 := HX.out.c 2 (by simp)
  have c3 := HX.out.c 3 (by simp)
  have c4 := HX.out.c 4 (by simp)
  have c5 := HX.out.c 5 (by simp)
  have c6 := HX.out.c 6 (by simp)
  have c7 := HX.out.c 7 (by simp)
  simp only [List.getElem_cons_zero, List.getElem_cons_succ] at c0 c1 c2 c3 c4 c5 c6 c7
  have hlt := HX.out.lt
  go_enter Try.func6, Try.ntmps6
  go_upto_region 1 with (fail)
  rw [← hW]
  clear hW
  rcases he with he | ⟨he, he2⟩
  · subst he
    go_wp2_with (first
      | (go_at_call 11; refine (alive10_any _).mono ?_; rintro e w9 ⟨rfl, hb9⟩; have HB9 := Hid.mk2 (g_on HB.out hb9); have HX9 := Hid.mk2 (HX.out.below hb9); clear hb9 HB HX; have HB := HB9; clear HB9; clear c0 c1 c2 c3 c4 c5 c6 c7 hlt; have hlt := HX9.out.lt; have c0 := HX9.out.c 0 (by simp); have c1 := HX9.out.c 1 (by simp); have c2 := HX9.out.c 2 (by simp); have c3 := HX9.out.c 3 (by simp); have c4 := HX9.out.c 4 (by simp); have c5 := HX9.out.c 5 (by simp); have c6 := HX9.out.c 6 (by simp); have c7 := HX9.out.c 7 (by simp); simp only [List.getElem_cons_zero, List.getElem_cons_succ] at c0 c1 c2 c3 c4 c5 c6 c7; have HX := HX9; clear HX9)
      | (go_at_call 8; refine (HSH.out _ HB.out).mono ?_; rintro e w9 ⟨v9, rfl, hO9, hb9⟩; obtain ⟨sa, sc, hv9, hS9⟩ := hO9.rd okI; subst hv9; have HSR := Hid.mk2 hS9; clear hO9 hS9; have HB9 := Hid.mk2 (g_on HB.out hb9); have HX9 := Hid.mk2 (HX.out.below hb9); clear hb9 HB HX; have HB := HB9; clear HB9; clear c0 c1 c2 c3 c4 c5 c6 c7 hlt; have hlt := HX9.out.lt; have c0 := HX9.out.c 0 (by simp); have c1 := HX9.out.c 1 (by simp); have c2 := HX9.out.c 2 (by simp); have c3 := HX9.out.c 3 (by simp); have c4 := HX9.out.c 4 (by simp); have c5 := HX9.out.c 5 (by simp); have c6 := HX9.out.c 6 (by simp); have c7 := HX9.out.c 7 (by simp); simp only [List.getElem_cons_zero, List.getElem_cons_succ] at c0 c1 c2 c3 c4 c5 c6 c7; have HX := HX9; clear HX9)
      | (go_at_call 12; refine (HLG.out _ HB.out).mono ?_; rintro e w9 ⟨rfl, hb9⟩; have HSR2 := Hid.mk2 (HSR.out.below hb9); have HB9 := Hid.mk2 (g_on HB.out hb9); have HX9 := Hid.mk2 (HX.out.below hb9); clear hb9 HB HX; have HB := HB9; clear HB9; clear c0 c1 c2 c3 c4 c5 c6 c7 hlt; have hlt := HX9.out.lt; have c0 := HX9.out.c 0 (by simp); have c1 := HX9.out.c 1 (by simp); have c2 := HX9.out.c 2 (by simp); have c3 := HX9.out.c 3 (by simp); have c4 := HX9.out.c 4 (by simp); have c5 := HX9.out.c 5 (by simp); have c6 := HX9.out.c 6 (by simp); have c7 := HX9.out.c 7 (by simp); simp only [List.getElem_cons_zero, List.getElem_cons_succ] at c0 c1 c2 c3 c4 c5 c6 c7; have HX := HX9; clear HX9))
    all_goals go_ret
    all_goals exact ⟨rfl, HB.out⟩
  · subst he
    have he' := bne_t he2
    clear he2
    go_wp2_with (first
      | (go_at_call 11; refine (alive10_any _).mono ?_; rintro e w9 ⟨rfl, hb9⟩; have HB9 := Hid.mk2 (g_on HB.out hb9); have HX9 := Hid.mk2 (HX.out.below hb9); clear hb9 HB HX; have HB := HB9; clear HB9; clear c0 c1 c2 c3 c4 c5 c6 c7 hlt; have hlt := HX9.out.lt; have c0 := HX9.out.c 0 (by simp); have c1 := HX9.out.c 1 (by simp); have c2 := HX9.out.c 2 (by simp); have c3 := HX9.out.c 3 (by simp); have c4 := HX9.out.c 4 (by simp); have c5 := HX9.out.c 5 (by simp); have c6 := HX9.out.c 6 (by simp); have c7 := HX9.out.c 7 (by simp); simp only [List.getElem_cons_zero, List.getElem_cons_succ] at c0 c1 c2 c3 c4 c5 c6 c7; have HX := HX9; clear HX9)
      | (go_at_call 8; refine (HSH.out _ HB.out).mono ?_; rintro e w9 ⟨v9, rfl, hO9, hb9⟩; obtain ⟨sa, sc, hv9, hS9⟩ := hO9.rd okI; subst hv9; have HSR := Hid.mk2 hS9; clear hO9 hS9; have HB9 := Hid.mk2 (g_on HB.out hb9); have HX9 := Hid.mk2 (HX.out.below hb9); clear hb9 HB HX; have HB := HB9; clear HB9; clear c0 c1 c2 c3 c4 c5 c6 c7 hlt; have hlt := HX9.out.lt; have c0 := HX9.out.c 0 (by simp); have c1 := HX9.out.c 1 (by simp); have c2 := HX9.out.c 2 (by simp); have c3 := HX9.out.c 3 (by simp); have c4 := HX9.out.c 4 (by simp); have c5 := HX9.out.c 5 (by simp); have c6 := HX9.out.c 6 (by simp); have c7 := HX9.out.c 7 (by simp); simp only [List.getElem_cons_zero, List.getElem_cons_succ] at c0 c1 c2 c3 c4 c5 c6 c7; have HX := HX9; clear HX9)
      | (go_at_call 12; refine (HLG.out _ HB.out).mono ?_; rintro e w9 ⟨rfl, hb9⟩; have HSR2 := Hid.mk2 (HSR.out.below hb9); have HB9 := Hid.mk2 (g_on HB.out hb9); have HX9 := Hid.mk2 (HX.out.below hb9); clear hb9 HB HX; have HB := HB9; clear HB9; clear c0 c1 c2 c3 c4 c5 c6 c7 hlt; have hlt := HX9.out.lt; have c0 := HX9.out.c 0 (by simp); have c1 := HX9.out.c 1 (by simp); have c2 := HX9.out.c 2 (by simp); have c3 := HX9.out.c 3 (by simp); have c4 := HX9.out.c 4 (by simp); have c5 := HX9.out.c 5 (by simp); have c6 := HX9.out.c 6 (by simp); have c7 := HX9.out.c 7 (by simp); simp only [List.getElem_cons_zero, List.getElem_cons_succ] at c0 c1 c2 c3 c4 c5 c6 c7; have HX := HX9; clear HX9))
    all_goals go_ret
    all_goals exact ⟨rfl, HB.out⟩

/-- the last shard ahead of the k-th; the keys of the parts ahead of it -/
def lastOf (S : List Int) : Nat → Int
  | 0 => -1
  | k + 1 => S.getD k (-1)
def manyOf (c : Cm) (n : Nat) (k : Nat) : Nat := (((c.needs n).take k).map fun s => (c.piece s n).keys.length).sum
theorem lastOf_succ {S : List Int} {k : Nat} (h : k < S.length) : lastOf S (k + 1) = S[k] := by
  show S.getD k (-1) = S[k]
  simp [List.getD, h]
theorem lastOf_lt {c : Cm} {n k : Nat} (h : k < (c.needs n).length) : lastOf (c.needs n) k < (c.needs n)[k] := by
  cases k with
  | zero =>
    have := (needs_lt (List.getElem_mem h)).1
    show (-1 : Int) < _
    omega
  | succ j =>
    rw [lastOf_succ (by omega)]
    exact List.pairwise_iff_getElem.1 (needs_sorted c n) j (j + 1) (by omega) h (by omega)
theorem lastOf_end {c : Cm} {n : Nat} (h : c.needs n ≠ []) : lastOf (c.needs n) (c.needs n).length < n := by
  have h0 : 0 < (c.needs n).length := List.length_pos_iff.2 h
  obtain ⟨j, hj⟩ : ∃ j, (c.needs n).length = j + 1 := ⟨(c.needs n).length - 1, by omega⟩
  rw [hj, lastOf_succ (by omega)]
  exact (needs_lt (List.getElem_mem _)).2
theorem manyOf_succ {c : Cm} {n k : Nat} (h : k < (c.needs n).length) : manyOf c n (k + 1) = manyOf c n k + (c.piece (c.needs n)[k] n).keys.length := by
  unfold manyOf
  rw [List.take_add_one, List.getElem?_eq_getElem h, List.map_append, List.sum_append]
  simp
theorem manyOf_le {c : Cm} {n : Nat} (h : c.may = true) (hn0 : 1 ≤ n) (hn1 : n ≤ 4) : ∀ k, k ≤ (c.needs n).length → manyOf c n k ≤ 8 * k
  | 0, _ => by simp [manyOf]
  | k + 1, hk => by
    rw [manyOf_succ (by omega)]
    have h1 := manyOf_le h hn0 hn1 k (by omega)
    have h2 := Cm.kOk_len (Cm.may_parts h).2.2.1
    have h3 := List.length_filter_le (fun x => c.of n x == (c.needs n)[k]) c.keys
    have h4 : (c.piece (c.needs n)[k] n).keys.length ≤ 8 := by show (c.keys.filter _).length ≤ 8; omega
    omega
theorem manyOf_all {c : Cm} {n : Nat} (h : c.may = true) (hn0 : 1 ≤ n) (hn1 : n ≤ 4) : manyOf c n (c.needs n).length = c.keys.length := by
  unfold manyOf
  rw [List.take_length]
  exact parts_count h hn0 hn1
theorem sub_skip {z y : ByteArray} {a b : List ByteArray} (hne : ¬ z = y) (h : (y :: a).Sublist (z :: b)) : (y :: a).Sublist b := by
  rcases List.sublist_cons_iff.1 h with h | ⟨r, e, _⟩
  · exact h
  · injection e with e1 _
    exact absurd e1.symm hne
theorem g_growB (w : World) (n : Nat) (os : Array Obj) : Below w.heap.size w (Sort.grow (w.drewN n) os) :=
  ⟨rfl, rfl, rfl, by simp [Sort.grow, World.drewN], fun k hk => Sort.heap_grow_old _ _ hk⟩
/-- the document's SameCommand, in its form with new blocks -/
theorem samec_on (c : Cm) (ka kb : Option Addr) (ca cb : Nat) (w : World) (ha : GRd ES w ka c.keys ca) (hb : GRd ES w kb c.keys cb) (w0 : World) (h0 : Below w0.heap.size w0 w) :
    Calls Try.prog 20 #[.agg (c.arr (.slice ka c.keys.length ca)), .agg (c.arr (.slice kb c.keys.length cb))] w fun e w' => e = .returned (.bool true) ∧ Below w0.heap.size w0 w' := by
  refine (samec_any c ka kb ca cb w ha hb).mono ?_
  rintro e w' ⟨rfl, hb⟩
  exact ⟨rfl, g_on h0 hb⟩
end Go.Proofs.Ytiefdflkbihmkaa
