/-
  What is taken, in numbers: the pure part, and the walk of SlabOwns.
-/
import Derived.Test.YtkcgleahbhmggaaSbAlive
namespace Go.Proofs.Ytkcgleahbhmggaa
open Go.RowKit
set_option linter.unusedSimpArgs false
set_option linter.unusedVariables false
set_option maxRecDepth 100000

/-- a world on the way of a law whose first block holds the slab that came in -/
structure OW (w wq : World) (v : Value) : Prop where
  below : Below w.heap.size w wq
  c0 : wq.cell? ⟨w.heap.size, 0, none⟩ = some v
  x0 : w.heap.size < wq.heap.size
theorem OW.step {w wq wr : World} {v : Value} (h : OW w wq v) (hb : Below wq.heap.size wq wr) : OW w wr v :=
  ⟨h.below.trans (hb.mono (Nat.le_of_lt h.x0)), (below_cells hb _ 0 h.x0).trans h.c0, Nat.lt_of_lt_of_le h.x0 hb.size⟩
theorem OW.begin (w : World) (v : Value) (t : TypeId) : OW w (w.alloc (Obj.cells #[v] t)) v :=
  ⟨(Below.refl _ _).alloc (Nat.le_refl _) _, by simp, by simp⟩
def frees (ps : List Pg) : Nat := ps.countP (fun p => decide (p.u = 0))
def rmP (t c : Int) (M : Nat) (p : Pg) : Bool := isOf t p && (decide (p.c = c) && decide (cnt p.u 16 < M))
def rms (t c : Int) (M : Nat) (ps : List Pg) : Bool := ps.any (rmP t c M)
theorem frees_take {ps : List Pg} {k : Nat} (h : k < ps.length) : frees (ps.take (k + 1)) = frees (ps.take k) + (if ps[k].u = 0 then 1 else 0) := by
  unfold frees
  rw [List.take_succ_eq_append_getElem h, List.countP_append]
  simp [List.countP_cons]
theorem rms_take {ps : List Pg} {k : Nat} (t c : Int) (M : Nat) (h : k < ps.length) : rms t c M (ps.take (k + 1)) = (rms t c M (ps.take k) || rmP t c M ps[k]) := by
  unfold rms
  rw [List.take_succ_eq_append_getElem h, List.any_append]
  simp
theorem low_cnt {p : Pg} {c : Int} (hp : pOk p = true) (hc : p.c = c) : (lowFree p.u (chunks c)).isSome = decide (cnt p.u 16 < chunks c) := by
  subst hc
  have hcl := chunks_le (pOk_c hp)
  rw [cnt_high (pOk_u hp) hcl.2]
  cases e : lowFree p.u (chunks p.c) with
  | none => rw [cnt_all (lowFree_none e)]; simp
  | some k =>
    obtain ⟨h1, h2, _⟩ := lowFree_some e
    simp [cnt_not h1 h2]
theorem rms_room {ps : List Pg} {t c : Int} (ho : sOk ps = true) : rms t c (chunks c) ps = (room ps t c).isSome := by
  cases e : room ps t c with
  | none =>
    unfold rms
    rw [Option.isSome_none, List.any_eq_false]
    intro p hp
    obtain ⟨i, hi, rfl⟩ := List.mem_iff_getElem.1 hp
    unfold rmP isOf
    simp only [Bool.and_eq_true, decide_eq_true_eq]
    rintro ⟨⟨h1, h2⟩, h3, h4⟩
    have h5 := low_cnt (sOk_pg ho i hi) h3
    rw [room_none e i hi h1 h2 h3] at h5
    simp at h5
    omega
  | some x =>
    obtain ⟨i, k⟩ := x
    obtain ⟨hi, h1, h2, h3, h4⟩ := room_some e
    unfold rms
    rw [Option.isSome_some, List.any_eq_true]
    refine ⟨ps[i], List.getElem_mem hi, ?_⟩
    have h5 := low_cnt (sOk_pg ho i hi) h3
    rw [h4] at h5
    unfold rmP isOf
    simp only [Bool.and_eq_true, decide_eq_true_eq]
    simp at h5
    exact ⟨⟨h1, h2⟩, h3, h5⟩
theorem frees_zero {ps : List Pg} (h : freeP ps = none) : frees ps = 0 := by
  unfold frees
  rw [List.countP_eq_zero]
  intro p hp
  obtain ⟨i, hi, rfl⟩ := List.mem_iff_getElem.1 hp
  simpa using freeP_none h i hi
theorem frees_pos {ps : List Pg} {i : Nat} (h : freeP ps = some i) : 0 < frees ps := by
  obtain ⟨hi, h1⟩ := freeP_some h
  unfold frees
  rw [List.countP_pos_iff]
  exact ⟨ps[i], List.getElem_mem hi, by simpa using h1⟩
theorem owned_set {ps : List Pg} {t c : Int} {i k : Nat} (hi : i < ps.length) (h : ps[i].u = 0 ∨ (ps[i].t = t ∧ ps[i].c = c)) (hk : k < 16) : owned (ps.set i (taken ps t c i k)) t = owned ps t + (if ps[i].u = 0 then 1 else 0) := by
  have hu : (taken ps t c i k).u ≠ 0 := by
    show ((ps[i]?.getD pz).u ||| 2 ^ k) % 65536 ≠ 0
    rw [List.getElem?_eq_getElem hi]
    show (ps[i].u ||| 2 ^ k) % 65536 ≠ 0
    rw [or_mod ps[i].hu hk]
    exact or_ne
  have ht : isOf t (taken ps t c i k) = true := by
    unfold isOf
    simp [hu]
    rfl
  unfold owned
  rw [List.countP_set hi, if_pos ht]
  by_cases e : ps[i].u = 0
  · have : isOf t ps[i] = false := by simp [isOf, e]
    rw [this, if_pos e]
    simp
  · have h2 : ps[i].t = t := by
      rcases h with h | h
      · exact absurd h e
      · exact h.1
    have h3 : isOf t ps[i] = true := by simp [isOf, e, h2]
    have h4 : 0 < ps.countP (isOf t) := List.countP_pos_iff.2 ⟨ps[i], List.getElem_mem hi, h3⟩
    rw [h3, if_neg e]
    simp
    omega
theorem taken_ok {ps : List Pg} {t c : Int} {i k : Nat} (ho : sOk ps = true) (ht : isT t = true) (hc : isC c = true) (hi : i < ps.length) (hk : k < chunks c) (hl : ps[i].u = 0 ∨ (ps[i].t = t ∧ ps[i].c = c)) : sOk (ps.set i (taken ps t c i k)) = true := by
  have hcl := chunks_le hc
  have hlen := sOk_len ho
  have hu : (taken ps t c i k).u = ps[i].u ||| 2 ^ k := by
    show ((ps[i]?.getD pz).u ||| 2 ^ k) % 65536 = _
    rw [List.getElem?_eq_getElem hi]
    exact or_mod ps[i].hu (by omega)
  have hb : ps[i].u < 2 ^ chunks c := by
    rcases hl with h | ⟨_, h⟩
    · rw [h]; exact Nat.two_pow_pos _
    · have := pOk_u (sOk_pg ho i hi); rwa [h] at this
  unfold sOk
  simp only [Bool.and_eq_true, decide_eq_true_eq, List.length_set]
  refine ⟨hlen, List.all_eq_true.2 fun p hp => ?_⟩
  rcases List.mem_or_eq_of_mem_set hp with h | h
  · obtain ⟨j, hj, rfl⟩ := List.mem_iff_getElem.1 h
    exact sOk_pg ho j hj
  · subst h
    unfold pOk
    rw [if_neg (by rw [hu]; exact or_ne), hu]
    have h1 : isT (taken ps t c i k).t = true := ht
    have h2 : isC (taken ps t c i k).c = true := hc
    rw [h1, h2]
    simp only [Bool.true_and, decide_eq_true_eq]
    exact Nat.or_lt_two_pow hb (Nat.pow_lt_pow_right (by decide) hk)
end Go.Proofs.Ytkcgleahbhmggaa
