/-
  Slices of bytes that a call made, with no spare room or some: what may be read, and what may be written to; copy of a block.
-/
import Derived.Test.YtgfhjkphdmkmoabMem
import Derived.Laws.CopyRow
import Derived.Laws.CopyOwn
import Derived.Deep.RegionHeld3
namespace Go.Proofs.Ytgfhjkphdmkmoab
open Go.RowKit
set_option linter.unusedSimpArgs false
set_option linter.unusedVariables false

/-- the slice v is new: its bytes l lie in a block from base on, and may be written to -/
def Fresh (w : World) (base : Nat) (v : Value) (l : List UInt8) : Prop :=
  ∃ ao cap, v = .slice ao l.length cap ∧ l.length ≤ cap ∧ cap ≤ maxLen ∧ (ao = none → cap = 0) ∧
    (l = [] ∨ ∃ g cur, ao = some ⟨g, 0, none⟩ ∧ base ≤ g ∧ w.heap[g]? = some (.cells cur 5 (0, 0)) ∧ l.length ≤ cur.size ∧ cur.toList.take l.length = l.map bcell)
theorem Fresh.nil (w : World) (base : Nat) : Fresh w base (.slice none 0 0) [] := ⟨none, 0, rfl, by simp, by simp [maxLen], fun _ => rfl, .inl rfl⟩
theorem Own.fresh {w : World} {base : Nat} {v : Value} {l : List UInt8} (h : Own w base v l) : Fresh w base v l := by
  rcases h.2 with ⟨rfl, hn⟩ | ⟨g, cap, cur, rfl, hb, hg, hnc, hcm, hcs, htake⟩
  · have : l = [] := List.eq_nil_of_length_eq_zero hn
    subst this
    exact Fresh.nil _ _
  · exact ⟨_, cap, rfl, hnc, hcm, (by intro e; cases e), .inr ⟨g, cur, rfl, hb, hg, by omega, by rw [← htake, Nat.mul_one]⟩⟩
theorem row_cell {w : World} {g : Nat} {cur : Array Value} {t : TypeId} {l : List UInt8} (hg : w.heap[g]? = some (.cells cur t (0, 0))) (ht : cur.toList.take l.length = l.map bcell) (j : Nat) (hj : j < l.length) : w.cell? ⟨g, j, none⟩ = some (bcell l[j]) := by
  have h1 : (cur.toList.take l.length)[j]? = some (bcell l[j]) := by rw [ht]; simp [hj]
  rw [List.getElem?_take] at h1
  simp [hj] at h1
  simp [World.cell?, hg, h1]
theorem Fresh.at {w : World} {base : Nat} {v : Value} {l : List UInt8} (h : Fresh w base v l) :
    ∃ ao cap, v = .slice ao l.length cap ∧ l.length ≤ cap ∧ cap ≤ maxLen ∧ (ao = none → cap = 0) ∧ BsAt w w.heap.size ao l := by
  obtain ⟨ao, cap, rfl, h1, h2, h3, h4⟩ := h
  refine ⟨ao, cap, rfl, h1, h2, h3, ?_⟩
  rcases h4 with h | ⟨g, cur, rfl, hb, hg, hl, ht⟩
  · exact .inl h
  · exact .inr ⟨g, 0, rfl, (Array.getElem?_eq_some_iff.1 hg).1, fun j hj => by rw [Nat.zero_add]; exact row_cell hg ht j hj⟩
theorem Fresh.below {w w' : World} {base : Nat} {v : Value} {l : List UInt8} (h : Fresh w base v l) (hb : Below w.heap.size w w') : Fresh w' base v l := by
  obtain ⟨ao, cap, rfl, h1, h2, h3, h4⟩ := h
  refine ⟨ao, cap, rfl, h1, h2, h3, ?_⟩
  rcases h4 with h | ⟨g, cur, rfl, hb1, hg, hl, ht⟩
  · exact .inl h
  · exact .inr ⟨g, cur, rfl, hb1, (hb.block g (Array.getElem?_eq_some_iff.1 hg).1).trans hg, hl, ht⟩
theorem Fresh.mono {w : World} {base base' : Nat} {v : Value} {l : List UInt8} (h : Fresh w base v l) (hb : base' ≤ base) : Fresh w base' v l := by
  obtain ⟨ao, cap, rfl, h1, h2, h3, h4⟩ := h
  refine ⟨ao, cap, rfl, h1, h2, h3, ?_⟩
  rcases h4 with h | ⟨g, cur, rfl, hb1, hg, hl, ht⟩
  · exact .inl h
  · exact .inr ⟨g, cur, rfl, by omega, hg, hl, ht⟩
theorem Fresh.row {w : World} {base : Nat} {v : Value} {l : List UInt8} (h : Fresh w base v l) (hne : l ≠ []) :
    ∃ g cap cur, v = .slice (some ⟨g, 0, none⟩) l.length cap ∧ base ≤ g ∧ w.heap[g]? = some (.cells cur 5 (0, 0)) ∧ l.length ≤ cur.size ∧ cur.toList.take l.length = l.map bcell ∧ l.length ≤ cap ∧ cap ≤ 9223372036854775807 := by
  obtain ⟨ao, cap, rfl, h1, h2, h3, h4⟩ := h
  rcases h4 with h | ⟨g, cur, rfl, hb1, hg, hl, ht⟩
  · exact absurd h hne
  · exact ⟨g, cap, cur, rfl, hb1, hg, hl, ht, h1, h2⟩
/-- string(b) of a new slice, in whatever later world -/
theorem Fresh.conv {w : World} {base : Nat} {v : Value} {l : List UInt8} (h : Fresh w base v l) :
    ∀ W, Below w.heap.size w W → (convert 23 9 v).run Try.prog W = .ok (.string ⟨l.toArray⟩) W := by
  intro W hb
  obtain ⟨ao, cap, rfl, _, _, _, hbs⟩ := h.at
  exact conv_bytes W w.heap.size ao l cap (hbs.below hb (Nat.le_refl _))

/-- one block is written over -/
theorem over_take {cur : List Value} {d x : List UInt8} {o : Nat} (ht : cur.take d.length = d.map bcell) (hl : d.length ≤ cur.length) (ho : o + x.length ≤ d.length) :
    (cur.take o ++ x.map bcell ++ cur.drop (o + x.length)).take d.length = (d.take o ++ x ++ d.drop (o + x.length)).map bcell := by
  have e1 : cur.take o = (d.take o).map bcell := by
    rw [List.map_take, ← ht, List.take_take, Nat.min_eq_left (by omega)]
  have e2 : (cur.drop (o + x.length)).take (d.length - (o + x.length)) = (d.drop (o + x.length)).map bcell := by
    rw [List.map_drop, ← ht, List.drop_take]
  rw [List.map_append, List.map_append, ← e1, ← e2, List.take_append]
  have h1 : (cur.take o ++ x.map bcell).length = o + x.length := by simp; omega
  rw [h1, List.take_of_length_le (by omega)]

section
variable {w : World} {ops : Array Oper} {rest : List Oper} {o : Oper} {a : Act} {Q : Exit → Act → World → Prop}
/-- copy of a block over a row's cells: at the operation -/
theorem copy_op (hgd : o.guard = none) (s x : Operand) (ho : o.op = .call { callee := .builtin .copy, args := #[s, x], argTypes := #[23, 23] })
    (g k dc : Nat) (hs : a.eval s = .slice (some ⟨g, k, none⟩) 64 dc) (ao : Option Addr) (c : Nat) (src : List UInt8) (hlen : src.length = 64) (hx : a.eval x = .slice ao 64 c) (B : Nat) (hsrc : BsAt w B ao src)
    (cur : Array Value) (hg : w.heap[g]? = some (.cells cur 5 (0, 0))) (hfit : k + 64 ≤ cur.size)
    (h : wpList Try.prog ops Q rest (a.put o.dst (goInt 64)) (w.setRow g (cur.toList.take k ++ src.map bcell ++ cur.toList.drop (k + 64)).toArray)) : wpList Try.prog ops Q (o :: rest) a w := by
  refine wpList_plain hgd fun K hK => ?_
  obtain ⟨i0, hi, hz0, hz1, hz2⟩ := info_parts Try.infoByte
  rcases hsrc with rfl | ⟨b, off, rfl, _, hc⟩
  · simp at hlen
  · have hr := run_copy_row Try.prog w 23 23 o.type 5 g k 64 dc ⟨b, off, none⟩ 64 c cur 5 (src.map bcell) Try.underlying23 (by rw [hi]; simp [hz1]) hg (by simp [hlen]) (bs_news (B := B) hc) (by simp [hlen]; exact hfit) (bcell_one src)
    rw [List.length_map, hlen] at hr
    unfold Oper.wp execOp
    simp only [ho, resolve, invoke, builtin, Sem.run_bind, Sem.run_pure, Result.andThen_ok, List.map_toArray, List.map_cons, List.map_nil, hs, hx, hr]
    exact hK _ _ h
variable {K : Act → World → Prop} {E : Prop}
/-- the same at a step of a region that draws its order -/
theorem step_copy (hgd : o.guard = none) (s x : Operand) (ho : o.op = .call { callee := .builtin .copy, args := #[s, x], argTypes := #[23, 23] })
    (g k dc : Nat) (hs : a.eval s = .slice (some ⟨g, k, none⟩) 64 dc) (ao : Option Addr) (c : Nat) (src : List UInt8) (hlen : src.length = 64) (hx : a.eval x = .slice ao 64 c) (B : Nat) (hsrc : BsAt w B ao src)
    (cur : Array Value) (hg : w.heap[g]? = some (.cells cur 5 (0, 0))) (hfit : k + 64 ≤ cur.size)
    (h : K (a.put o.dst (goInt 64)) (w.setRow g (cur.toList.take k ++ src.map bcell ++ cur.toList.drop (k + 64)).toArray)) : if Region.wanted o (yielded ops a.tmps) = true then Oper.wp Try.prog o a w K Q else E := by
  have hw : Region.wanted o (yielded ops a.tmps) = true := by simp [Region.wanted, hgd]
  rw [if_pos hw]
  obtain ⟨i0, hi, hz0, hz1, hz2⟩ := info_parts Try.infoByte
  rcases hsrc with rfl | ⟨b, off, rfl, _, hc⟩
  · simp at hlen
  · have hr := run_copy_row Try.prog w 23 23 o.type 5 g k 64 dc ⟨b, off, none⟩ 64 c cur 5 (src.map bcell) Try.underlying23 (by rw [hi]; simp [hz1]) hg (by simp [hlen]) (bs_news (B := B) hc) (by simp [hlen]; exact hfit) (bcell_one src)
    rw [List.length_map, hlen] at hr
    unfold Oper.wp execOp
    simp only [ho, resolve, invoke, builtin, Sem.run_bind, Sem.run_pure, Result.andThen_ok, List.map_toArray, List.map_cons, List.map_nil, hs, hx, hr]
    exact h
end
theorem grownBy_below {w w' : World} (h : Below w.heap.size w w') (row : Option Nat) : w.grownBy w' row := ⟨h.os, h.tape, h.output, h.size, fun k hk _ => h.block k hk⟩
/-- a slice value of bytes that may be read, below block B -/
def DtAt (w : World) (B : Nat) (v : Value) (l : List UInt8) : Prop :=
  ∃ a cap, v = .slice a l.length cap ∧ l.length ≤ cap ∧ cap ≤ maxLen ∧ (a = none → cap = 0) ∧ BsAt w B a l
theorem DtAt.below {w w' : World} {B B' : Nat} {v : Value} {l : List UInt8} (h : DtAt w B v l) (hb : Below B w w') (hB : B ≤ B') : DtAt w' B' v l := by
  obtain ⟨a, cap, rfl, h1, h2, h3, h4⟩ := h
  exact ⟨a, cap, rfl, h1, h2, h3, h4.below hb hB⟩
theorem Fresh.dt {w : World} {base : Nat} {v : Value} {l : List UInt8} (h : Fresh w base v l) : DtAt w w.heap.size v l := h.at
/-- as Fresh, in another block than r -/
def FreshBut (w : World) (base : Nat) (r : Option Nat) (v : Value) (l : List UInt8) : Prop :=
  ∃ ao cap, v = .slice ao l.length cap ∧ l.length ≤ cap ∧ cap ≤ maxLen ∧ (ao = none → cap = 0) ∧
    (l = [] ∨ ∃ g cur, ao = some ⟨g, 0, none⟩ ∧ base ≤ g ∧ some g ≠ r ∧ w.heap[g]? = some (.cells cur 5 (0, 0)) ∧ l.length ≤ cur.size ∧ cur.toList.take l.length = l.map bcell)
theorem FreshBut.fresh {w : World} {base : Nat} {r : Option Nat} {v : Value} {l : List UInt8} (h : FreshBut w base r v l) : Fresh w base v l := by
  obtain ⟨ao, cap, rfl, h1, h2, h3, h4⟩ := h
  refine ⟨ao, cap, rfl, h1, h2, h3, ?_⟩
  rcases h4 with h | ⟨g, cur, rfl, hb, _, hg, hl, ht⟩
  · exact .inl h
  · exact .inr ⟨g, cur, rfl, hb, hg, hl, ht⟩
/-- what was new ahead of r's block -/
theorem Fresh.but {w : World} {base : Nat} {r : Option Nat} {v : Value} {l : List UInt8} (h : Fresh w base v l) (hr : ∀ k, r = some k → k < base) : FreshBut w base r v l := by
  obtain ⟨ao, cap, rfl, h1, h2, h3, h4⟩ := h
  refine ⟨ao, cap, rfl, h1, h2, h3, ?_⟩
  rcases h4 with h | ⟨g, cur, rfl, hb, hg, hl, ht⟩
  · exact .inl h
  · exact .inr ⟨g, cur, rfl, hb, fun e => by have := hr g e.symm; omega, hg, hl, ht⟩
theorem FreshBut.mono {w : World} {base base' : Nat} {r : Option Nat} {v : Value} {l : List UInt8} (h : FreshBut w base r v l) (hb : base' ≤ base) : FreshBut w base' r v l := by
  obtain ⟨ao, cap, rfl, h1, h2, h3, h4⟩ := h
  refine ⟨ao, cap, rfl, h1, h2, h3, ?_⟩
  rcases h4 with h | ⟨g, cur, rfl, hb1, hne, hg, hl, ht⟩
  · exact .inl h
  · exact .inr ⟨g, cur, rfl, by omega, hne, hg, hl, ht⟩
/-- behind a call that turned r's block alone, and moved the row to r' -/
theorem FreshBut.grown {w w' : World} {base : Nat} {r r' : Option Nat} {v : Value} {l : List UInt8} (h : FreshBut w base r v l) (hg : w.grownBy w' r) (hr : r' = r ∨ ∀ k, r' = some k → w.heap.size ≤ k) : FreshBut w' base r' v l := by
  obtain ⟨ao, cap, rfl, h1, h2, h3, h4⟩ := h
  refine ⟨ao, cap, rfl, h1, h2, h3, ?_⟩
  rcases h4 with h | ⟨g, cur, rfl, hb1, hne, hgg, hl, ht⟩
  · exact .inl h
  · have hlt := (Array.getElem?_eq_some_iff.1 hgg).1
    refine .inr ⟨g, cur, rfl, hb1, ?_, (hg.block g hlt hne).trans hgg, hl, ht⟩
    rcases hr with rfl | hr
    · exact hne
    · intro e; have := hr g e.symm; omega
theorem FreshBut.oneCell {w : World} {base : Nat} {r : Option Nat} {v : Value} {l : List UInt8} (h : FreshBut w base r v l) : v.oneCell' = true := by
  obtain ⟨ao, cap, rfl, _⟩ := h; rfl

/-- a slice's own facts, for reading -/
structure Sl (w : World) (ao : Option Addr) (l : List UInt8) (cap : Nat) : Prop where
  hl : l.length ≤ cap
  hc : cap ≤ 9223372036854775807
  hn : ao = none → cap = 0
  at_ : BsAt w w.heap.size ao l
theorem Sl.below {w w' : World} {ao : Option Addr} {l : List UInt8} {cap : Nat} (h : Sl w ao l cap) (hb : Below w.heap.size w w') : Sl w' ao l cap :=
  ⟨h.hl, h.hc, h.hn, h.at_.below hb hb.size⟩
theorem Sl.lies {w : World} {ao : Option Addr} {l : List UInt8} {cap : Nat} (h : Sl w ao l cap) (hne : l ≠ []) : ∃ b o, ao = some ⟨b, o, none⟩ := by
  rcases h.at_ with e | ⟨b, o, e, _⟩
  · exact absurd e hne
  · exact ⟨b, o, e⟩
theorem Sl.store {w : World} {g off : Nat} {l : List UInt8} {cap : Nat} (h : Sl w (some ⟨g, off, none⟩) l cap) (X o : Nat) (v : Value) (hne : X ≠ g) : Sl (w.setCell ⟨X, o, none⟩ v) (some ⟨g, off, none⟩) l cap := by
  refine ⟨h.hl, h.hc, h.hn, ?_⟩
  rcases h.at_ with h | ⟨b, off', e, hb, hc⟩
  · exact .inl h
  · cases e
    exact .inr ⟨g, off, rfl, by simpa using hb, fun j hj => (grown_set w X o v).cell (a := ⟨g, off + j, none⟩) (hc j hj) (by intro e; have := Option.some.inj e; exact hne this.symm)⟩
theorem Sl.conv {w : World} {ao : Option Addr} {l : List UInt8} {cap n : Nat} (h : Sl w ao l cap) (hn : l.length = n) :
    ∀ W, Below w.heap.size w W → (convert 23 9 (.slice ao n cap)).run Try.prog W = .ok (.string ⟨l.toArray⟩) W := by
  intro W hb
  subst hn
  exact conv_bytes W w.heap.size ao l cap (h.at_.below hb (Nat.le_refl _))
theorem Fresh.sl {w : World} {base : Nat} {v : Value} {l : List UInt8} (h : Fresh w base v l) : ∃ ao cap, v = .slice ao l.length cap ∧ Sl w ao l cap := by
  obtain ⟨ao, cap, rfl, h1, h2, h3, h4⟩ := h.at
  exact ⟨ao, cap, rfl, h1, h2, h3, h4⟩
theorem anyH_mono {P : Program} {md : Region.Mode} {ops : Array Oper} {Q : Exit → Act → World → Prop} {S S' : World → Prop} (h : ∀ W, S' W → S W) :
    ∀ (fuel : Nat) (listed : Array Bool) (a : Act) (w : World), wpAnyH P md ops Q S' fuel listed a w → wpAnyH P md ops Q S fuel listed a w
  | 0, _, _, _, h0 => h0
  | fuel + 1, _, _, _, h0 => ⟨h0.1, fun i hi => wpOp_mono (fun a' w' h' => ⟨h _ h'.1, anyH_mono h fuel _ a' w' h'.2⟩) (h0.2 i hi)⟩
theorem BsAt.store {w : World} {B g off : Nat} {l : List UInt8} (h : BsAt w B (some ⟨g, off, none⟩) l) (X o : Nat) (v : Value) (hne : X ≠ g) : BsAt (w.setCell ⟨X, o, none⟩ v) B (some ⟨g, off, none⟩) l := by
  rcases h with h | ⟨b, off', e, hb, hc⟩
  · exact .inl h
  · cases e
    exact .inr ⟨g, off, rfl, hb, fun j hj => (grown_set w X o v).cell (a := ⟨g, off + j, none⟩) (hc j hj) (by intro e; have := Option.some.inj e; exact hne this.symm)⟩

theorem made_zero (n : Nat) : (madeCells (Value.int .u8 0).cells (n * 1)).toList = (List.replicate n (0 : UInt8)).map bcell := by
  simp [madeCells, Value.cells, bcell]
  apply List.ext_getElem?
  intro i
  by_cases h : i < n
  · simp [h, Nat.mod_one]
  · simp [h]
end Go.Proofs.Ytgfhjkphdmkmoab
