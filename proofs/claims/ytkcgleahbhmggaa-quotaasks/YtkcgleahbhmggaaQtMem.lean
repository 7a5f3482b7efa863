/-
  Rows of numbers in memory: rows that are read, rows that a call made, the laws of append over them.
-/
import Derived.Test.YtkcgleahbhmggaaSbMem
import Derived.Deep.CutRange
import Derived.Deep.RegionWith
import Derived.Deep.AppendLies
namespace Go.Proofs.Ytkcgleahbhmggaa
open Go.RowKit
set_option linter.unusedSimpArgs false
set_option linter.unusedVariables false
set_option maxRecDepth 100000

theorem Try.infoInt : (Try.prog.info? 3).map (fun i => (i.zero, i.size, i.bytes)) = some (some (.int .i64 0), 1, 8) := by kernel_rfl
theorem grown_below {w w' : World} (h : Below w.heap.size w w') (row : Option Nat) : w.grownBy w' row := ⟨h.os, h.tape, h.output, h.size, fun k hk _ => h.block k hk⟩
theorem cell_of_heap {w : World} {g : Nat} {cur : Array Value} {t : TypeId} {m : Nat × Nat} (h : w.heap[g]? = some (.cells cur t m)) (j : Nat) : w.cell? ⟨g, j, none⟩ = cur[j]? := by
  unfold World.cell?
  simp [h]
theorem frozen_of_heap {w : World} {g : Nat} {cur : Array Value} {t : TypeId} (h : w.heap[g]? = some (.cells cur t (0, 0))) (j : Nat) : w.frozen? ⟨g, j, none⟩ = false := by
  unfold World.frozen?
  simp [h]

/-- numbers lie at the address, below block B -/
def IsAt (w : World) (B : Nat) (ao : Option Addr) (ks : List Int) : Prop :=
  ks = [] ∨ ∃ b off, ao = some ⟨b, off, none⟩ ∧ b < B ∧ ∀ j (hj : j < ks.length), w.cell? ⟨b, off + j, none⟩ = some (.int .i64 ks[j])
theorem IsAt.below {w w' : World} {B B' : Nat} {ao : Option Addr} {ks : List Int} (h : IsAt w B ao ks) (hb : Below B w w') (hB : B ≤ B') : IsAt w' B' ao ks := by
  rcases h with rfl | ⟨b, off, rfl, hlt, hc⟩
  · exact .inl rfl
  · exact .inr ⟨b, off, rfl, by omega, fun j hj => (hb.cell (p := ⟨b, off + j, none⟩) hlt).trans (hc j hj)⟩
/-- a row that is read -/
structure Il (w : World) (ao : Option Addr) (ks : List Int) (cap : Nat) : Prop where
  hl : ks.length ≤ cap
  hc : cap ≤ 9223372036854775807
  hn : ao = none → cap = 0
  at_ : IsAt w w.heap.size ao ks
theorem Il.below {w w' : World} {ao : Option Addr} {ks : List Int} {cap : Nat} (h : Il w ao ks cap) (hb : Below w.heap.size w w') : Il w' ao ks cap :=
  ⟨h.hl, h.hc, h.hn, h.at_.below hb hb.size⟩
theorem Il.alloc {w : World} {ao : Option Addr} {ks : List Int} {cap : Nat} (h : Il w ao ks cap) (o : Obj) : Il (w.alloc o) ao ks cap :=
  h.below ((Below.refl _ _).alloc (Nat.le_refl _) _)
theorem Il.nil (w : World) : Il w none [] 0 := ⟨by simp, by simp, fun _ => rfl, .inl rfl⟩

/-- the slice v owns the numbers ks, in a block from base on -/
def OwnI (w : World) (base : Nat) (v : Value) (ks : List Int) : Prop := w.ownsRow base 3 1 v ks.length (ks.map (Value.int .i64))
theorem OwnI.nil (w : World) (base : Nat) : OwnI w base (.slice none 0 0) [] := World.ownsRow_nil w base _ 1
theorem OwnI.alloc {w : World} {base : Nat} {v : Value} {ks : List Int} (h : OwnI w base v ks) (o : Obj) : OwnI (w.alloc o) base v ks := World.ownsRow.alloc h o
theorem OwnI.grown {w w' : World} {base : Nat} {v : Value} {ks : List Int} {row : Option Nat} (h : OwnI w base v ks) (hg : w.grownBy w' row) (hne : ∀ k, v.ownBlock = some k → row ≠ some k) : OwnI w' base v ks := by
  refine World.ownsRow.kept h hg ?_
  cases hv : v.ownBlock with
  | none => exact .inl rfl
  | some k => exact .inr (fun e => hne k hv e.symm)
theorem OwnI.below {w w' : World} {base : Nat} {v : Value} {ks : List Int} (h : OwnI w base v ks) (hb : Below w.heap.size w w') : OwnI w' base v ks :=
  h.grown (row := none) (grown_below hb none) (by intro k _ e; cases e)
theorem OwnI.lt {w : World} {base : Nat} {v : Value} {ks : List Int} (h : OwnI w base v ks) : ∀ k, v.ownBlock = some k → base ≤ k ∧ k < w.heap.size := World.ownsRow.lt h
theorem OwnI.base {w : World} {base base' : Nat} {v : Value} {ks : List Int} (h : OwnI w base v ks) (hb : base' ≤ base) : OwnI w base' v ks := by
  refine ⟨h.1, ?_⟩
  rcases h.2 with h1 | ⟨g, cap, cur, h1, h2, h3⟩
  · exact .inl h1
  · exact .inr ⟨g, cap, cur, h1, Nat.le_trans hb h2, h3⟩
theorem OwnI.mk' {w : World} {base g cap : Nat} {cur : Array Value} {ks : List Int} (hb : base ≤ g) (hg : w.heap[g]? = some (.cells cur 3 (0, 0))) (hsz : cur.size = cap) (hn : ks.length ≤ cap) (hm : cap ≤ maxLen)
    (hc : ∀ j (hj : j < ks.length), w.cell? ⟨g, j, none⟩ = some (.int .i64 ks[j])) : OwnI w base (.slice (some ⟨g, 0, none⟩) ks.length cap) ks := by
  refine ⟨by simp, .inr ⟨g, cap, cur, rfl, hb, hg, hn, hm, by omega, ?_⟩⟩
  refine List.ext_getElem? fun j => ?_
  by_cases hj : j < ks.length
  · have h1 := hc j hj
    rw [cell_of_heap hg] at h1
    rw [List.getElem?_take_of_lt (by omega), Array.getElem?_toList, h1]
    simp [hj]
  · rw [List.getElem?_eq_none (by simp; omega), List.getElem?_eq_none (by simp; omega)]
theorem OwnI.parts {w : World} {base : Nat} {v : Value} {ks : List Int} (h : OwnI w base v ks) : (v = .slice none 0 0 ∧ ks = []) ∨ ∃ g cap cur, v = .slice (some ⟨g, 0, none⟩) ks.length cap ∧ base ≤ g ∧ w.heap[g]? = some (.cells cur 3 (0, 0)) ∧ cur.size = cap ∧ ks.length ≤ cap ∧ cap ≤ 9223372036854775807 ∧ ∀ j (hj : j < ks.length), w.cell? ⟨g, j, none⟩ = some (.int .i64 ks[j]) := by
  rcases h.2 with ⟨e, hn⟩ | ⟨g, cap, cur, e, hb, hg, hn, hm, hs, ht⟩
  · exact .inl ⟨e, List.eq_nil_of_length_eq_zero hn⟩
  · refine .inr ⟨g, cap, cur, e, hb, hg, by omega, hn, hm, fun j hj => ?_⟩
    subst e
    have := World.ownsRow.cells h (g := g) rfl j (.int .i64 ks[j]) (by simp [hj])
    rwa [addr_add, Nat.zero_add] at this
theorem OwnI.il {w : World} {base : Nat} {v : Value} {ks : List Int} (h : OwnI w base v ks) : ∃ ao cap, v = .slice ao ks.length cap ∧ Il w ao ks cap := by
  rcases h.parts with ⟨rfl, rfl⟩ | ⟨g, cap, cur, rfl, hb, hg, hs, hn, hm, hc⟩
  · exact ⟨none, 0, rfl, Il.nil w⟩
  · exact ⟨_, cap, rfl, hn, hm, (by intro e; cases e), .inr ⟨g, 0, rfl, (Array.getElem?_eq_some_iff.1 hg).1, fun j hj => by rw [Nat.zero_add]; exact hc j hj⟩⟩
/-- what a call leaves of a row: it and new blocks have turned; the new one lies in the old one's place, or in a new block -/
structure Grew (w w' : World) (v v' : Value) : Prop where
  grown : w.grownBy w' v.ownBlock
  lies : ∀ k, v'.ownBlock = some k → v.ownBlock = some k ∨ w.heap.size ≤ k
theorem Grew.refl (w : World) (v : Value) : Grew w w v v := ⟨World.grownBy.refl w _, fun k h => .inl h⟩
theorem Grew.alloc {w w' : World} {v v' : Value} {o : Obj} (h : Grew (w.alloc o) w' v v') : Grew w w' v v' := by
  have hs : (w.alloc o).heap.size = w.heap.size + 1 := by simp
  refine ⟨(World.grownBy_alloc w o v.ownBlock).trans h.grown, fun k hk => ?_⟩
  rcases h.lies k hk with g | g
  · exact .inl g
  · exact .inr (by omega)
theorem Grew.below {w w' : World} {v v' : Value} {base : Nat} {ks : List Int} (h : Grew w w' v v') (ho : OwnI w base v ks) (hb : base ≤ w.heap.size) : Below base w w' :=
  (Below.refl _ _).grown h.grown hb (fun k hk => (ho.lt k hk).1)
theorem int_one (ks : List Int) : ∀ u ∈ ks.map (Value.int .i64), u.oneCell' = true := by
  intro u hu
  obtain ⟨c, _, rfl⟩ := List.mem_map.1 hu
  rfl
theorem int_news {w : World} {b off : Nat} {ks : List Int} (hc : ∀ j (hj : j < ks.length), w.cell? ⟨b, off + j, none⟩ = some (.int .i64 ks[j])) :
    ∀ j u, (ks.map (Value.int .i64))[j]? = some u → w.cell? ((⟨b, off, none⟩ : Addr).add j) = some u := by
  intro j u hu
  have hj : j < ks.length := by simpa using (List.getElem?_eq_some_iff.1 hu).1
  have : u = .int .i64 ks[j] := by simpa [hj] using hu.symm
  subst this
  rw [addr_add]
  exact hc j hj
/-- append of a row that lies somewhere, onto a row of the call's own: the run -/
theorem run_app_ints (w : World) (ty : TypeId) (base : Nat) (v : Value) (l : List Int) (hown : OwnI w base v l) (ao : Option Addr) (c : Nat) (src : List Int) (B : Nat) (hnil : ao = none → c = 0) (hsrc : IsAt w B ao src)
    (hlen : l.length + src.length ≤ 1000000) (hbase : base ≤ w.heap.size) :
    ∃ v' w', (Builtin.append_ #[22, 22] ty #[v, .slice ao src.length c]).run Try.prog w = .ok v' w' ∧ OwnI w' base v' (l ++ src) ∧ Grew w w' v v' := by
  obtain ⟨i0, hi, hz0, hz1, hz2⟩ := info_parts Try.infoInt
  cases ao with
  | none =>
    have hs : src = [] := by
      rcases hsrc with h | ⟨b, off, h, _⟩
      · exact h
      · cases h
    subst hs
    have hc := hnil rfl
    subst hc
    have hr := run_append_owned_none (P := Try.prog) (w := w) base 22 ty 3 i0 1 Try.underlying22 hi v l.length (l.map (Value.int .i64)) hown
    exact ⟨v, w, hr, by simpa using hown, Grew.refl w v⟩
  | some a =>
    have hm : maxLen = 9223372036854775807 := rfl
    have hnews : ∀ j u, (src.map (Value.int .i64))[j]? = some u → w.cell? (a.add j) = some u := by
      rcases hsrc with rfl | ⟨b, off, h, _, hc⟩
      · intro j u hu; simp at hu
      · cases h
        exact int_news hc
    obtain ⟨v', w', hr, ho, hg, _, hat⟩ := run_append_own_at (P := Try.prog) w base 22 ty 3 i0 (.int .i64 0) 1 8 Try.underlying22 hi hz0 hz1 hz2 rfl (by decide) v l.length (l.map (Value.int .i64)) hown a src.length c (src.map (Value.int .i64)) (by simp) hnews (int_one src) (by omega) (by omega) hbase
    refine ⟨v', w', hr, ?_, hg, fun k hk => ?_⟩
    · have : (l ++ src).length = l.length + src.length := by simp
      unfold OwnI
      rw [this, List.map_append]
      exact ho
    · rcases hat with h | h
      · exact .inl (h ▸ hk)
      · rw [h] at hk; cases hk; exact .inr (Nat.le_refl _)
section
variable {w : World} {ops : Array Oper} {rest : List Oper} {o : Oper} {a : Act} {Q : Exit → Act → World → Prop} {K : Act → World → Prop} {E : Prop}
/-- append(v, src...): at the operation -/
theorem app_ints (hgd : o.guard = none) (s x : Operand) (ho : o.op = .call { callee := .builtin .append, args := #[s, x], argTypes := #[22, 22] })
    (base : Nat) (v : Value) (l : List Int) (hown : OwnI w base v l) (hs : a.eval s = v) (ao : Option Addr) (c : Nat) (src : List Int) (m : Nat) (hm : m = src.length) (hx : a.eval x = .slice ao m c) (B : Nat) (hnil : ao = none → c = 0) (hsrc : IsAt w B ao src)
    (hlen : l.length + src.length ≤ 1000000) (hbase : base ≤ w.heap.size)
    (h : ∀ v' w', OwnI w' base v' (l ++ src) → Grew w w' v v' → wpList Try.prog ops Q rest (a.put o.dst v') w') : wpList Try.prog ops Q (o :: rest) a w := by
  subst hm
  refine wpList_plain hgd fun K hK => ?_
  obtain ⟨v', w', hr, h2, h3⟩ := run_app_ints w o.type base v l hown ao c src B hnil hsrc hlen hbase
  unfold Oper.wp execOp
  simp only [ho, resolve, invoke, builtin, Sem.run_bind, Sem.run_pure, Result.andThen_ok, List.map_toArray, List.map_cons, List.map_nil, hs, hx, hr]
  exact hK _ _ (h v' w' h2 h3)
/-- .. in a region that draws -/
theorem step_app_ints (hgd : o.guard = none) (s x : Operand) (ho : o.op = .call { callee := .builtin .append, args := #[s, x], argTypes := #[22, 22] })
    (base : Nat) (v : Value) (l : List Int) (hown : OwnI w base v l) (hs : a.eval s = v) (ao : Option Addr) (c : Nat) (src : List Int) (m : Nat) (hm : m = src.length) (hx : a.eval x = .slice ao m c) (B : Nat) (hnil : ao = none → c = 0) (hsrc : IsAt w B ao src)
    (hlen : l.length + src.length ≤ 1000000) (hbase : base ≤ w.heap.size)
    (h : ∀ v' w', OwnI w' base v' (l ++ src) → Grew w w' v v' → K (a.put o.dst v') w') : if Region.wanted o (yielded ops a.tmps) = true then Oper.wp Try.prog o a w K Q else E := by
  have hw1 : Region.wanted o (yielded ops a.tmps) = true := by simp [Region.wanted, hgd]
  rw [if_pos hw1]
  subst hm
  obtain ⟨v', w', hr, h2, h3⟩ := run_app_ints w o.type base v l hown ao c src B hnil hsrc hlen hbase
  unfold Oper.wp execOp
  simp only [ho, resolve, invoke, builtin, Sem.run_bind, Sem.run_pure, Result.andThen_ok, List.map_toArray, List.map_cons, List.map_nil, hs, hx, hr]
  exact h v' w' h2 h3
/-- append(v, k), k one number: at the operation; the element lies in a new block of its own -/
theorem app_int {w0 : World} (hgd : o.guard = none) (s x : Operand) (ho : o.op = .call { callee := .builtin .append, args := #[s, x], argTypes := #[22, 22] })
    (base : Nat) (v : Value) (l : List Int) (hown : OwnI w0 base v l) (hs : a.eval s = v) (k : Int) (hw : w = w0.alloc (.cells #[.int .i64 k] 3)) (H : Nat) (hx : a.eval x = .slice (some ⟨H, 0, none⟩) 1 1) (hH : H = w0.heap.size)
    (hlen : l.length + 1 ≤ 1000000) (hbase : base ≤ w0.heap.size)
    (h : ∀ v' w', OwnI w' base v' (l ++ [k]) → Grew w0 w' v v' → wpList Try.prog ops Q rest (a.put o.dst v') w') : wpList Try.prog ops Q (o :: rest) a w := by
  subst hw hH
  refine app_ints hgd s x ho base v l (hown.alloc _) hs (some ⟨w0.heap.size, 0, none⟩) 1 [k] 1 rfl hx (w0.heap.size + 1) (by intro e; cases e) (.inr ⟨w0.heap.size, 0, rfl, by omega, fun j hj => ?_⟩) (by simpa using hlen) (by simp; omega) (fun v' w' h1 h2 => h v' w' h1 h2.alloc)
  have : j = 0 := by simp at hj; omega
  subst this
  simp
end
end Go.Proofs.Ytkcgleahbhmggaa
