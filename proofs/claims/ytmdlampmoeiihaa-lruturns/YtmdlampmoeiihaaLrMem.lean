/-
  Rows of keys in memory: rows that are read, rows that a call made, the laws of append over them.
-/
import Derived.Test.YtmdlampmoeiihaaLrPure
import Derived.Test.YtmdlampmoeiihaaRows
import Derived.WalkKit
import Derived.ProofKit
import Derived.OpenShut
import Derived.WalkSpells
import Derived.WalkLawsBesides
import Derived.Maps.AppendAt
import Derived.Laws.AppendOwnNone
import Derived.Deep.Cut
import Derived.Deep.CutRange
import Derived.Deep.QuietTactic
import Derived.BigQuiet
import Derived.Deep.RegionLaw
import Derived.Deep.RegionHeld3
import Derived.Deep.RegionWith
import Derived.Deep.AppendLies
namespace Go.Proofs.Ytmdlampmoeiihaa
open Go.RowKit
set_option linter.unusedSimpArgs false
set_option linter.unusedVariables false
set_option maxRecDepth 100000

theorem Hid.mk2 {p : Prop} (h : p) : Hid p := h
theorem Try.infoStr : (Try.prog.info? 9).map (fun i => (i.zero, i.size, i.bytes)) = some (some (.string ⟨#[]⟩), 1, 16) := by kernel_rfl
theorem addr_add (b off j : Nat) : (⟨b, off, none⟩ : Addr).add j = ⟨b, off + j, none⟩ := by unfold Addr.add; split <;> simp_all
theorem below_cells {W w1 : World} (hb : Below W.heap.size W w1) : ∀ b o, b < W.heap.size → w1.cell? ⟨b, o, none⟩ = W.cell? ⟨b, o, none⟩ :=
  fun b o h => hb.cell (p := ⟨b, o, none⟩) h
theorem below_frozen {W w1 : World} (hb : Below W.heap.size W w1) : ∀ b o, b < W.heap.size → w1.frozen? ⟨b, o, none⟩ = W.frozen? ⟨b, o, none⟩ :=
  fun b o h => hb.frozen (p := ⟨b, o, none⟩) h
theorem below_alloc {w w1 : World} {o : Obj} (hb : Below (w.alloc o).heap.size (w.alloc o) w1) : Below w.heap.size w w1 :=
  ((Below.refl _ _).alloc (Nat.le_refl _) _).trans (hb.mono (by simp))
theorem grown_below {w w' : World} (h : Below w.heap.size w w') (row : Option Nat) : w.grownBy w' row := ⟨h.os, h.tape, h.output, h.size, fun k hk _ => h.block k hk⟩
theorem grownBy_setCell (w : World) (p : Addr) (v : Value) : w.grownBy (w.setCell p v) (some p.block) :=
  ⟨rfl, rfl, rfl, by simp, fun k hk hne => Below.heap_setCell w p v k (fun e => hne (by rw [e]))⟩
theorem cell_of_heap {w : World} {g : Nat} {cur : Array Value} {t : TypeId} {m : Nat × Nat} (h : w.heap[g]? = some (.cells cur t m)) (j : Nat) : w.cell? ⟨g, j, none⟩ = cur[j]? := by
  unfold World.cell?
  simp [h]
theorem frozen_of_heap {w : World} {g : Nat} {cur : Array Value} {t : TypeId} (h : w.heap[g]? = some (.cells cur t (0, 0))) (j : Nat) : w.frozen? ⟨g, j, none⟩ = false := by
  unfold World.frozen?
  simp [h]

/-- keys lie at the address, below block B -/
def TsAt (w : World) (B : Nat) (ao : Option Addr) (ks : List ByteArray) : Prop :=
  ks = [] ∨ ∃ b off, ao = some ⟨b, off, none⟩ ∧ b < B ∧ ∀ j (hj : j < ks.length), w.cell? ⟨b, off + j, none⟩ = some (.string ks[j])
theorem TsAt.below {w w' : World} {B B' : Nat} {ao : Option Addr} {ks : List ByteArray} (h : TsAt w B ao ks) (hb : Below B w w') (hB : B ≤ B') : TsAt w' B' ao ks := by
  rcases h with rfl | ⟨b, off, rfl, hlt, hc⟩
  · exact .inl rfl
  · exact .inr ⟨b, off, rfl, by omega, fun j hj => (hb.cell (p := ⟨b, off + j, none⟩) hlt).trans (hc j hj)⟩
/-- a row that is read -/
structure Tl (w : World) (ao : Option Addr) (ks : List ByteArray) (cap : Nat) : Prop where
  hl : ks.length ≤ cap
  hc : cap ≤ 9223372036854775807
  hn : ao = none → cap = 0
  at_ : TsAt w w.heap.size ao ks
theorem Tl.below {w w' : World} {ao : Option Addr} {ks : List ByteArray} {cap : Nat} (h : Tl w ao ks cap) (hb : Below w.heap.size w w') : Tl w' ao ks cap :=
  ⟨h.hl, h.hc, h.hn, h.at_.below hb hb.size⟩
theorem Tl.alloc {w : World} {ao : Option Addr} {ks : List ByteArray} {cap : Nat} (h : Tl w ao ks cap) (o : Obj) : Tl (w.alloc o) ao ks cap :=
  h.below ((Below.refl _ _).alloc (Nat.le_refl _) _)
theorem Tl.nil (w : World) : Tl w none [] 0 := ⟨by simp, by simp, fun _ => rfl, .inl rfl⟩

/-- the slice v owns the keys ks, in a block from base on -/
def OwnTs (w : World) (base : Nat) (v : Value) (ks : List ByteArray) : Prop := w.ownsRow base 9 1 v ks.length (ks.map Value.string)
theorem OwnTs.nil (w : World) (base : Nat) : OwnTs w base (.slice none 0 0) [] := World.ownsRow_nil w base _ 1
theorem OwnTs.alloc {w : World} {base : Nat} {v : Value} {ks : List ByteArray} (h : OwnTs w base v ks) (o : Obj) : OwnTs (w.alloc o) base v ks := World.ownsRow.alloc h o
theorem OwnTs.grown {w w' : World} {base : Nat} {v : Value} {ks : List ByteArray} {row : Option Nat} (h : OwnTs w base v ks) (hg : w.grownBy w' row) (hne : ∀ k, v.ownBlock = some k → row ≠ some k) : OwnTs w' base v ks := by
  refine World.ownsRow.kept h hg ?_
  cases hv : v.ownBlock with
  | none => exact .inl rfl
  | some k => exact .inr (fun e => hne k hv e.symm)
theorem OwnTs.below {w w' : World} {base : Nat} {v : Value} {ks : List ByteArray} (h : OwnTs w base v ks) (hb : Below w.heap.size w w') : OwnTs w' base v ks :=
  h.grown (row := none) (grown_below hb none) (by intro k _ e; cases e)
theorem OwnTs.lt {w : World} {base : Nat} {v : Value} {ks : List ByteArray} (h : OwnTs w base v ks) : ∀ k, v.ownBlock = some k → base ≤ k ∧ k < w.heap.size := World.ownsRow.lt h
theorem OwnTs.base {w : World} {base base' : Nat} {v : Value} {ks : List ByteArray} (h : OwnTs w base v ks) (hb : base' ≤ base) : OwnTs w base' v ks := by
  refine ⟨h.1, ?_⟩
  rcases h.2 with h1 | ⟨g, cap, cur, h1, h2, h3⟩
  · exact .inl h1
  · exact .inr ⟨g, cap, cur, h1, Nat.le_trans hb h2, h3⟩
theorem OwnTs.mk' {w : World} {base g cap : Nat} {cur : Array Value} {ks : List ByteArray} (hb : base ≤ g) (hg : w.heap[g]? = some (.cells cur 9 (0, 0))) (hsz : cur.size = cap) (hn : ks.length ≤ cap) (hm : cap ≤ maxLen)
    (hc : ∀ j (hj : j < ks.length), w.cell? ⟨g, j, none⟩ = some (.string ks[j])) : OwnTs w base (.slice (some ⟨g, 0, none⟩) ks.length cap) ks := by
  refine ⟨by simp, .inr ⟨g, cap, cur, rfl, hb, hg, hn, hm, by omega, ?_⟩⟩
  refine List.ext_getElem? fun j => ?_
  by_cases hj : j < ks.length
  · have h1 := hc j hj
    rw [cell_of_heap hg] at h1
    rw [List.getElem?_take_of_lt (by omega), Array.getElem?_toList, h1]
    simp [hj]
  · rw [List.getElem?_eq_none (by simp; omega), List.getElem?_eq_none (by simp; omega)]
theorem OwnTs.parts {w : World} {base : Nat} {v : Value} {ks : List ByteArray} (h : OwnTs w base v ks) : (v = .slice none 0 0 ∧ ks = []) ∨ ∃ g cap cur, v = .slice (some ⟨g, 0, none⟩) ks.length cap ∧ base ≤ g ∧ w.heap[g]? = some (.cells cur 9 (0, 0)) ∧ cur.size = cap ∧ ks.length ≤ cap ∧ cap ≤ 9223372036854775807 ∧ ∀ j (hj : j < ks.length), w.cell? ⟨g, j, none⟩ = some (.string ks[j]) := by
  rcases h.2 with ⟨e, hn⟩ | ⟨g, cap, cur, e, hb, hg, hn, hm, hs, ht⟩
  · exact .inl ⟨e, List.eq_nil_of_length_eq_zero hn⟩
  · refine .inr ⟨g, cap, cur, e, hb, hg, by omega, hn, hm, fun j hj => ?_⟩
    subst e
    have := World.ownsRow.cells h (g := g) rfl j (.string ks[j]) (by simp [hj])
    rwa [addr_add, Nat.zero_add] at this
theorem OwnTs.tl {w : World} {base : Nat} {v : Value} {ks : List ByteArray} (h : OwnTs w base v ks) : ∃ ao cap, v = .slice ao ks.length cap ∧ Tl w ao ks cap := by
  rcases h.parts with ⟨rfl, rfl⟩ | ⟨g, cap, cur, rfl, hb, hg, hs, hn, hm, hc⟩
  · exact ⟨none, 0, rfl, Tl.nil w⟩
  · exact ⟨_, cap, rfl, hn, hm, (by intro e; cases e), .inr ⟨g, 0, rfl, (Array.getElem?_eq_some_iff.1 hg).1, fun j hj => by rw [Nat.zero_add]; exact hc j hj⟩⟩
/-- what a call leaves of a row: it and new blocks have turned; the new one lies in the old one's place, or in a new block -/
structure Grew (w w' : World) (v v' : Value) : Prop where
  grown : w.grownBy w' v.ownBlock
  lies : ∀ k, v'.ownBlock = some k → v.ownBlock = some k ∨ w.heap.size ≤ k
theorem Grew.refl (w : World) (v : Value) : Grew w w v v := ⟨World.grownBy.refl w _, fun k h => .inl h⟩
theorem Grew.alloc {w w' : World} {v v' : Value} {o : Obj} (h : Grew (w.alloc o) w' v v') : Grew w w' v v' := by
  have hs : (w.alloc o).heap.size = w.heap.size + 1 := by simp
  refine ⟨(World.grownBy_alloc w o v.ownBlock).trans h.grown, fun k hk => ?_⟩
  rcases h.lies k hk with g | g
  · exact .inl g
  · exact .inr (by omega)
theorem Grew.below {w w' : World} {v v' : Value} {base : Nat} {ks : List ByteArray} (h : Grew w w' v v') (ho : OwnTs w base v ks) (hb : base ≤ w.heap.size) : Below base w w' :=
  (Below.refl _ _).grown h.grown hb (fun k hk => (ho.lt k hk).1)
theorem str_one (ks : List ByteArray) : ∀ u ∈ ks.map Value.string, u.oneCell' = true := by
  intro u hu
  obtain ⟨c, _, rfl⟩ := List.mem_map.1 hu
  rfl
theorem str_news {w : World} {b off : Nat} {ks : List ByteArray} (hc : ∀ j (hj : j < ks.length), w.cell? ⟨b, off + j, none⟩ = some (.string ks[j])) :
    ∀ j u, (ks.map Value.string)[j]? = some u → w.cell? ((⟨b, off, none⟩ : Addr).add j) = some u := by
  intro j u hu
  have hj : j < ks.length := by simpa using (List.getElem?_eq_some_iff.1 hu).1
  have : u = .string ks[j] := by simpa [hj] using hu.symm
  subst this
  rw [addr_add]
  exact hc j hj
/-- append of a row that lies somewhere, onto a row of the call's own: the run -/
theorem run_app_row (w : World) (ty : TypeId) (base : Nat) (v : Value) (l : List ByteArray) (hown : OwnTs w base v l) (ao : Option Addr) (c : Nat) (src : List ByteArray) (B : Nat) (hnil : ao = none → c = 0) (hsrc : TsAt w B ao src)
    (hlen : l.length + src.length ≤ 1000000) (hbase : base ≤ w.heap.size) :
    ∃ v' w', (Builtin.append_ #[22, 22] ty #[v, .slice ao src.length c]).run Try.prog w = .ok v' w' ∧ OwnTs w' base v' (l ++ src) ∧ Grew w w' v v' := by
  obtain ⟨i0, hi, hz0, hz1, hz2⟩ := info_parts Try.infoStr
  cases ao with
  | none =>
    have hs : src = [] := by
      rcases hsrc with h | ⟨b, off, h, _⟩
      · exact h
      · cases h
    subst hs
    have hc := hnil rfl
    subst hc
    have hr := run_append_owned_none (P := Try.prog) (w := w) base 22 ty 9 i0 1 Try.underlying22 hi v l.length (l.map Value.string) hown
    exact ⟨v, w, hr, by simpa using hown, Grew.refl w v⟩
  | some a =>
    have hm : maxLen = 9223372036854775807 := rfl
    have hnews : ∀ j u, (src.map Value.string)[j]? = some u → w.cell? (a.add j) = some u := by
      rcases hsrc with rfl | ⟨b, off, h, _, hc⟩
      · intro j u hu; simp at hu
      · cases h
        exact str_news hc
    obtain ⟨v', w', hr, ho, hg, _, hat⟩ := run_append_own_at (P := Try.prog) w base 22 ty 9 i0 (.string ⟨#[]⟩) 1 16 Try.underlying22 hi hz0 hz1 hz2 rfl (by decide) v l.length (l.map Value.string) hown a src.length c (src.map Value.string) (by simp) hnews (str_one src) (by omega) (by omega) hbase
    refine ⟨v', w', hr, ?_, hg, fun k hk => ?_⟩
    · have : (l ++ src).length = l.length + src.length := by simp
      unfold OwnTs
      rw [this, List.map_append]
      exact ho
    · rcases hat with h | h
      · exact .inl (h ▸ hk)
      · rw [h] at hk; cases hk; exact .inr (Nat.le_refl _)
section
variable {w : World} {ops : Array Oper} {rest : List Oper} {o : Oper} {a : Act} {Q : Exit → Act → World → Prop} {K : Act → World → Prop} {E : Prop}
/-- append(v, src...): at the operation -/
theorem app_row (hgd : o.guard = none) (s x : Operand) (ho : o.op = .call { callee := .builtin .append, args := #[s, x], argTypes := #[22, 22] })
    (base : Nat) (v : Value) (l : List ByteArray) (hown : OwnTs w base v l) (hs : a.eval s = v) (ao : Option Addr) (c : Nat) (src : List ByteArray) (m : Nat) (hm : m = src.length) (hx : a.eval x = .slice ao m c) (B : Nat) (hnil : ao = none → c = 0) (hsrc : TsAt w B ao src)
    (hlen : l.length + src.length ≤ 1000000) (hbase : base ≤ w.heap.size)
    (h : ∀ v' w', OwnTs w' base v' (l ++ src) → Grew w w' v v' → wpList Try.prog ops Q rest (a.put o.dst v') w') : wpList Try.prog ops Q (o :: rest) a w := by
  subst hm
  refine wpList_plain hgd fun K hK => ?_
  obtain ⟨v', w', hr, h2, h3⟩ := run_app_row w o.type base v l hown ao c src B hnil hsrc hlen hbase
  unfold Oper.wp execOp
  simp only [ho, resolve, invoke, builtin, Sem.run_bind, Sem.run_pure, Result.andThen_ok, List.map_toArray, List.map_cons, List.map_nil, hs, hx, hr]
  exact hK _ _ (h v' w' h2 h3)
/-- .. in a region that draws -/
theorem step_app_row (hgd : o.guard = none) (s x : Operand) (ho : o.op = .call { callee := .builtin .append, args := #[s, x], argTypes := #[22, 22] })
    (base : Nat) (v : Value) (l : List ByteArray) (hown : OwnTs w base v l) (hs : a.eval s = v) (ao : Option Addr) (c : Nat) (src : List ByteArray) (m : Nat) (hm : m = src.length) (hx : a.eval x = .slice ao m c) (B : Nat) (hnil : ao = none → c = 0) (hsrc : TsAt w B ao src)
    (hlen : l.length + src.length ≤ 1000000) (hbase : base ≤ w.heap.size)
    (h : ∀ v' w', OwnTs w' base v' (l ++ src) → Grew w w' v v' → K (a.put o.dst v') w') : if Region.wanted o (yielded ops a.tmps) = true then Oper.wp Try.prog o a w K Q else E := by
  have hw1 : Region.wanted o (yielded ops a.tmps) = true := by simp [Region.wanted, hgd]
  rw [if_pos hw1]
  subst hm
  obtain ⟨v', w', hr, h2, h3⟩ := run_app_row w o.type base v l hown ao c src B hnil hsrc hlen hbase
  unfold Oper.wp execOp
  simp only [ho, resolve, invoke, builtin, Sem.run_bind, Sem.run_pure, Result.andThen_ok, List.map_toArray, List.map_cons, List.map_nil, hs, hx, hr]
  exact h v' w' h2 h3
/-- append(v, k), k one key: at the operation; the element lies in a new block of its own -/
theorem app_key {w0 : World} (hgd : o.guard = none) (s x : Operand) (ho : o.op = .call { callee := .builtin .append, args := #[s, x], argTypes := #[22, 22] })
    (base : Nat) (v : Value) (l : List ByteArray) (hown : OwnTs w0 base v l) (hs : a.eval s = v) (k : ByteArray) (hw : w = w0.alloc (.cells #[.string k] 9)) (H : Nat) (hx : a.eval x = .slice (some ⟨H, 0, none⟩) 1 1) (hH : H = w0.heap.size)
    (hlen : l.length + 1 ≤ 1000000) (hbase : base ≤ w0.heap.size)
    (h : ∀ v' w', OwnTs w' base v' (l ++ [k]) → Grew w0 w' v v' → wpList Try.prog ops Q rest (a.put o.dst v') w') : wpList Try.prog ops Q (o :: rest) a w := by
  subst hw hH
  refine app_row hgd s x ho base v l (hown.alloc _) hs (some ⟨w0.heap.size, 0, none⟩) 1 [k] 1 rfl hx (w0.heap.size + 1) (by intro e; cases e) (.inr ⟨w0.heap.size, 0, rfl, by omega, fun j hj => ?_⟩) (by simpa using hlen) (by simp; omega) (fun v' w' h1 h2 => h v' w' h1 h2.alloc)
  have : j = 0 := by simp at hj; omega
  subst this
  simp
end
end Go.Proofs.Ytmdlampmoeiihaa
