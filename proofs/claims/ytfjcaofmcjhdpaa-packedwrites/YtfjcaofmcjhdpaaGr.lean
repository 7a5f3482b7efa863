/-
  (shaken)
-/
import Derived.Test.YtfjcaofmcjhdpaaRows
import Derived.WalkKit
import Derived.ProofKit
import Derived.OpenShut
import Derived.WalkSpells
import Derived.WalkLawsBesides
import Derived.Maps.AppendAt
import Derived.Laws.AppendOwnNone
import Derived.Deep.Cut
import Derived.Deep.CutRange
import Derived.Deep.QuietTactic
import Derived.BigQuiet
import Derived.Deep.RegionLaw
import Derived.Deep.RegionHeld3
import Derived.Deep.RegionWith
import Derived.Deep.AppendLies
namespace Go.Proofs.Ytfjcaofmcjhdpaa
open Go.RowKit
set_option linter.unusedSimpArgs false
set_option linter.unusedVariables false
set_option maxRecDepth 100000

theorem Hid.mk2 {p : Prop} (h : p) : Hid p := h
theorem g_add (b off j : Nat) : (⟨b, off, none⟩ : Addr).add j = ⟨b, off + j, none⟩ := by unfold Addr.add; split <;> simp_all
theorem g_on {w v v' : World} (h : Below w.heap.size w v) (h' : Below v.heap.size v v') : Below w.heap.size w v' := h.trans (h'.mono h.size)
theorem g_alloc (w : World) (o : Obj) : Below w.heap.size w (w.alloc o) := (Below.refl _ _).alloc (Nat.le_refl _) _
theorem g_behind {w w1 : World} {o : Obj} (hb : Below (w.alloc o).heap.size (w.alloc o) w1) : Below w.heap.size w w1 := g_on (g_alloc w o) hb
theorem g_drew {w w' : World} (h : Below w.drew.heap.size w.drew w') : Below w.heap.size w w' := (Below.refl _ _).drew.trans h
theorem g_grown {w w' : World} (h : Below w.heap.size w w') (row : Option Nat) : w.grownBy w' row := ⟨h.os, h.tape, h.output, h.size, fun k hk _ => h.block k hk⟩
theorem g_grown_below {w w' : World} (h : w.grownBy w' none) : Below w.heap.size w w' := ⟨h.os, h.tape, h.output, h.size, fun k hk => h.block k hk (by simp)⟩
theorem g_set (w : World) (p : Addr) (v : Value) : w.grownBy (w.setCell p v) (some p.block) :=
  ⟨rfl, rfl, rfl, by simp, fun k hk hne => Below.heap_setCell w p v k (fun e => hne (by rw [e]))⟩
theorem g_cell {w : World} {g : Nat} {cur : Array Value} {t : TypeId} {m : Nat × Nat} (h : w.heap[g]? = some (.cells cur t m)) (j : Nat) : w.cell? ⟨g, j, none⟩ = cur[j]? := by
  unfold World.cell?
  simp [h]
theorem g_frozen {w : World} {g : Nat} {cur : Array Value} {t : TypeId} (h : w.heap[g]? = some (.cells cur t (0, 0))) (j : Nat) : w.frozen? ⟨g, j, none⟩ = false := by
  unfold World.frozen?
  simp [h]

/-- a kind of elements: its type, its slices' type, an element's cells -/
structure GEl (α : Type) where
  e : TypeId
  st : TypeId
  sz : Nat
  bytes : Nat
  zero : Value
  cells : α → List Value
structure GOk {α : Type} (E : GEl α) : Prop where
  und : Try.prog.underlying E.st = some (.slice E.e)
  info : (Try.prog.info? E.e).map (fun i => (i.zero, i.size, i.bytes)) = some (some E.zero, E.sz, E.bytes)
  zs : E.zero.cells.size = E.sz
  pos : 0 < E.sz
  small : E.bytes ≤ 1000
  len : ∀ a, (E.cells a).length = E.sz
  one : ∀ a, ∀ u ∈ E.cells a, u.oneCell' = true
section
variable {α : Type} {E : GEl α}
theorem GOk.flat_len (K : GOk E) : ∀ l : List α, (l.flatMap E.cells).length = l.length * E.sz
  | [] => by simp
  | a :: l => by rw [List.flatMap_cons, List.length_append, K.len, K.flat_len l, List.length_cons, Nat.add_mul]; omega
theorem GOk.flat_get (K : GOk E) : ∀ (l : List α) (i j : Nat) (hi : i < l.length), j < E.sz → (l.flatMap E.cells)[i * E.sz + j]? = (E.cells l[i])[j]?
  | a :: l, 0, j, _, hj => by
    rw [List.flatMap_cons, Nat.zero_mul, Nat.zero_add, List.getElem?_append_left (by rw [K.len]; exact hj)]
    rfl
  | a :: l, i + 1, j, hi, hj => by
    have h := K.flat_get l i j (by simpa using hi) hj
    rw [List.flatMap_cons, List.getElem?_append_right (by rw [K.len, Nat.add_mul]; omega), K.len, show (i + 1) * E.sz + j - E.sz = i * E.sz + j by rw [Nat.add_mul]; omega, h]
    rfl
theorem GOk.flat_one (K : GOk E) (l : List α) : ∀ u ∈ l.flatMap E.cells, u.oneCell' = true := by
  intro u hu
  obtain ⟨a, _, h⟩ := List.mem_flatMap.1 hu
  exact K.one a u h

/-- elements lie at the address, below block B -/
def GAt (E : GEl α) (w : World) (B : Nat) (ao : Option Addr) (l : List α) : Prop :=
  l = [] ∨ ∃ b off, ao = some ⟨b, off, none⟩ ∧ b < B ∧ ∀ i (hi : i < l.length) (j : Nat), j < E.sz → w.cell? ⟨b, off + i * E.sz + j, none⟩ = (E.cells l[i])[j]?
theorem GAt.below {w w' : World} {B B' : Nat} {ao : Option Addr} {l : List α} (h : GAt E w B ao l) (hb : Below B w w') (hB : B ≤ B') : GAt E w' B' ao l := by
  rcases h with rfl | ⟨b, off, rfl, hlt, hc⟩
  · exact .inl rfl
  · exact .inr ⟨b, off, rfl, by omega, fun i hi j hj => (hb.cell (p := ⟨b, off + i * E.sz + j, none⟩) hlt).trans (hc i hi j hj)⟩
/-- a row that is read -/
structure GRd (E : GEl α) (w : World) (ao : Option Addr) (l : List α) (cap : Nat) : Prop where
  hl : l.length ≤ cap
  hc : cap ≤ 9223372036854775807
  hn : ao = none → cap = 0
  at_ : GAt E w w.heap.size ao l
theorem GRd.below {w w' : World} {ao : Option Addr} {l : List α} {cap : Nat} (h : GRd E w ao l cap) (hb : Below w.heap.size w w') : GRd E w' ao l cap :=
  ⟨h.hl, h.hc, h.hn, h.at_.below hb hb.size⟩
theorem GRd.alloc {w : World} {ao : Option Addr} {l : List α} {cap : Nat} (h : GRd E w ao l cap) (o : Obj) : GRd E (w.alloc o) ao l cap := h.below (g_alloc w o)
theorem GRd.nil (w : World) : GRd E w none [] 0 := ⟨by simp, by simp, fun _ => rfl, .inl rfl⟩
theorem GRd.len {w : World} {ao : Option Addr} {l : List α} {cap : Nat} (h : GRd E w ao l cap) : l.length ≤ 9223372036854775807 := Nat.le_trans h.hl h.hc
theorem GRd.lies {w : World} {ao : Option Addr} {l : List α} {cap : Nat} (h : GRd E w ao l cap) (hne : l ≠ []) : ∃ b off, ao = some ⟨b, off, none⟩ ∧ b < w.heap.size ∧ ∀ i (hi : i < l.length) (j : Nat), j < E.sz → w.cell? ⟨b, off + i * E.sz + j, none⟩ = (E.cells l[i])[j]? := by
  rcases h.at_ with e | h
  · exact absurd e hne
  · exact h
theorem GRd.news (K : GOk E) {w : World} {a : Addr} {l : List α} {cap : Nat} (h : GRd E w (some a) l cap) : ∀ j u, (l.flatMap E.cells)[j]? = some u → w.cell? (a.add j) = some u := by
  rcases h.at_ with rfl | ⟨b, off, e, _, hc⟩
  · intro j u hu; simp at hu
  · cases e
    intro j u hu
    have hp := K.pos
    have hj : j < l.length * E.sz := by rw [← K.flat_len]; exact (List.getElem?_eq_some_iff.1 hu).1
    have hi : j / E.sz < l.length := Nat.div_lt_of_lt_mul (by rw [Nat.mul_comm]; exact hj)
    have hm : j % E.sz < E.sz := Nat.mod_lt _ hp
    have e : j = j / E.sz * E.sz + j % E.sz := by rw [Nat.mul_comm]; exact (Nat.div_add_mod j E.sz).symm
    have h1 := hc (j / E.sz) hi (j % E.sz) hm
    have h2 := K.flat_get l (j / E.sz) (j % E.sz) hi hm
    rw [← e, hu] at h2
    rw [g_add, Nat.add_assoc, ← e] at *
    rw [h1, ← h2]

/-- the slice v owns the elements l, in a block from base on -/
def GOwn (E : GEl α) (w : World) (base : Nat) (v : Value) (l : List α) : Prop := w.ownsRow base E.e E.sz v l.length (l.flatMap E.cells)
theorem GOwn.nil (w : World) (base : Nat) : GOwn E w base (.slice none 0 0) [] := World.ownsRow_nil w base _ _
theorem GOwn.alloc {w : World} {base : Nat} {v : Value} {l : List α} (h : GOwn E w base v l) (o : Obj) : GOwn E (w.alloc o) base v l := World.ownsRow.alloc h o
theorem GOwn.grown {w w' : World} {base : Nat} {v : Value} {l : List α} {row : Option Nat} (h : GOwn E w base v l) (hg : w.grownBy w' row) (hne : ∀ k, v.ownBlock = some k → row ≠ some k) : GOwn E w' base v l := by
  refine World.ownsRow.kept h hg ?_
  cases hv : v.ownBlock with
  | none => exact .inl rfl
  | some k => exact .inr (fun e => hne k hv e.symm)
theorem GOwn.below {w w' : World} {base : Nat} {v : Value} {l : List α} (h : GOwn E w base v l) (hb : Below w.heap.size w w') : GOwn E w' base v l :=
  h.grown (row := none) (g_grown hb none) (by intro k _ e; cases e)
theorem GOwn.lt {w : World} {base : Nat} {v : Value} {l : List α} (h : GOwn E w base v l) : ∀ k, v.ownBlock = some k → base ≤ k ∧ k < w.heap.size := World.ownsRow.lt h
theorem GOwn.down {w : World} {base base' : Nat} {v : Value} {l : List α} (h : GOwn E w base v l) (hb : base' ≤ base) : GOwn E w base' v l := by
  refine ⟨h.1, ?_⟩
  rcases h.2 with h1 | ⟨g, cap, cur, h1, h2, h3⟩
  · exact .inl h1
  · exact .inr ⟨g, cap, cur, h1, Nat.le_trans hb h2, h3⟩
theorem GOwn.parts (K : GOk E) {w : World} {base : Nat} {v : Value} {l : List α} (h : GOwn E w base v l) : (v = .slice none 0 0 ∧ l = []) ∨ ∃ g cap cur, v = .slice (some ⟨g, 0, none⟩) l.length cap ∧ base ≤ g ∧ w.heap[g]? = some (.cells cur E.e (0, 0)) ∧ cur.size = cap * E.sz ∧ l.length ≤ cap ∧ cap ≤ 9223372036854775807 ∧ ∀ i (hi : i < l.length) (j : Nat), j < E.sz → w.cell? ⟨g, 0 + i * E.sz + j, none⟩ = (E.cells l[i])[j]? := by
  rcases h.2 with ⟨e, hn⟩ | ⟨g, cap, cur, e, hb, hg, hn, hm, hs, ht⟩
  · exact .inl ⟨e, List.eq_nil_of_length_eq_zero hn⟩
  · refine .inr ⟨g, cap, cur, e, hb, hg, hs, hn, hm, fun i hi j hj => ?_⟩
    subst e
    have h1 := K.flat_get l i j hi hj
    have hj' : j < (E.cells l[i]).length := by rw [K.len]; exact hj
    rw [List.getElem?_eq_getElem hj'] at h1 ⊢
    have := World.ownsRow.cells h (g := g) rfl (i * E.sz + j) _ h1
    rw [g_add] at this
    rw [Nat.add_assoc]
    exact this
theorem GOwn.rd (K : GOk E) {w : World} {base : Nat} {v : Value} {l : List α} (h : GOwn E w base v l) : ∃ ao cap, v = .slice ao l.length cap ∧ GRd E w ao l cap := by
  rcases h.parts K with ⟨rfl, rfl⟩ | ⟨g, cap, cur, rfl, hb, hg, hs, hn, hm, hc⟩
  · exact ⟨none, 0, rfl, GRd.nil w⟩
  · exact ⟨_, cap, rfl, hn, hm, (by intro e; cases e), .inr ⟨g, 0, rfl, (Array.getElem?_eq_some_iff.1 hg).1, hc⟩⟩
/-- what a call leaves of a row: it and new blocks have turned; the new one lies in the old one's place, or in a new block -/
structure GGrew (w w' : World) (v v' : Value) : Prop where
  grown : w.grownBy w' v.ownBlock
  lies : ∀ k, v'.ownBlock = some k → v.ownBlock = some k ∨ w.heap.size ≤ k
theorem GGrew.refl (w : World) (v : Value) : GGrew w w v v := ⟨World.grownBy.refl w _, fun k h => .inl h⟩
theorem GGrew.alloc {w w' : World} {v v' : Value} {o : Obj} (h : GGrew (w.alloc o) w' v v') : GGrew w w' v v' := by
  have hs : (w.alloc o).heap.size = w.heap.size + 1 := by simp
  refine ⟨(World.grownBy_alloc w o v.ownBlock).trans h.grown, fun k hk => ?_⟩
  rcases h.lies k hk with g | g
  · exact .inl g
  · exact .inr (by omega)
theorem GGrew.drew {w w' : World} {v v' : Value} (h : GGrew w.drew w' v v') : GGrew w w' v v' := ⟨⟨h.grown.os, h.grown.tape, h.grown.output, h.grown.size, h.grown.block⟩, h.lies⟩
theorem GGrew.below {w w' : World} {v v' : Value} {base : Nat} {l : List α} (h : GGrew w w' v v') (ho : GOwn E w base v l) (hb : base ≤ w.heap.size) : Below base w w' :=
  (Below.refl _ _).grown h.grown hb (fun k hk => (ho.lt k hk).1)
/-- append of a row that lies somewhere, onto a row of the call's own: the run -/
theorem g_run (K : GOk E) (w : World) (ty : TypeId) (base : Nat) (v : Value) (l : List α) (hown : GOwn E w base v l) (ao : Option Addr) (c : Nat) (src : List α) (hsrc : GRd E w ao src c)
    (hlen : l.length + src.length ≤ 1000000) (hbase : base ≤ w.heap.size) :
    ∃ v' w', (Builtin.append_ #[E.st, E.st] ty #[v, .slice ao src.length c]).run Try.prog w = .ok v' w' ∧ GOwn E w' base v' (l ++ src) ∧ GGrew w w' v v' := by
  obtain ⟨i0, hi, hz0, hz1, hz2⟩ := info_parts K.info
  cases ao with
  | none =>
    have hc := hsrc.hn rfl
    have hs : src = [] := List.eq_nil_of_length_eq_zero (by have := hsrc.hl; omega)
    subst hs hc
    have hr := run_append_owned_none (P := Try.prog) (w := w) base E.st ty E.e i0 E.sz K.und hi v l.length (l.flatMap E.cells) hown
    exact ⟨v, w, hr, by rw [List.append_nil]; exact hown, GGrew.refl w v⟩
  | some a =>
    have hm : maxLen = 9223372036854775807 := rfl
    have hby : (l.length + src.length) * E.bytes ≤ 140737488355328 := Nat.le_trans (Nat.mul_le_mul hlen K.small) (by decide)
    obtain ⟨v', w', hr, ho, hg, _, hat⟩ := run_append_own_at (P := Try.prog) w base E.st ty E.e i0 E.zero E.sz E.bytes K.und hi hz0 hz1 hz2 K.zs K.pos v l.length (l.flatMap E.cells) hown a src.length c (src.flatMap E.cells) (K.flat_len src) (hsrc.news K) (K.flat_one src) (by omega) hby hbase
    refine ⟨v', w', hr, ?_, hg, fun k hk => ?_⟩
    · unfold GOwn
      rw [List.length_append, List.flatMap_append]
      exact ho
    · rcases hat with h | h
      · exact .inl (h ▸ hk)
      · rw [h] at hk; cases hk; exact .inr (Nat.le_refl _)
variable {w : World} {ops : Array Oper} {rest : List Oper} {o : Oper} {a : Act} {Q : Exit → Act → World → Prop} {P : Act → World → Prop} {F : Prop}
/-- append(v, src...): at the operation -/
theorem g_app (K : GOk E) (hgd : o.guard = none) (s x : Operand) (T : TypeId) (ho : o.op = .call { callee := .builtin .append, args := #[s, x], argTypes := #[T, T] }) (hT : T = E.st)
    (base : Nat) (v : Value) (l : List α) (hown : GOwn E w base v l) (hs : a.eval s = v) (ao : Option Addr) (c : Nat) (src : List α) (m : Nat) (hm : m = src.length) (hx : a.eval x = .slice ao m c) (hsrc : GRd E w ao src c)
    (hlen : l.length + src.length ≤ 1000000) (hbase : base ≤ w.heap.size)
    (h : ∀ v' w', GOwn E w' base v' (l ++ src) → GGrew w w' v v' → wpList Try.prog ops Q rest (a.put o.dst v') w') : wpList Try.prog ops Q (o :: rest) a w := by
  subst hm hT
  refine wpList_plain hgd fun K' hK => ?_
  obtain ⟨v', w', hr, h2, h3⟩ := g_run K w o.type base v l hown ao c src hsrc hlen hbase
  unfold Oper.wp execOp
  simp only [ho, resolve, invoke, builtin, Sem.run_bind, Sem.run_pure, Result.andThen_ok, List.map_toArray, List.map_cons, List.map_nil, hs, hx, hr]
  exact hK _ _ (h v' w' h2 h3)
/-- .. in a region that draws -/
theorem g_step (K : GOk E) (hgd : o.guard = none) (s x : Operand) (T : TypeId) (ho : o.op = .call { callee := .builtin .append, args := #[s, x], argTypes := #[T, T] }) (hT : T = E.st)
    (base : Nat) (v : Value) (l : List α) (hown : GOwn E w base v l) (hs : a.eval s = v) (ao : Option Addr) (c : Nat) (src : List α) (m : Nat) (hm : m = src.length) (hx : a.eval x = .slice ao m c) (hsrc : GRd E w ao src c)
    (hlen : l.length + src.length ≤ 1000000) (hbase : base ≤ w.heap.size)
    (h : ∀ v' w', GOwn E w' base v' (l ++ src) → GGrew w w' v v' → P (a.put o.dst v') w') : if Region.wanted o (yielded ops a.tmps) = true then Oper.wp Try.prog o a w P Q else F := by
  have hw1 : Region.wanted o (yielded ops a.tmps) = true := by simp [Region.wanted, hgd]
  rw [if_pos hw1]
  subst hm hT
  obtain ⟨v', w', hr, h2, h3⟩ := g_run K w o.type base v l hown ao c src hsrc hlen hbase
  unfold Oper.wp execOp
  simp only [ho, resolve, invoke, builtin, Sem.run_bind, Sem.run_pure, Result.andThen_ok, List.map_toArray, List.map_cons, List.map_nil, hs, hx, hr]
  exact h v' w' h2 h3
/-- one element in a new block of its own -/
theorem g_new (K : GOk E) (w0 : World) (q : α) : GRd E (w0.alloc (.cells (E.cells q).toArray E.e)) (some ⟨w0.heap.size, 0, none⟩) [q] 1 :=
  ⟨by simp, by simp, (by intro e; cases e), .inr ⟨w0.heap.size, 0, rfl, by simp, fun i hi j hj => by
    have : i = 0 := by simp at hi; omega
    subst this
    have hj' : j < (E.cells q).length := by rw [K.len]; exact hj
    simp [hj']⟩⟩
/-- append(v, q): at the operation; the element lies in a new block of its own -/
theorem g_one {w0 : World} (K : GOk E) (hgd : o.guard = none) (s x : Operand) (T : TypeId) (ho : o.op = .call { callee := .builtin .append, args := #[s, x], argTypes := #[T, T] }) (hT : T = E.st)
    (base : Nat) (v : Value) (l : List α) (hown : GOwn E w0 base v l) (hs : a.eval s = v) (q : α) (hw : w = w0.alloc (.cells (E.cells q).toArray E.e)) (H : Nat) (hx : a.eval x = .slice (some ⟨H, 0, none⟩) 1 1) (hH : H = w0.heap.size)
    (hlen : l.length + 1 ≤ 1000000) (hbase : base ≤ w0.heap.size)
    (h : ∀ v' w', GOwn E w' base v' (l ++ [q]) → GGrew w0 w' v v' → wpList Try.prog ops Q rest (a.put o.dst v') w') : wpList Try.prog ops Q (o :: rest) a w := by
  subst hw hH
  exact g_app K hgd s x T ho hT base v l (hown.alloc _) hs _ 1 [q] 1 rfl hx (g_new K w0 q) (by simpa using hlen) (by simp; omega) (fun v' w' h1 h2 => h v' w' h1 h2.alloc)
/-- .. in a region that draws -/
theorem g_step_one {w0 : World} (K : GOk E) (hgd : o.guard = none) (s x : Operand) (T : TypeId) (ho : o.op = .call { callee := .builtin .append, args := #[s, x], argTypes := #[T, T] }) (hT : T = E.st)
    (base : Nat) (v : Value) (l : List α) (hown : GOwn E w0 base v l) (hs : a.eval s = v) (q : α) (hw : w = w0.alloc (.cells (E.cells q).toArray E.e)) (H : Nat) (hx : a.eval x = .slice (some ⟨H, 0, none⟩) 1 1) (hH : H = w0.heap.size)
    (hlen : l.length + 1 ≤ 1000000) (hbase : base ≤ w0.heap.size)
    (h : ∀ v' w', GOwn E w' base v' (l ++ [q]) → GGrew w0 w' v v' → P (a.put o.dst v') w') : if Region.wanted o (yielded ops a.tmps) = true then Oper.wp Try.prog o a w P Q else F := by
  subst hw hH
  exact g_step K hgd s x T ho hT base v l (hown.alloc _) hs _ 1 [q] 1 rfl hx (g_new K w0 q) (by simpa using hlen) (by simp; omega) (fun v' w' h1 h2 => h v' w' h1 h2.alloc)
end
end Go.Proofs.Ytfjcaofmcjhdpaa
