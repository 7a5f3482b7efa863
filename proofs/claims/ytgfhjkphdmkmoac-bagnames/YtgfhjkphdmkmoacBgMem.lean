/-
  Lists of bytes and lists of numbers in memory: what is read, what a call made; append of one more.
-/
import Derived.Test.YtgfhjkphdmkmoacDkMem
namespace Go.Proofs.Ytgfhjkphdmkmoac
open Go.RowKit
set_option linter.unusedSimpArgs false
set_option linter.unusedVariables false
set_option maxRecDepth 100000

theorem Try.infoBytes : (Try.prog.info? 22).map (fun i => (i.zero, i.size, i.bytes)) = some (some (.slice none 0 0), 1, 24) := by kernel_rfl

/-- numbers lie at the address, below block B -/
def IsAt (w : World) (B : Nat) (ao : Option Addr) (l : List Int) : Prop :=
  l = [] ∨ ∃ b off, ao = some ⟨b, off, none⟩ ∧ b < B ∧ ∀ j (hj : j < l.length), w.cell? ⟨b, off + j, none⟩ = some (.int .i64 l[j])
theorem IsAt.below {w w' : World} {B B' : Nat} {ao : Option Addr} {l : List Int} (h : IsAt w B ao l) (hb : Below B w w') (hB : B ≤ B') : IsAt w' B' ao l := by
  rcases h with rfl | ⟨b, off, rfl, hlt, hc⟩
  · exact .inl rfl
  · exact .inr ⟨b, off, rfl, by omega, fun j hj => (hb.cell (p := ⟨b, off + j, none⟩) hlt).trans (hc j hj)⟩
structure Il (w : World) (ao : Option Addr) (l : List Int) (cap : Nat) : Prop where
  hl : l.length ≤ cap
  hc : cap ≤ 9223372036854775807
  hn : ao = none → cap = 0
  at_ : IsAt w w.heap.size ao l
theorem Il.below {w w' : World} {ao : Option Addr} {l : List Int} {cap : Nat} (h : Il w ao l cap) (hb : Below w.heap.size w w') : Il w' ao l cap :=
  ⟨h.hl, h.hc, h.hn, h.at_.below hb hb.size⟩

/-- lists of bytes lie at the address, below block B -/
def LsAt (w : World) (B : Nat) (ao : Option Addr) (ls : List (List UInt8)) : Prop :=
  ls = [] ∨ ∃ b off, ao = some ⟨b, off, none⟩ ∧ b < B ∧ ∀ i (hi : i < ls.length), ∃ v, w.cell? ⟨b, off + i, none⟩ = some v ∧ DtAt w B v ls[i]
theorem LsAt.below {w w' : World} {B B' : Nat} {ao : Option Addr} {ls : List (List UInt8)} (h : LsAt w B ao ls) (hb : Below B w w') (hB : B ≤ B') : LsAt w' B' ao ls := by
  rcases h with rfl | ⟨b, off, rfl, hlt, hc⟩
  · exact .inl rfl
  · refine .inr ⟨b, off, rfl, by omega, fun i hi => ?_⟩
    obtain ⟨v, h1, h2⟩ := hc i hi
    exact ⟨v, (hb.cell (p := ⟨b, off + i, none⟩) hlt).trans h1, h2.below hb hB⟩
theorem LsAt.drop {w : World} {B : Nat} {ao : Option Addr} {ls : List (List UInt8)} (h : LsAt w B ao ls) (k : Nat) : LsAt w B (ao.map fun x => x.add k) (ls.drop k) := by
  rcases h with rfl | ⟨b, off, rfl, hlt, hc⟩
  · exact .inl (by simp)
  · refine .inr ⟨b, off + k, by simp [addr_add], hlt, fun j hj => ?_⟩
    have h1 : k + j < ls.length := by simp at hj; omega
    obtain ⟨v, h2, h3⟩ := hc (k + j) h1
    refine ⟨v, by rw [Nat.add_assoc, h2], ?_⟩
    simpa using h3
theorem LsAt.drop_all {w : World} {B : Nat} {ao : Option Addr} {ls : List (List UInt8)} {k : Nat} (h : ls.length ≤ k) : LsAt w B ao (ls.drop k) := .inl (by simp [h])
theorem LsAt.take {w : World} {B : Nat} {ao : Option Addr} {ls : List (List UInt8)} (h : LsAt w B ao ls) (k : Nat) : LsAt w B ao (ls.take k) := by
  rcases h with rfl | ⟨b, off, rfl, hlt, hc⟩
  · exact .inl (by simp)
  · refine .inr ⟨b, off, rfl, hlt, fun j hj => ?_⟩
    have h1 : j < ls.length := by simp at hj; omega
    obtain ⟨v, h2, h3⟩ := hc j h1
    exact ⟨v, h2, by simpa using h3⟩
structure Ll (w : World) (ao : Option Addr) (ls : List (List UInt8)) (cap : Nat) : Prop where
  hl : ls.length ≤ cap
  hc : cap ≤ 9223372036854775807
  hn : ao = none → cap = 0
  at_ : LsAt w w.heap.size ao ls
theorem Ll.below {w w' : World} {ao : Option Addr} {ls : List (List UInt8)} {cap : Nat} (h : Ll w ao ls cap) (hb : Below w.heap.size w w') : Ll w' ao ls cap :=
  ⟨h.hl, h.hc, h.hn, h.at_.below hb hb.size⟩

/-- the slice v owns the lists ls, in a block from base on; their bytes lie in blocks beside it -/
def OwnLs (w : World) (base : Nat) (v : Value) (ls : List (List UInt8)) : Prop :=
  ∃ vs : List Value, vs.length = ls.length ∧ w.ownsRow base 22 1 v ls.length vs ∧ ∀ i (hi : i < vs.length) (hj : i < ls.length), FreshBut w base v.ownBlock vs[i] ls[i]
theorem OwnLs.nil (w : World) (base : Nat) : OwnLs w base (.slice none 0 0) [] := ⟨[], rfl, World.ownsRow_nil _ _ _ _, fun i hi => by simp at hi⟩
theorem OwnLs.below {w w' : World} {base : Nat} {v : Value} {ls : List (List UInt8)} (h : OwnLs w base v ls) (hb : Below w.heap.size w w') : OwnLs w' base v ls := by
  obtain ⟨vs, h1, h2, h3⟩ := h
  refine ⟨vs, h1, h2.kept (grownBy_below hb none) ?_, fun i hi hj => ?_⟩
  · cases hv : v.ownBlock with
    | none => exact .inl rfl
    | some k => exact .inr (by simp)
  · exact (h3 i hi hj).grown (grownBy_below hb _) (.inl rfl)
theorem OwnLs.mono {w : World} {base base' : Nat} {v : Value} {ls : List (List UInt8)} (h : OwnLs w base v ls) (hb : base' ≤ base) : OwnLs w base' v ls := by
  obtain ⟨vs, h1, h2, h3⟩ := h
  refine ⟨vs, h1, ⟨h2.1, ?_⟩, fun i hi hj => (h3 i hi hj).mono hb⟩
  rcases h2.2 with h | ⟨g, cap, cur, e, hb1, rest⟩
  · exact .inl h
  · exact .inr ⟨g, cap, cur, e, by omega, rest⟩
/-- what is owned may be read -/
theorem OwnLs.ll {w : World} {base : Nat} {v : Value} {ls : List (List UInt8)} (h : OwnLs w base v ls) : ∃ ao cap, v = .slice ao ls.length cap ∧ Ll w ao ls cap := by
  obtain ⟨vs, h1, h2, h3⟩ := h
  have h2' := h2
  rcases h2'.2 with ⟨rfl, hn⟩ | ⟨g, cap, cur, rfl, hb, hg, hnc, hcm, hcs, htake⟩
  · have : ls = [] := List.eq_nil_of_length_eq_zero hn
    subst this
    exact ⟨none, 0, rfl, by simp, by omega, fun _ => rfl, .inl rfl⟩
  · refine ⟨_, cap, rfl, hnc, hcm, (by intro e; cases e), .inr ⟨g, 0, rfl, (Array.getElem?_eq_some_iff.1 hg).1, fun i hi => ?_⟩⟩
    have hi' : i < vs.length := by omega
    have c1 := World.ownsRow.cells h2 (g := g) rfl i vs[i] (by simp [hi'])
    rw [addr_add] at c1
    exact ⟨_, c1, (h3 i hi' hi).fresh.dt⟩

/-- append of one list, whose cell lies in a new block -/
theorem run_app_ls (w0 : World) (ty : TypeId) (base : Nat) (v : Value) (ls : List (List UInt8)) (hown : OwnLs w0 base v ls) (p : List UInt8) (u : Value) (hu : FreshBut w0 base v.ownBlock u p) (hlen : ls.length + 1 ≤ 1000000) (hbase : base ≤ w0.heap.size) :
    ∃ v' w', (Builtin.append_ #[36, 36] ty #[v, .slice (some ⟨w0.heap.size, 0, none⟩) 1 1]).run Try.prog (w0.alloc (.cells #[u] 22)) = .ok v' w' ∧ OwnLs w' base v' (ls ++ [p]) ∧ Grew w0 w' v v' := by
  obtain ⟨i0, hi, hz0, hz1, hz2⟩ := info_parts Try.infoBytes
  have hm : maxLen = 9223372036854775807 := rfl
  obtain ⟨vs, h1, h2, h3⟩ := hown
  obtain ⟨v', w', hr, ho, hg, _, hat⟩ := run_append_own_at (P := Try.prog) (w0.alloc (.cells #[u] 22)) base 36 ty 22 i0 (.slice none 0 0) 1 24 Try.underlying36 hi hz0 hz1 hz2 rfl (by decide) v ls.length vs (h2.alloc _) ⟨w0.heap.size, 0, none⟩ 1 1 [u] (by simp)
    (by
      intro j x hx
      rw [addr_add]
      simp only [Nat.zero_add]
      match j, hx with
      | 0, hx => simp at hx; subst hx; simp
      | j + 1, hx => simp at hx)
    (by
      intro x hx
      simp at hx
      subst hx
      exact hu.oneCell) (by omega) (by omega) (by simp; omega)
  have hg0 : w0.grownBy w' v.ownBlock := (World.grownBy_alloc w0 _ _).trans hg
  have hr' : v'.ownBlock = v.ownBlock ∨ ∀ k, v'.ownBlock = some k → w0.heap.size ≤ k := by
    rcases hat with h | h
    · exact .inl h
    · exact .inr (fun k hk => by rw [h] at hk; cases hk; simp)
  refine ⟨v', w', hr, ⟨vs ++ [u], by simp [h1], ?_, fun i hi hj => ?_⟩, ⟨hg0, fun k hk => ?_⟩⟩
  · simpa using ho
  · by_cases hlt : i < vs.length
    · have e1 : (vs ++ [u])[i] = vs[i] := List.getElem_append_left hlt
      have e2 : (ls ++ [p])[i] = ls[i] := List.getElem_append_left (by omega)
      rw [e1, e2]
      exact (h3 i hlt (by omega)).grown hg0 hr'
    · have hie : i = vs.length := by simp at hi; omega
      subst hie
      have e1 : (vs ++ [u])[vs.length] = u := by simp
      have e2 : (ls ++ [p])[vs.length] = p := by simp [h1]
      rw [e1, e2]
      exact hu.grown hg0 hr'
  · rcases hat with h | h
    · exact .inl (h ▸ hk)
    · rw [h] at hk; cases hk; exact .inr (by simp)

section
variable {w : World} {ops : Array Oper} {rest : List Oper} {o : Oper} {a : Act} {K : Act → World → Prop} {Q : Exit → Act → World → Prop} {E : Prop}
/-- append(v, p) at a step of a region that draws its order -/
theorem step_app_ls {w0 : World} (hgd : o.guard = none) (s x : Operand) (ho : o.op = .call { callee := .builtin .append, args := #[s, x], argTypes := #[36, 36] })
    (base : Nat) (v : Value) (ls : List (List UInt8)) (hown : OwnLs w0 base v ls) (hs : a.eval s = v) (p : List UInt8) (u : Value) (hu : FreshBut w0 base v.ownBlock u p) (hw : w = w0.alloc (.cells #[u] 22)) (hx : a.eval x = .slice (some ⟨w0.heap.size, 0, none⟩) 1 1)
    (hlen : ls.length + 1 ≤ 1000000) (hbase : base ≤ w0.heap.size)
    (h : ∀ v' w', OwnLs w' base v' (ls ++ [p]) → Grew w0 w' v v' → K (a.put o.dst v') w') : if Region.wanted o (yielded ops a.tmps) = true then Oper.wp Try.prog o a w K Q else E := by
  have hw1 : Region.wanted o (yielded ops a.tmps) = true := by simp [Region.wanted, hgd]
  rw [if_pos hw1]
  subst hw
  obtain ⟨v', w', hr, h2, h3⟩ := run_app_ls w0 o.type base v ls hown p u hu hlen hbase
  unfold Oper.wp execOp
  simp only [ho, resolve, invoke, builtin, Sem.run_bind, Sem.run_pure, Result.andThen_ok, List.map_toArray, List.map_cons, List.map_nil, hs, hx, hr]
  exact h v' w' h2 h3
/-- append(v, p) at the operation -/
theorem app_ls {w0 : World} (hgd : o.guard = none) (s x : Operand) (ho : o.op = .call { callee := .builtin .append, args := #[s, x], argTypes := #[36, 36] })
    (base : Nat) (v : Value) (ls : List (List UInt8)) (hown : OwnLs w0 base v ls) (hs : a.eval s = v) (p : List UInt8) (u : Value) (hu : FreshBut w0 base v.ownBlock u p) (hw : w = w0.alloc (.cells #[u] 22)) (hx : a.eval x = .slice (some ⟨w0.heap.size, 0, none⟩) 1 1)
    (hlen : ls.length + 1 ≤ 1000000) (hbase : base ≤ w0.heap.size)
    (h : ∀ v' w', OwnLs w' base v' (ls ++ [p]) → Grew w0 w' v v' → wpList Try.prog ops Q rest (a.put o.dst v') w') : wpList Try.prog ops Q (o :: rest) a w := by
  subst hw
  refine wpList_plain hgd fun K hK => ?_
  obtain ⟨v', w', hr, h2, h3⟩ := run_app_ls w0 o.type base v ls hown p u hu hlen hbase
  unfold Oper.wp execOp
  simp only [ho, resolve, invoke, builtin, Sem.run_bind, Sem.run_pure, Result.andThen_ok, List.map_toArray, List.map_cons, List.map_nil, hs, hx, hr]
  exact hK _ _ (h v' w' h2 h3)
end
theorem OwnLs.lt {w : World} {base : Nat} {v : Value} {ls : List (List UInt8)} (h : OwnLs w base v ls) : ∀ k, v.ownBlock = some k → base ≤ k ∧ k < w.heap.size := by
  obtain ⟨vs, h1, h2, h3⟩ := h
  exact World.ownsRow.lt h2
theorem Grew.below_ls {w w' : World} {v v' : Value} {base : Nat} {ls : List (List UInt8)} (h : Grew w w' v v') (ho : OwnLs w base v ls) (hb : base ≤ w.heap.size) : Below base w w' :=
  (Below.refl _ _).grown h.grown hb (fun k hk => (ho.lt k hk).1)
end Go.Proofs.Ytgfhjkphdmkmoac
