/-
  Lists of writes that a call made: a row of its own, each write's bytes in a block beside it; append of one more.
-/
import Derived.Test.YtgfhjkphdmkmoabDkDo
namespace Go.Proofs.Ytgfhjkphdmkmoab
open Go.RowKit
set_option linter.unusedSimpArgs false
set_option linter.unusedVariables false
set_option maxRecDepth 100000

theorem Try.infoPut : (Try.prog.info? 77).map (fun i => (i.zero, i.size, i.bytes)) = some (some (.agg #[.int .i64 0, .slice none 0 0]), 2, 32) := by kernel_rfl

/-- the cells of writes whose bytes lie at vs -/
def ptCells (ps : List Pt) (vs : List Value) : List Value := (ps.zip vs).flatMap fun q => [.int .i64 q.1.n, q.2]
theorem ptCells_snoc (ps : List Pt) (vs : List Value) (h : vs.length = ps.length) (p : Pt) (v : Value) : ptCells (ps ++ [p]) (vs ++ [v]) = ptCells ps vs ++ [.int .i64 p.n, v] := by
  unfold ptCells
  rw [List.zip_append (by omega)]
  simp
theorem ptCells_get : ∀ (ps : List Pt) (vs : List Value) (h : vs.length = ps.length) (i : Nat) (hi : i < ps.length),
    (ptCells ps vs)[i * 2]? = some (.int .i64 ps[i].n) ∧ (ptCells ps vs)[i * 2 + 1]? = some (vs[i]'(by omega))
  | [], _, _, i, hi => by simp at hi
  | p :: ps, v :: vs, h, 0, _ => by simp [ptCells]
  | p :: ps, v :: vs, h, i + 1, hi => by
    have ih := ptCells_get ps vs (by simpa using h) i (by simpa using hi)
    have e : ptCells (p :: ps) (v :: vs) = .int .i64 p.n :: v :: ptCells ps vs := by simp [ptCells]
    rw [e, show (i + 1) * 2 = i * 2 + 2 by omega, show i * 2 + 2 + 1 = i * 2 + 1 + 2 by omega]
    simpa using ih
  | p :: ps, [], h, _, _ => by simp at h

/-- the slice v owns the writes ps, in a block from base on; their bytes lie in blocks beside it -/
def OwnPs (w : World) (base : Nat) (v : Value) (ps : List Pt) : Prop :=
  ∃ vs : List Value, vs.length = ps.length ∧ w.ownsRow base 77 2 v ps.length (ptCells ps vs) ∧ ∀ i (hi : i < vs.length) (hj : i < ps.length), FreshBut w base v.ownBlock vs[i] ps[i].data
theorem OwnPs.below {w w' : World} {base : Nat} {v : Value} {ps : List Pt} (h : OwnPs w base v ps) (hb : Below w.heap.size w w') : OwnPs w' base v ps := by
  obtain ⟨vs, h1, h2, h3⟩ := h
  refine ⟨vs, h1, h2.kept (grownBy_below hb none) ?_, fun i hi hj => ?_⟩
  · cases hv : v.ownBlock with
    | none => exact .inl rfl
    | some k => exact .inr (by simp)
  · exact (h3 i hi hj).grown (grownBy_below hb _) (.inl rfl)
theorem OwnPs.mono {w : World} {base base' : Nat} {v : Value} {ps : List Pt} (h : OwnPs w base v ps) (hb : base' ≤ base) : OwnPs w base' v ps := by
  obtain ⟨vs, h1, h2, h3⟩ := h
  refine ⟨vs, h1, ⟨h2.1, ?_⟩, fun i hi hj => (h3 i hi hj).mono hb⟩
  rcases h2.2 with h | ⟨g, cap, cur, e, hb1, rest⟩
  · exact .inl h
  · exact .inr ⟨g, cap, cur, e, by omega, rest⟩
/-- what is owned may be read -/
theorem OwnPs.at {w : World} {base : Nat} {v : Value} {ps : List Pt} (h : OwnPs w base v ps) :
    ∃ ao cap, v = .slice ao ps.length cap ∧ ps.length ≤ cap ∧ cap ≤ maxLen ∧ PtAt w w.heap.size ao ps := by
  obtain ⟨vs, h1, h2, h3⟩ := h
  have h2' := h2
  rcases h2'.2 with ⟨rfl, hn⟩ | ⟨g, cap, cur, rfl, hb, hg, hnc, hcm, hcs, htake⟩
  · have : ps = [] := List.eq_nil_of_length_eq_zero hn
    subst this
    exact ⟨none, 0, rfl, by simp, by simp [maxLen], .inl rfl⟩
  · refine ⟨_, cap, rfl, hnc, hcm, .inr ⟨g, 0, rfl, (Array.getElem?_eq_some_iff.1 hg).1, fun i hi => ?_⟩⟩
    have hi' : i < vs.length := by omega
    obtain ⟨g1, g2⟩ := ptCells_get ps vs h1 i hi
    have c1 := World.ownsRow.cells h2 (g := g) rfl _ _ g1
    have c2 := World.ownsRow.cells h2 (g := g) rfl _ _ g2
    rw [addr_add] at c1 c2
    rw [Nat.zero_add] at c1 c2 ⊢
    exact ⟨c1, _, c2, (h3 i hi' hi).fresh.dt⟩

/-- append of one write, whose two cells lie in a new block -/
theorem run_app_put (w0 : World) (ty : TypeId) (base : Nat) (v : Value) (ps : List Pt) (hown : OwnPs w0 base v ps) (p : Pt) (u : Value) (hu : FreshBut w0 base v.ownBlock u p.data) (hlen : ps.length + 1 ≤ 1000000) (hbase : base ≤ w0.heap.size) :
    ∃ v' w', (Builtin.append_ #[55, 55] ty #[v, .slice (some ⟨w0.heap.size, 0, none⟩) 1 1]).run Try.prog (w0.alloc (.cells #[.int .i64 p.n, u] 77)) = .ok v' w' ∧ OwnPs w' base v' (ps ++ [p]) ∧ Grew w0 w' v v' := by
  obtain ⟨i0, hi, hz0, hz1, hz2⟩ := info_parts Try.infoPut
  have hm : maxLen = 9223372036854775807 := rfl
  obtain ⟨vs, h1, h2, h3⟩ := hown
  obtain ⟨v', w', hr, ho, hg, _, hat⟩ := run_append_own_at (P := Try.prog) (w0.alloc (.cells #[.int .i64 p.n, u] 77)) base 55 ty 77 i0 (.agg #[.int .i64 0, .slice none 0 0]) 2 32 Try.underlying55 hi hz0 hz1 hz2 rfl (by decide) v ps.length (ptCells ps vs) (h2.alloc _) ⟨w0.heap.size, 0, none⟩ 1 1 [.int .i64 p.n, u] (by simp)
    (by
      intro j x hx
      rw [addr_add]
      simp only [Nat.zero_add]
      match j, hx with
      | 0, hx => simp at hx; subst hx; simp
      | 1, hx => simp at hx; subst hx; simp
      | j + 2, hx => simp at hx)
    (by
      intro x hx
      simp at hx
      rcases hx with rfl | rfl
      · rfl
      · exact hu.oneCell) (by omega) (by omega) (by simp; omega)
  have hg0 : w0.grownBy w' v.ownBlock := (World.grownBy_alloc w0 _ _).trans hg
  have hr' : v'.ownBlock = v.ownBlock ∨ ∀ k, v'.ownBlock = some k → w0.heap.size ≤ k := by
    rcases hat with h | h
    · exact .inl h
    · exact .inr (fun k hk => by rw [h] at hk; cases hk; simp)
  refine ⟨v', w', hr, ⟨vs ++ [u], by simp [h1], ?_, fun i hi hj => ?_⟩, ⟨hg0, fun k hk => ?_⟩⟩
  · rw [ptCells_snoc ps vs h1]
    simpa using ho
  · by_cases hlt : i < vs.length
    · have e1 : (vs ++ [u])[i] = vs[i] := List.getElem_append_left hlt
      have e2 : (ps ++ [p])[i] = ps[i] := List.getElem_append_left (by omega)
      rw [e1, e2]
      exact (h3 i hlt (by omega)).grown hg0 hr'
    · have hie : i = vs.length := by simp at hi; omega
      subst hie
      have e1 : (vs ++ [u])[vs.length] = u := by simp
      have e2 : (ps ++ [p])[vs.length] = p := by simp [h1]
      rw [e1, e2]
      exact hu.grown hg0 hr'
  · rcases hat with h | h
    · exact .inl (h ▸ hk)
    · rw [h] at hk; cases hk; exact .inr (by simp)

section
variable {w : World} {ops : Array Oper} {o : Oper} {a : Act} {K : Act → World → Prop} {Q : Exit → Act → World → Prop} {E : Prop}
/-- append(v, p) at a step of a region that draws its order -/
theorem step_app_put {w0 : World} (hgd : o.guard = none) (s x : Operand) (ho : o.op = .call { callee := .builtin .append, args := #[s, x], argTypes := #[55, 55] })
    (base : Nat) (v : Value) (ps : List Pt) (hown : OwnPs w0 base v ps) (hs : a.eval s = v) (p : Pt) (u : Value) (hu : FreshBut w0 base v.ownBlock u p.data) (hw : w = w0.alloc (.cells #[.int .i64 p.n, u] 77)) (hx : a.eval x = .slice (some ⟨w0.heap.size, 0, none⟩) 1 1)
    (hlen : ps.length + 1 ≤ 1000000) (hbase : base ≤ w0.heap.size)
    (h : ∀ v' w', OwnPs w' base v' (ps ++ [p]) → Grew w0 w' v v' → K (a.put o.dst v') w') : if Region.wanted o (yielded ops a.tmps) = true then Oper.wp Try.prog o a w K Q else E := by
  have hw1 : Region.wanted o (yielded ops a.tmps) = true := by simp [Region.wanted, hgd]
  rw [if_pos hw1]
  subst hw
  obtain ⟨v', w', hr, h2, h3⟩ := run_app_put w0 o.type base v ps hown p u hu hlen hbase
  unfold Oper.wp execOp
  simp only [ho, resolve, invoke, builtin, Sem.run_bind, Sem.run_pure, Result.andThen_ok, List.map_toArray, List.map_cons, List.map_nil, hs, hx, hr]
  exact h v' w' h2 h3
end
end Go.Proofs.Ytgfhjkphdmkmoab
