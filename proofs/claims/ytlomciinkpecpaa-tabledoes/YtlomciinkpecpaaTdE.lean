/-
  The document's table: rows of its entries that a call made; append.
-/
import Derived.Test.YtlomciinkpecpaaTdGet
namespace Go.Proofs.Ytlomciinkpecpaa
open Go.RowKit
set_option linter.unusedSimpArgs false
set_option linter.unusedVariables false
set_option maxRecDepth 100000

theorem Try.infoREntry : (Try.prog.info? 79).map (fun i => (i.zero, i.size, i.bytes)) = some (some (.agg #[.int .i64 0, .string ⟨#[]⟩, .int .i64 0]), 3, 32) := by kernel_rfl
/-- the slice v owns the names with their moments T, in a block from base on -/
def OwnE (w : World) (base : Nat) (v : Value) (T : List NU) : Prop := w.ownsRow base 79 3 v T.length (T.flatMap tcells)
theorem OwnE.nil (w : World) (base : Nat) : OwnE w base (.slice none 0 0) [] := World.ownsRow_nil w base _ 3
theorem OwnE.alloc {w : World} {base : Nat} {v : Value} {T : List NU} (h : OwnE w base v T) (o : Obj) : OwnE (w.alloc o) base v T := World.ownsRow.alloc h o
theorem OwnE.grown {w w' : World} {base : Nat} {v : Value} {T : List NU} {row : Option Nat} (h : OwnE w base v T) (hg : w.grownBy w' row) (hne : ∀ k, v.ownBlock = some k → row ≠ some k) : OwnE w' base v T := by
  refine World.ownsRow.kept h hg ?_
  cases hv : v.ownBlock with
  | none => exact .inl rfl
  | some k => exact .inr (fun e => hne k hv e.symm)
theorem OwnE.below {w w' : World} {base : Nat} {v : Value} {T : List NU} (h : OwnE w base v T) (hb : Below w.heap.size w w') : OwnE w' base v T :=
  h.grown (row := none) ⟨hb.os, hb.tape, hb.output, hb.size, fun k hk _ => hb.block k hk⟩ (by intro k _ e; cases e)
theorem app_e {w w0 : World} {ops : Array Oper} {rest : List Oper} {o : Oper} {a : Act} {Q : Exit → Act → World → Prop} (hgd : o.guard = none) (s x : Operand) (ho : o.op = .call { callee := .builtin .append, args := #[s, x], argTypes := #[44, 44] })
    (base : Nat) (v : Value) (T : List NU) (hown : OwnE w0 base v T) (hs : a.eval s = v) (q : NU) (hw : w = w0.alloc (.cells (tcells q).toArray 79)) (H : Nat) (hx : a.eval x = .slice (some ⟨H, 0, none⟩) 1 1) (hH : H = w0.heap.size)
    (hlen : T.length + 1 ≤ 100000000) (hbase : base ≤ w0.heap.size)
    (h : ∀ v' w', OwnE w' base v' (T ++ [q]) → Grew w0 w' v v' → wpList Try.prog ops Q rest (a.put o.dst v') w') : wpList Try.prog ops Q (o :: rest) a w := by
  subst hH hw
  obtain ⟨i0, hi, hz0, hz1, hz2⟩ := info_parts Try.infoREntry
  have hm : maxLen = 9223372036854775807 := rfl
  refine wpList_append_own_at _ hgd s x 44 ho base 79 i0 _ 3 32 Try.underlying44 hi hz0 hz1 hz2 rfl (by decide) v T.length (T.flatMap tcells) hs (World.ownsRow.alloc hown _) ⟨w0.heap.size, 0, none⟩ 1 1 (tcells q) hx (by rw [tcells_len]) ?_ (tcells_one q) (by omega) (by omega) (by simp; omega) ?_
  · intro j u hu
    rw [addr_add]
    simp only [Nat.zero_add]
    have hj := (List.getElem?_eq_some_iff.1 hu).1
    have : u = (tcells q)[j] := by simpa [hj] using hu.symm
    subst this
    simp [hj]
  · intro v' w' h1 h2 h3 h4
    refine h v' w' ?_ ⟨(World.grownBy_alloc w0 _ _).trans h2, fun k hk => ?_⟩
    · have e : (T ++ [q]).length = T.length + 1 := by simp
      unfold OwnE
      rw [e, List.flatMap_append, List.flatMap_singleton]
      exact h1
    · rcases h4 with h4 | h4
      · exact .inl (h4 ▸ hk)
      · rw [h4] at hk
        cases hk
        exact .inr (by simp)

theorem OwnE.ne_of {w : World} {base : Nat} {v : Value} {T : List NU} (h : OwnE w base v T) {k : Nat} {o : Obj} (hk : w.heap[k]? = some o) (ho : ∀ c t m, o ≠ .cells c t m) : v.ownBlock ≠ some k := by
  intro e
  rcases h.2 with ⟨rfl, _⟩ | ⟨g, cap, cur, rfl, _, hg, _⟩
  · cases e
  · cases e
    rw [hg] at hk
    cases hk
    exact ho _ _ _ rfl
theorem OwnE.at {w : World} {base : Nat} {v : Value} {T : List NU} (h : OwnE w base v T) :
    ∃ ao cap, v = .slice ao T.length cap ∧ T.length ≤ cap ∧ cap ≤ maxLen ∧ TAt w ao T := by
  rcases h.2 with ⟨rfl, hn⟩ | ⟨g, cap, cur, rfl, hb, hg, hnc, hcm, hcs, htake⟩
  · have : T = [] := List.eq_nil_of_length_eq_zero hn
    subst this
    exact ⟨none, 0, rfl, by simp, by simp [maxLen], .inl rfl⟩
  · refine ⟨_, cap, rfl, hnc, hcm, .inr ⟨g, 0, rfl, (Array.getElem?_eq_some_iff.1 hg).1, fun i hi => ?_⟩⟩
    have key : ∀ j (hj : j < 3), w.cell? ⟨g, 0 + i * 3 + j, none⟩ = some ((tcells T[i])[j]'(by rw [tcells_len]; exact hj)) := fun j hj => by
      have := World.ownsRow.cells h (g := g) rfl (i * 3 + j) _ (flatT_get T i j hi hj)
      rw [addr_add] at this
      rw [Nat.zero_add] at this ⊢
      exact this
    exact ⟨key 0 (by omega), key 1 (by omega), key 2 (by omega)⟩
theorem OwnE.same {w w' : World} {base : Nat} {v : Value} {T : List NU} (h : OwnE w base v T) (e : ∀ g, v.ownBlock = some g → w'.heap[g]? = w.heap[g]?) : OwnE w' base v T := ⟨h.1, by
  rcases h.2 with h1 | ⟨g, cap, cur, h1, h2, h3, h4⟩
  · exact .inl h1
  · exact .inr ⟨g, cap, cur, h1, h2, (e g (by rw [h1]; rfl)).trans h3, h4⟩⟩
theorem OwnE.down {w : World} {b b' : Nat} {v : Value} {T : List NU} (h : OwnE w b v T) (hb : b' ≤ b) : OwnE w b' v T := ⟨h.1, by
  rcases h.2 with h | ⟨g, cap, cur, h1, h2, h3⟩
  · exact .inl h
  · exact .inr ⟨g, cap, cur, h1, Nat.le_trans hb h2, h3⟩⟩
/-- entries that are read: their slice's own facts -/
structure De (w : World) (ao : Option Addr) (D : List NU) (cap : Nat) : Prop where
  hl : D.length ≤ cap
  hc : cap ≤ maxLen
  hn : ao = none → cap = 0
  at_ : TAt w ao D
theorem De.below {w w' : World} {ao : Option Addr} {D : List NU} {cap : Nat} (h : De w ao D cap) (hb : Below w.heap.size w w') : De w' ao D cap := ⟨h.hl, h.hc, h.hn, h.at_.belowD hb⟩
theorem De.nil (w : World) : De w none [] 0 := ⟨by simp, by simp, fun _ => rfl, .inl rfl⟩
theorem OwnE.de {w : World} {base : Nat} {v : Value} {T : List NU} (h : OwnE w base v T) : ∃ ao cap, v = .slice ao T.length cap ∧ De w ao T cap := by
  obtain ⟨ao, cap, rfl, h1, h2, h3⟩ := h.at
  refine ⟨ao, cap, rfl, h1, h2, fun e => ?_, h3⟩
  subst e
  rcases h.2 with ⟨e, _⟩ | ⟨g, cap', cur, e, _⟩
  · exact (Value.slice.inj e).2.2
  · cases e
theorem De.news {w : World} {a : Addr} {D : List NU} {cap : Nat} (h : De w (some a) D cap) : ∀ j u, (D.flatMap tcells)[j]? = some u → w.cell? (a.add j) = some u := by
  rcases h.at_ with rfl | ⟨b, off, e, _, hc⟩
  · intro j u hu; simp at hu
  · cases e
    intro j u hu
    have hj : j < D.length * 3 := by rw [← flatT_len]; exact (List.getElem?_eq_some_iff.1 hu).1
    have hi : j / 3 < D.length := by omega
    obtain ⟨c0, c1, c2⟩ := hc (j / 3) hi
    have g0 := flatT_get D (j / 3) 0 hi (by omega)
    have g1 := flatT_get D (j / 3) 1 hi (by omega)
    have g2 := flatT_get D (j / 3) 2 hi (by omega)
    rw [addr_add]
    have h3 : j % 3 = 0 ∨ j % 3 = 1 ∨ j % 3 = 2 := by omega
    rcases h3 with h | h | h
    · have e : j = j / 3 * 3 := by omega
      rw [Nat.add_zero, ← e, hu] at g0
      rw [← e] at c0
      rw [c0, g0]; rfl
    · have e : j = j / 3 * 3 + 1 := by omega
      rw [← e, hu] at g1
      rw [Nat.add_assoc, ← e] at c1
      rw [c1, g1]; rfl
    · have e : j = j / 3 * 3 + 2 := by omega
      rw [← e, hu] at g2
      rw [Nat.add_assoc, ← e] at c2
      rw [c2, g2]; rfl
/-- append of entries onto entries that a call made: the run -/
theorem run_es (w : World) (ty : TypeId) (base : Nat) (v : Value) (T : List NU) (hown : OwnE w base v T) (ao : Option Addr) (X : List NU) (cap : Nat) (h : De w ao X cap) (hl : T.length + X.length ≤ 100000000) (hbase : base ≤ w.heap.size) :
    ∃ v' w', (Builtin.append_ #[44, 44] ty #[v, .slice ao X.length cap]).run Try.prog w = .ok v' w' ∧ OwnE w' base v' (T ++ X) ∧ Grew w w' v v' := by
  obtain ⟨i0, hi, hz0, hz1, hz2⟩ := info_parts Try.infoREntry
  cases ao with
  | none =>
    have hc := h.hn rfl
    have hlen : X.length = 0 := by have := h.hl; omega
    have hX : X = [] := List.eq_nil_of_length_eq_zero hlen
    subst hX hc
    have hr := run_append_owned_none (P := Try.prog) (w := w) base 44 ty 79 i0 3 Try.underlying44 hi v T.length (T.flatMap tcells) hown
    exact ⟨v, w, hr, by rw [List.append_nil]; exact hown, Grew.refl _ _⟩
  | some a =>
    have hm : maxLen = 9223372036854775807 := rfl
    obtain ⟨v', w', hr, ho, hg, _, hat⟩ := run_append_own_at (P := Try.prog) w base 44 ty 79 i0 (.agg #[.int .i64 0, .string ⟨#[]⟩, .int .i64 0]) 3 32 Try.underlying44 hi hz0 hz1 hz2 rfl (by decide) v T.length (T.flatMap tcells) hown a X.length cap (X.flatMap tcells) (flatT_len X) h.news (tcells_all X) (by omega) (by omega) hbase
    refine ⟨v', w', hr, ?_, hg, fun k hk => ?_⟩
    · unfold OwnE
      rw [List.length_append, List.flatMap_append]
      exact ho
    · rcases hat with h4 | h4
      · exact .inl (h4 ▸ hk)
      · rw [h4] at hk
        cases hk
        exact .inr (Nat.le_refl _)
section
variable {w : World} {ops : Array Oper} {rest : List Oper} {o : Oper} {a : Act} {Q : Exit → Act → World → Prop}
theorem app_es (hgd : o.guard = none) (s x : Operand) (ho : o.op = .call { callee := .builtin .append, args := #[s, x], argTypes := #[44, 44] })
    (base : Nat) (v : Value) (T : List NU) (hown : OwnE w base v T) (hs : a.eval s = v) (ao : Option Addr) (X : List NU) (cap : Nat) (hx : a.eval x = .slice ao X.length cap) (hX : De w ao X cap) (hl : T.length + X.length ≤ 100000000) (hbase : base ≤ w.heap.size)
    (h : ∀ v' w', OwnE w' base v' (T ++ X) → Grew w w' v v' → wpList Try.prog ops Q rest (a.put o.dst v') w') : wpList Try.prog ops Q (o :: rest) a w := by
  obtain ⟨v', w', hr, hO, hG⟩ := run_es w o.type base v T hown ao X cap hX hl hbase
  refine wpList_plain hgd fun K hK => ?_
  unfold Oper.wp execOp
  simp only [ho, resolve, invoke, builtin, Sem.run_bind, Sem.run_pure, Result.andThen_ok, List.map_toArray, List.map_cons, List.map_nil, hs, hx, hr]
  exact hK _ _ (h v' w' hO hG)
end

theorem OwnE.lt {w : World} {base : Nat} {v : Value} {T : List NU} (h : OwnE w base v T) (g : Nat) (hg : v.ownBlock = some g) : base ≤ g ∧ g < w.heap.size := World.ownsRow.lt h g hg
/-- where an append leaves all that was below -/
theorem grew_below {B : Nat} {a w w' : World} {v v' : Value} {T : List NU} (h : Below B a w) (hO : OwnE w B v T) (hs : B ≤ w.heap.size) (hg : Grew w w' v v') : Below B a w' := h.grown hg.grown hs (fun k hk => (hO.lt k hk).1)

theorem De.take {w : World} {ao : Option Addr} {D : List NU} {cap : Nat} (h : De w ao D cap) (j : Nat) : De w ao (D.take j) cap := by
  refine ⟨by have := h.hl; rw [List.length_take]; omega, h.hc, h.hn, ?_⟩
  rcases h.at_ with rfl | ⟨b, off, e, hb, hc⟩
  · exact .inl (by simp)
  · refine .inr ⟨b, off, e, hb, fun i hi => ?_⟩
    have hi2 : i < D.length := by rw [List.length_take] at hi; omega
    have e2 : (D.take j)[i] = D[i] := by simp
    rw [e2]
    exact hc i hi2
theorem De.drop {w : World} {b off : Nat} {D : List NU} {cap : Nat} (h : De w (some ⟨b, off, none⟩) D cap) (j : Nat) (hj : j ≤ D.length) : De w (some ⟨b, off + j * 3, none⟩) (D.drop j) (cap - j) := by
  refine ⟨by have := h.hl; rw [List.length_drop]; omega, by have := h.hc; omega, (by intro e; cases e), ?_⟩
  rcases h.at_ with rfl | ⟨b', off', e, hb, hc⟩
  · exact .inl (by simp)
  · cases e
    refine .inr ⟨b, _, rfl, hb, fun i hi => ?_⟩
    have hi2 : j + i < D.length := by rw [List.length_drop] at hi; omega
    have e2 : (D.drop j)[i] = D[j + i] := by simp
    rw [e2]
    have := hc (j + i) hi2
    rw [show off + (j + i) * 3 = off + j * 3 + i * 3 by omega] at this
    exact this
end Go.Proofs.Ytlomciinkpecpaa
