/-
  The document's names with moments: entries that are gathered, in memory; and pure facts on their order.
-/
import Derived.Test.YthcekkahkioibadWhNames
import Derived.Test.YthcekkahkioibadWhLess
namespace Go.Proofs.Ythcekkahkioibad
open Go.RowKit
set_option linter.unusedSimpArgs false
set_option linter.unusedVariables false
set_option maxRecDepth 100000

theorem Try.infoEntry : (Try.prog.info? 119).map (fun i => (i.zero, i.size, i.bytes)) = some (some (.agg #[.int .i64 0, .string ⟨#[]⟩, .int .i64 0]), 3, 32) := by kernel_rfl
/-- the slice v owns the names with their moments T, in a block from base on -/
def OwnE (w : World) (base : Nat) (v : Value) (T : List NU) : Prop := w.ownsRow base 119 3 v T.length (T.flatMap tcells)
theorem OwnE.nil (w : World) (base : Nat) : OwnE w base (.slice none 0 0) [] := World.ownsRow_nil w base _ 3
theorem OwnE.alloc {w : World} {base : Nat} {v : Value} {T : List NU} (h : OwnE w base v T) (o : Obj) : OwnE (w.alloc o) base v T := World.ownsRow.alloc h o
theorem OwnE.grown {w w' : World} {base : Nat} {v : Value} {T : List NU} {row : Option Nat} (h : OwnE w base v T) (hg : w.grownBy w' row) (hne : ∀ k, v.ownBlock = some k → row ≠ some k) : OwnE w' base v T := by
  refine World.ownsRow.kept h hg ?_
  cases hv : v.ownBlock with
  | none => exact .inl rfl
  | some k => exact .inr (fun e => hne k hv e.symm)
theorem OwnE.below {w w' : World} {base : Nat} {v : Value} {T : List NU} (h : OwnE w base v T) (hb : Below w.heap.size w w') : OwnE w' base v T :=
  h.grown (row := none) ⟨hb.os, hb.tape, hb.output, hb.size, fun k hk _ => hb.block k hk⟩ (by intro k _ e; cases e)
theorem app_e {w w0 : World} {ops : Array Oper} {rest : List Oper} {o : Oper} {a : Act} {Q : Exit → Act → World → Prop} (hgd : o.guard = none) (s x : Operand) (ho : o.op = .call { callee := .builtin .append, args := #[s, x], argTypes := #[43, 43] })
    (base : Nat) (v : Value) (T : List NU) (hown : OwnE w0 base v T) (hs : a.eval s = v) (q : NU) (hw : w = w0.alloc (.cells (tcells q).toArray 119)) (H : Nat) (hx : a.eval x = .slice (some ⟨H, 0, none⟩) 1 1) (hH : H = w0.heap.size)
    (hlen : T.length + 1 ≤ 100000000) (hbase : base ≤ w0.heap.size)
    (h : ∀ v' w', OwnE w' base v' (T ++ [q]) → Grew w0 w' v v' → wpList Try.prog ops Q rest (a.put o.dst v') w') : wpList Try.prog ops Q (o :: rest) a w := by
  subst hH hw
  obtain ⟨i0, hi, hz0, hz1, hz2⟩ := info_parts Try.infoEntry
  have hm : maxLen = 9223372036854775807 := rfl
  refine wpList_append_own_at _ hgd s x 43 ho base 119 i0 _ 3 32 Try.underlying43 hi hz0 hz1 hz2 rfl (by decide) v T.length (T.flatMap tcells) hs (World.ownsRow.alloc hown _) ⟨w0.heap.size, 0, none⟩ 1 1 (tcells q) hx (by rw [tcells_len]) ?_ (tcells_one q) (by omega) (by omega) (by simp; omega) ?_
  · intro j u hu
    rw [addr_add]
    simp only [Nat.zero_add]
    have hj := (List.getElem?_eq_some_iff.1 hu).1
    have : u = (tcells q)[j] := by simpa [hj] using hu.symm
    subst this
    simp [hj]
  · intro v' w' h1 h2 h3 h4
    refine h v' w' ?_ ⟨(World.grownBy_alloc w0 _ _).trans h2, fun k hk => ?_⟩
    · have e : (T ++ [q]).length = T.length + 1 := by simp
      unfold OwnE
      rw [e, List.flatMap_append, List.flatMap_singleton]
      exact h1
    · rcases h4 with h4 | h4
      · exact .inl (h4 ▸ hk)
      · rw [h4] at hk
        cases hk
        exact .inr (by simp)

theorem OwnE.ne_of {w : World} {base : Nat} {v : Value} {T : List NU} (h : OwnE w base v T) {k : Nat} {o : Obj} (hk : w.heap[k]? = some o) (ho : ∀ c t m, o ≠ .cells c t m) : v.ownBlock ≠ some k := by
  intro e
  rcases h.2 with ⟨rfl, _⟩ | ⟨g, cap, cur, rfl, _, hg, _⟩
  · cases e
  · cases e
    rw [hg] at hk
    cases hk
    exact ho _ _ _ rfl
theorem OwnE.at {w : World} {base : Nat} {v : Value} {T : List NU} (h : OwnE w base v T) :
    ∃ ao cap, v = .slice ao T.length cap ∧ T.length ≤ cap ∧ cap ≤ maxLen ∧ TAt w ao T := by
  rcases h.2 with ⟨rfl, hn⟩ | ⟨g, cap, cur, rfl, hb, hg, hnc, hcm, hcs, htake⟩
  · have : T = [] := List.eq_nil_of_length_eq_zero hn
    subst this
    exact ⟨none, 0, rfl, by simp, by simp [maxLen], .inl rfl⟩
  · refine ⟨_, cap, rfl, hnc, hcm, .inr ⟨g, 0, rfl, (Array.getElem?_eq_some_iff.1 hg).1, fun i hi => ?_⟩⟩
    have key : ∀ j (hj : j < 3), w.cell? ⟨g, 0 + i * 3 + j, none⟩ = some ((tcells T[i])[j]'(by rw [tcells_len]; exact hj)) := fun j hj => by
      have := World.ownsRow.cells h (g := g) rfl (i * 3 + j) _ (flatT_get T i j hi hj)
      rw [addr_add] at this
      rw [Nat.zero_add] at this ⊢
      exact this
    exact ⟨key 0 (by omega), key 1 (by omega), key 2 (by omega)⟩
theorem OwnE.same {w w' : World} {base : Nat} {v : Value} {T : List NU} (h : OwnE w base v T) (e : ∀ g, v.ownBlock = some g → w'.heap[g]? = w.heap[g]?) : OwnE w' base v T := ⟨h.1, by
  rcases h.2 with h1 | ⟨g, cap, cur, h1, h2, h3, h4⟩
  · exact .inl h1
  · exact .inr ⟨g, cap, cur, h1, h2, (e g (by rw [h1]; rfl)).trans h3, h4⟩⟩
theorem OwnE.down {w : World} {b b' : Nat} {v : Value} {T : List NU} (h : OwnE w b v T) (hb : b' ≤ b) : OwnE w b' v T := ⟨h.1, by
  rcases h.2 with h | ⟨g, cap, cur, h1, h2, h3⟩
  · exact .inl h
  · exact .inr ⟨g, cap, cur, h1, Nat.le_trans hb h2, h3⟩⟩
/-- a row of names with their moments is none of a wheel's blocks -/
theorem OwnE.away {w : World} {base : Nat} {v : Value} {T : List NU} (hT : OwnE w base v T) {p now : Nat} {U G : List NU} {b0 : Nat} {mb : Nat → Option Nat} {N : Nat} (h : Wh w p now U G b0 mb N) (hp : p < base) (g : Nat) (hg : v.ownBlock = some g) : ¬ Foot p b0 mb g := fun hf => by
  rcases h.notCells hf with e | ⟨o, ho, hc⟩
  · have := (hT.lt g hg).1
    omega
  · exact hT.ne_of ho hc hg
theorem OwnE.kept {w w' : World} {base : Nat} {v : Value} {T : List NU} (hT : OwnE w base v T) {F : Nat → Prop} (hk : Kept F w w') (hF : ∀ g, v.ownBlock = some g → ¬ F g) : OwnE w' base v T :=
  hT.same (fun g hg => hk.block g (hT.lt g hg).2 (hF g hg))


theorem tcells_all (T : List NU) : ∀ u ∈ T.flatMap tcells, u.oneCell' = true := by
  intro u hu
  obtain ⟨p, _, hp⟩ := List.mem_flatMap.1 hu
  exact tcells_one p u hp
theorem flatT_len (T : List NU) : (T.flatMap tcells).length = T.length * 3 := by
  induction T with
  | nil => rfl
  | cons p T ih => simp [tcells, ih]; omega
/-- entries that are read: their slice's own facts -/
structure De (w : World) (ao : Option Addr) (D : List NU) (cap : Nat) : Prop where
  hl : D.length ≤ cap
  hc : cap ≤ maxLen
  hn : ao = none → cap = 0
  at_ : TAt w ao D
theorem De.below {w w' : World} {ao : Option Addr} {D : List NU} {cap : Nat} (h : De w ao D cap) (hb : Below w.heap.size w w') : De w' ao D cap := ⟨h.hl, h.hc, h.hn, h.at_.below hb⟩
theorem De.nil (w : World) : De w none [] 0 := ⟨by simp, by simp, fun _ => rfl, .inl rfl⟩
theorem OwnE.de {w : World} {base : Nat} {v : Value} {T : List NU} (h : OwnE w base v T) : ∃ ao cap, v = .slice ao T.length cap ∧ De w ao T cap := by
  obtain ⟨ao, cap, rfl, h1, h2, h3⟩ := h.at
  refine ⟨ao, cap, rfl, h1, h2, fun e => ?_, h3⟩
  subst e
  rcases h.2 with ⟨e, _⟩ | ⟨g, cap', cur, e, _⟩
  · exact (Value.slice.inj e).2.2
  · cases e
theorem De.news {w : World} {a : Addr} {D : List NU} {cap : Nat} (h : De w (some a) D cap) : ∀ j u, (D.flatMap tcells)[j]? = some u → w.cell? (a.add j) = some u := by
  rcases h.at_ with rfl | ⟨b, off, e, _, hc⟩
  · intro j u hu; simp at hu
  · cases e
    intro j u hu
    have hj : j < D.length * 3 := by rw [← flatT_len]; exact (List.getElem?_eq_some_iff.1 hu).1
    have hi : j / 3 < D.length := by omega
    obtain ⟨c0, c1, c2⟩ := hc (j / 3) hi
    have g0 := flatT_get D (j / 3) 0 hi (by omega)
    have g1 := flatT_get D (j / 3) 1 hi (by omega)
    have g2 := flatT_get D (j / 3) 2 hi (by omega)
    rw [addr_add]
    have h3 : j % 3 = 0 ∨ j % 3 = 1 ∨ j % 3 = 2 := by omega
    rcases h3 with h | h | h
    · have e : j = j / 3 * 3 := by omega
      rw [Nat.add_zero, ← e, hu] at g0
      rw [← e] at c0
      rw [c0, g0]; rfl
    · have e : j = j / 3 * 3 + 1 := by omega
      rw [← e, hu] at g1
      rw [Nat.add_assoc, ← e] at c1
      rw [c1, g1]; rfl
    · have e : j = j / 3 * 3 + 2 := by omega
      rw [← e, hu] at g2
      rw [Nat.add_assoc, ← e] at c2
      rw [c2, g2]; rfl
/-- append of entries onto entries that a call made: the run -/
theorem run_es (w : World) (ty : TypeId) (base : Nat) (v : Value) (T : List NU) (hown : OwnE w base v T) (ao : Option Addr) (X : List NU) (cap : Nat) (h : De w ao X cap) (hl : T.length + X.length ≤ 100000000) (hbase : base ≤ w.heap.size) :
    ∃ v' w', (Builtin.append_ #[43, 43] ty #[v, .slice ao X.length cap]).run Try.prog w = .ok v' w' ∧ OwnE w' base v' (T ++ X) ∧ Grew w w' v v' := by
  obtain ⟨i0, hi, hz0, hz1, hz2⟩ := info_parts Try.infoEntry
  cases ao with
  | none =>
    have hc := h.hn rfl
    have hlen : X.length = 0 := by have := h.hl; omega
    have hX : X = [] := List.eq_nil_of_length_eq_zero hlen
    subst hX hc
    have hr := run_append_owned_none (P := Try.prog) (w := w) base 43 ty 119 i0 3 Try.underlying43 hi v T.length (T.flatMap tcells) hown
    exact ⟨v, w, hr, by rw [List.append_nil]; exact hown, Grew.refl _ _⟩
  | some a =>
    have hm : maxLen = 9223372036854775807 := rfl
    obtain ⟨v', w', hr, ho, hg, _, hat⟩ := run_append_own_at (P := Try.prog) w base 43 ty 119 i0 (.agg #[.int .i64 0, .string ⟨#[]⟩, .int .i64 0]) 3 32 Try.underlying43 hi hz0 hz1 hz2 rfl (by decide) v T.length (T.flatMap tcells) hown a X.length cap (X.flatMap tcells) (flatT_len X) h.news (tcells_all X) (by omega) (by omega) hbase
    refine ⟨v', w', hr, ?_, hg, fun k hk => ?_⟩
    · unfold OwnE
      rw [List.length_append, List.flatMap_append]
      exact ho
    · rcases hat with h4 | h4
      · exact .inl (h4 ▸ hk)
      · rw [h4] at hk
        cases hk
        exact .inr (Nat.le_refl _)
section
variable {w : World} {ops : Array Oper} {rest : List Oper} {o : Oper} {a : Act} {Q : Exit → Act → World → Prop}
theorem app_es (hgd : o.guard = none) (s x : Operand) (ho : o.op = .call { callee := .builtin .append, args := #[s, x], argTypes := #[43, 43] })
    (base : Nat) (v : Value) (T : List NU) (hown : OwnE w base v T) (hs : a.eval s = v) (ao : Option Addr) (X : List NU) (cap : Nat) (hx : a.eval x = .slice ao X.length cap) (hX : De w ao X cap) (hl : T.length + X.length ≤ 100000000) (hbase : base ≤ w.heap.size)
    (h : ∀ v' w', OwnE w' base v' (T ++ X) → Grew w w' v v' → wpList Try.prog ops Q rest (a.put o.dst v') w') : wpList Try.prog ops Q (o :: rest) a w := by
  obtain ⟨v', w', hr, hO, hG⟩ := run_es w o.type base v T hown ao X cap hX hl hbase
  refine wpList_plain hgd fun K hK => ?_
  unfold Oper.wp execOp
  simp only [ho, resolve, invoke, builtin, Sem.run_bind, Sem.run_pure, Result.andThen_ok, List.map_toArray, List.map_cons, List.map_nil, hs, hx, hr]
  exact hK _ _ (h v' w' hO hG)
end

/-- where a name with its moment stands among such as rise -/
def insT (q : NU) (D : List NU) : List NU := D.takeWhile (fun x => decide (tlt x q)) ++ q :: D.dropWhile (fun x => decide (tlt x q))
theorem insT_perm (q : NU) (D : List NU) : (insT q D).Perm (q :: D) := by
  unfold insT
  refine List.perm_middle.trans ?_
  rw [List.takeWhile_append_dropWhile]
theorem insT_rise {q : NU} : ∀ {D : List NU}, D.Pairwise tlt → (∀ x ∈ D, x ≠ q) → (insT q D).Pairwise tlt
  | [], _, _ => by simp [insT]
  | x :: D, h, hn => by
    obtain ⟨h1, h2⟩ := List.pairwise_cons.1 h
    by_cases e : tlt x q
    · have e2 : insT q (x :: D) = x :: insT q D := by simp [insT, e]
      rw [e2]
      refine List.pairwise_cons.2 ⟨fun y hy => ?_, insT_rise h2 (fun z hz => hn z (List.mem_cons_of_mem _ hz))⟩
      rcases List.mem_cons.1 ((insT_perm q D).mem_iff.1 hy) with rfl | hm
      · exact e
      · exact h1 y hm
    · have e2 : insT q (x :: D) = q :: x :: D := by simp [insT, e]
      have e3 : tlt q x := by
        refine Classical.byContradiction fun e4 => ?_
        exact hn x List.mem_cons_self (tlt_total e e4)
      rw [e2]
      refine List.pairwise_cons.2 ⟨fun y hy => ?_, h⟩
      rcases List.mem_cons.1 hy with rfl | hm
      · exact e3
      · exact tlt_trans e3 (h1 y hm)
/-- entries without the one at a place -/
def woI (D : List NU) (k : Int) : List NU := if k < 0 then D else D.eraseIdx k.toNat
theorem woI_take {D : List NU} {i : Nat} (hi : i < D.length) (k : Int) : woI (D.take (i + 1)) k = if (i : Int) = k then woI (D.take i) k else woI (D.take i) k ++ [D[i]] := by
  unfold woI
  rw [List.take_succ_eq_append_getElem hi]
  by_cases hk : k < 0
  · rw [if_pos hk, if_pos hk, if_neg (by omega)]
  · rw [if_neg hk, if_neg hk]
    have hl : (D.take i).length = i := by simp; omega
    by_cases e : (i : Int) = k
    · have e2 : k.toNat = (D.take i).length := by omega
      rw [if_pos e, e2, List.eraseIdx_append_of_length_le (Nat.le_refl _), Nat.sub_self, List.eraseIdx_of_length_le (Nat.le_refl _)]
      simp
    · rw [if_neg e]
      by_cases h : k.toNat < i
      · rw [List.eraseIdx_append_of_lt_length (by omega)]
      · rw [List.eraseIdx_append_of_length_le (by omega), List.eraseIdx_of_length_le (l := [D[i]]) (by simp; omega), List.eraseIdx_of_length_le (by omega)]
theorem woI_none (D : List NU) : woI D (-1) = D := by unfold woI; rw [if_pos (by omega)]
theorem woI_len (D : List NU) (k : Int) : (woI D k).length ≤ D.length := by
  unfold woI
  split
  · exact Nat.le_refl _
  · exact (List.eraseIdx_sublist D _).length_le
theorem woI_strike {y : Nm} {u : Int} : ∀ {D : List NU} {k : Nat}, D.Pairwise (fun p q => p.1 ≠ q.1) → D[k]? = some (y, u) → woI D (k : Int) = strike y D
  | [], k, _, h => by simp at h
  | x :: D, 0, ha, h => by
    obtain ⟨h1, h2⟩ := List.pairwise_cons.1 ha
    have e : x = (y, u) := by simpa using h
    subst e
    have e2 : strike y ((y, u) :: D) = strike y D := by simp [strike]
    rw [e2, strike_none (fun p hp => (h1 p hp).symm)]
    rfl
  | x :: D, k + 1, ha, h => by
    obtain ⟨h1, h2⟩ := List.pairwise_cons.1 ha
    have h3 : D[k]? = some (y, u) := by simpa using h
    have ih := woI_strike h2 h3
    have hm : (y, u) ∈ D := List.mem_of_getElem? h3
    have hx : x.1 ≠ y := h1 _ hm
    have e2 : strike y (x :: D) = x :: strike y D := by simp [strike, hx]
    rw [e2, ← ih]
    unfold woI
    rw [if_neg (by omega), if_neg (by omega)]
    have : ((k + 1 : Nat) : Int).toNat = k + 1 := by omega
    rw [this]
    simp
theorem strike_perm {y : Nm} {D L : List NU} (h : D.Perm L) : (strike y D).Perm (strike y L) := h.filter _
theorem due_eq {t : Nat} {D L S : List NU} (hD : D.Pairwise tlt) (hP : D.Perm L) (hS : S.Perm (dueOf t L)) (hr : S.Pairwise tlt) : S = dueOf t D :=
  rise_eq (hS.trans (hP.symm.filter _)) hr (hD.filter _)
theorem bcl {W w1 : World} (hb : Below W.heap.size W w1) : ∀ b o, b < W.heap.size → w1.cell? ⟨b, o, none⟩ = W.cell? ⟨b, o, none⟩ := fun b o h => hb.cell (p := ⟨b, o, none⟩) h
theorem bfr {W w1 : World} (hb : Below W.heap.size W w1) : ∀ b o, b < W.heap.size → w1.frozen? ⟨b, o, none⟩ = W.frozen? ⟨b, o, none⟩ := fun b o h => hb.frozen (p := ⟨b, o, none⟩) h
theorem OwnE.lt {w : World} {base : Nat} {v : Value} {T : List NU} (h : OwnE w base v T) (g : Nat) (hg : v.ownBlock = some g) : base ≤ g ∧ g < w.heap.size := World.ownsRow.lt h g hg
/-- two cells of one block, stored in turn -/
def set2 (w : World) (X : Nat) (a b : Value) : World := (w.setCell ⟨X, 0, none⟩ a).setCell ⟨X, 1, none⟩ b
theorem set2_0 {w : World} {X : Nat} {a b u : Value} (h : w.cell? ⟨X, 0, none⟩ = some u) : ((w.setCell ⟨X, 0, none⟩ a).setCell ⟨X, 1, none⟩ b).cell? ⟨X, 0, none⟩ = some a := by
  rw [World.cell?_setCell_other _ _ _ _ (by simp)]
  exact World.cell?_setCell_same _ _ _ h
theorem set2_1 {w : World} {X : Nat} {a b u : Value} (h : w.cell? ⟨X, 1, none⟩ = some u) : ((w.setCell ⟨X, 0, none⟩ a).setCell ⟨X, 1, none⟩ b).cell? ⟨X, 1, none⟩ = some b := by
  refine World.cell?_setCell_same _ _ _ (u := u) ?_
  rw [World.cell?_setCell_other _ _ _ _ (by simp)]
  exact h
theorem set2_heap (w : World) (X : Nat) (a b : Value) {g : Nat} (h : g ≠ X) : ((w.setCell ⟨X, 0, none⟩ a).setCell ⟨X, 1, none⟩ b).heap[g]? = w.heap[g]? :=
  (Below.heap_setCell _ ⟨X, 1, none⟩ b g h).trans (Below.heap_setCell _ ⟨X, 0, none⟩ a g h)
theorem OwnE.set2 {w : World} {base X : Nat} {v a b : Value} {T : List NU} (h : OwnE w base v T) (hX : X < base) : OwnE ((w.setCell ⟨X, 0, none⟩ a).setCell ⟨X, 1, none⟩ b) base v T :=
  h.same (fun g hg => set2_heap w X a b (by have := (h.lt g hg).1; omega))
theorem below_set2 {B : Nat} {a w : World} {X : Nat} {u v : Value} (h : Below B a w) (hX : B ≤ X) : Below B a ((w.setCell ⟨X, 0, none⟩ u).setCell ⟨X, 1, none⟩ v) := (h.setCell hX _).setCell hX _
/-- where an append leaves all that was below -/
theorem grew_below {B : Nat} {a w w' : World} {v v' : Value} {T : List NU} (h : Below B a w) (hO : OwnE w B v T) (hs : B ≤ w.heap.size) (hg : Grew w w' v v') : Below B a w' := h.grown hg.grown hs (fun k hk => (hO.lt k hk).1)
end Go.Proofs.Ythcekkahkioibad
