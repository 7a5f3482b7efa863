/-
  A name stands in its row: the contract of stand.
-/
import Derived.Test.YtlomciinkpecpaaTbSt
namespace Go.Proofs.Ytlomciinkpecpaa
open Go.RowKit
set_option linter.unusedSimpArgs false
set_option linter.unusedVariables false
set_option maxRecDepth 100000

theorem run_app_r (w0 : World) (ty : TypeId) (base : Nat) (v : Value) (T : List NU) (hown : OwnR w0 base v T) (q : NU) (hlen : T.length + 1 ≤ 1000000) (hbase : base ≤ w0.heap.size) :
    ∃ v' w', (Builtin.append_ #[65, 65] ty #[v, .slice (some ⟨w0.heap.size, 0, none⟩) 1 1]).run Try.prog (w0.alloc (.cells (tcells q).toArray 64)) = .ok v' w' ∧ OwnR w' base v' (T ++ [q]) ∧ Grew w0 w' v v' := by
  obtain ⟨i0, hi, hz0, hz1, hz2⟩ := info_parts Try.infoEntry
  have hm : maxLen = 9223372036854775807 := rfl
  obtain ⟨v', w', hr, ho, hg, _, hat⟩ := run_append_own_at (P := Try.prog) (w0.alloc (.cells (tcells q).toArray 64)) base 65 ty 64 i0 (.agg #[.int .i64 0, .string ⟨#[]⟩, .int .i64 0]) 3 32 Try.underlying65 hi hz0 hz1 hz2 rfl (by decide) v T.length (T.flatMap tcells) (World.ownsRow.alloc hown _) ⟨w0.heap.size, 0, none⟩ 1 1 (tcells q) (by rw [tcells_len])
    (by
      intro j u hu
      rw [addr_add]
      simp only [Nat.zero_add]
      have hj := (List.getElem?_eq_some_iff.1 hu).1
      have : u = (tcells q)[j] := by simpa [hj] using hu.symm
      subst this
      simp [hj]) (tcells_one q) (by omega) (by omega) (by simp; omega)
  refine ⟨v', w', hr, ?_, ⟨(World.grownBy_alloc w0 _ _).trans hg, fun k hk => ?_⟩⟩
  · have e : (T ++ [q]).length = T.length + 1 := by simp
    unfold OwnR
    rw [e, List.flatMap_append, List.flatMap_singleton]
    exact ho
  · rcases hat with h | h
    · exact .inl (h ▸ hk)
    · rw [h] at hk; cases hk; exact .inr (by simp)
section
variable {w : World} {ops : Array Oper} {o : Oper} {a : Act} {K : Act → World → Prop} {Q : Exit → Act → World → Prop} {E : Prop}
theorem step_app_r {w0 : World} (hgd : o.guard = none) (s x : Operand) (ho : o.op = .call { callee := .builtin .append, args := #[s, x], argTypes := #[65, 65] })
    (base : Nat) (v : Value) (T : List NU) (hown : OwnR w0 base v T) (hs : a.eval s = v) (q : NU) (hw : w = w0.alloc (.cells (tcells q).toArray 64)) (hx : a.eval x = .slice (some ⟨w0.heap.size, 0, none⟩) 1 1)
    (hlen : T.length + 1 ≤ 1000000) (hbase : base ≤ w0.heap.size)
    (h : ∀ v' w', OwnR w' base v' (T ++ [q]) → Grew w0 w' v v' → K (a.put o.dst v') w') : if Region.wanted o (yielded ops a.tmps) = true then Oper.wp Try.prog o a w K Q else E := by
  have hw1 : Region.wanted o (yielded ops a.tmps) = true := by simp [Region.wanted, hgd]
  rw [if_pos hw1]
  subst hw
  obtain ⟨v', w', hr, h2, h3⟩ := run_app_r w0 o.type base v T hown q hlen hbase
  unfold Oper.wp execOp
  simp only [ho, resolve, invoke, builtin, Sem.run_bind, Sem.run_pure, Result.andThen_ok, List.map_toArray, List.map_cons, List.map_nil, hs, hx, hr]
  exact h v' w' h2 h3
end
set_option maxHeartbeats 1000000 in
theorem stand_any (w : World) (base p : Nat) (blk num : Bool → Nat) (val : Bool → Nat → Value) (ents : Bool → Nat → List NU) (next many moved : Nat) (h : Tm w base p blk num val ents next many moved) (hn : num false ≤ 1000000) (x : NU) (hx : x.1.ok) (hl : (ents false (rix x.1 (num false))).length + 1 ≤ 1000000) :
    Calls Try.prog 24 #[.pointer (some ⟨p, 0, none⟩), .agg #[.int .i64 x.1.tenant, .string x.1.key, .int .i64 x.2]] w fun e w' => e = .returned (.tuple #[]) ∧
      ∃ v, Tm w' base p blk num (up2 val false (rix x.1 (num false)) v) (up2 ents false (rix x.1 (num false)) (ents false (rix x.1 (num false)) ++ [x])) next many moved ∧ Kept (Ft p blk num val) w w' ∧ ∀ k, Ft p blk num (up2 val false (rix x.1 (num false)) v) k → Ft p blk num val k ∨ w.heap.size ≤ k := by
  have hk := rix_lt x.1 h.pos
  have HRO := Hid.mk2 (fun W => rowOf_any W x.1 hx (num false) h.pos hn)
  obtain ⟨k, hkk⟩ : ∃ k, k = rix x.1 (num false) := ⟨_, rfl⟩
  rw [← hkk] at HRO hk hl ⊢
  have HH := Hid.mk2 h
  have HRB := Hid.mk2 (h.pblk false (by omega))
  clear hkk hx h
  have hk2 : (k : Int) < (num false : Int) := by omega
  go_enter Try.func24, Try.ntmps24
  go_upto_region 1 with (fail)
  obtain ⟨w0, hw0⟩ : ∃ w0, w0 = w.alloc (Obj.cells #[.int .i64 x.1.tenant, .string x.1.key, .int .i64 x.2] 64) := ⟨_, rfl⟩
  rw [← hw0]
  have HB0 : Hid (Below w.heap.size w w0) := by rw [hw0]; exact (Below.refl _ _).alloc (Nat.le_refl _) _
  have a0 : w0.cell? ⟨w.heap.size, 0, none⟩ = some (.int .i64 x.1.tenant) := by rw [hw0]; simp
  have a1 : w0.cell? ⟨w.heap.size, 1, none⟩ = some (.string x.1.key) := by rw [hw0]; simp
  have a2 : w0.cell? ⟨w.heap.size, 2, none⟩ = some (.int .i64 x.2) := by rw [hw0]; simp
  have y0 : w.heap.size < w0.heap.size := by rw [hw0]; simp
  clear hw0
  have HH0 := Hid.mk2 (HH.out.below HB0.out)
  have HP : Hid (∀ W, Below w0.heap.size w0 W → W.cell? ⟨p, 1, none⟩ = some (.slice (some ⟨blk false, 0, none⟩) (num false) (num false)) ∧ W.cell? ⟨w.heap.size, 0, none⟩ = some (.int .i64 x.1.tenant) ∧ W.cell? ⟨w.heap.size, 1, none⟩ = some (.string x.1.key) ∧ W.cell? ⟨w.heap.size, 2, none⟩ = some (.int .i64 x.2)) := fun W hb => ⟨(HH0.out.below hb).rowsc, (bcl hb _ _ y0).trans a0, (bcl hb _ _ y0).trans a1, (bcl hb _ _ y0).trans a2⟩
  go_cut [4] from 5 (fun s4 wx => s4 = .pointer (some ⟨blk false, k, none⟩) ∧ Hid (Below w0.heap.size w0 wx))
  case first =>
    go_region_held3 (fun W => W.cell? ⟨p, 1, none⟩ = some (.slice (some ⟨blk false, 0, none⟩) (num false) (num false)) ∧ W.cell? ⟨w.heap.size, 0, none⟩ = some (.int .i64 x.1.tenant) ∧ W.cell? ⟨w.heap.size, 1, none⟩ = some (.string x.1.key) ∧ W.cell? ⟨w.heap.size, 2, none⟩ = some (.int .i64 x.2))
      (first | exact HP.out _ HB1.out | exact HP.out _ (Below.refl _ _) | exact HP.out _ ((Below.refl _ _).drew))
      (first | (go_at_call 35; refine (HRO.out _).mono ?_; rintro e w1 ⟨rfl, hb1⟩; have HB1 : Hid (Below w0.heap.size w0 w1) := (by first | exact hb1 | exact ((Below.refl _ _).drew).trans hb1)))
    all_goals
      go_wp2
      go_meet
      case rel => exact ⟨rfl, HB1⟩
  case rest =>
    obtain ⟨rfl, HB2⟩ := hcut
    obtain ⟨w2, hw2⟩ : ∃ x, x = wc := ⟨_, rfl⟩
    rw [← hw2] at HB2 ⊢
    clear hw2
    have HBd : Hid (Below w0.heap.size w0 w2.drew) := HB2.out.drew
    have HHd := Hid.mk2 (HH0.out.below HBd.out)
    obtain ⟨-, b0, b1, b2⟩ := HP.out _ HBd.out
    have c0 := HHd.out.cell false k hk
    have f0 := HHd.out.free false (by omega) k
    have yd : w.heap.size < w2.drew.heap.size := Nat.lt_of_lt_of_le y0 HBd.out.size
    have rbl := (HHd.out.pblk false (by omega)).2.2
    have z0 : ∀ o, (w2.drew.alloc o).cell? ⟨blk false, k, none⟩ = some (val false k) := fun o => (World.cell?_alloc_past o _ _ rbl).trans c0
    have z1 : ∀ o, (w2.drew.alloc o).cell? ⟨w.heap.size, 0, none⟩ = some (.int .i64 x.1.tenant) := fun o => (World.cell?_alloc_past o _ _ yd).trans b0
    have z2 : ∀ o, (w2.drew.alloc o).cell? ⟨w.heap.size, 1, none⟩ = some (.string x.1.key) := fun o => (World.cell?_alloc_past o _ _ yd).trans b1
    have z3 : ∀ o, (w2.drew.alloc o).cell? ⟨w.heap.size, 2, none⟩ = some (.int .i64 x.2) := fun o => (World.cell?_alloc_past o _ _ yd).trans b2
    have z0' : ∀ o, (w2.alloc o).cell? ⟨blk false, k, none⟩ = some (val false k) := fun o => z0 o
    have z1' : ∀ o, (w2.alloc o).cell? ⟨w.heap.size, 0, none⟩ = some (.int .i64 x.1.tenant) := fun o => z1 o
    have z2' : ∀ o, (w2.alloc o).cell? ⟨w.heap.size, 1, none⟩ = some (.string x.1.key) := fun o => z2 o
    have z3' : ∀ o, (w2.alloc o).cell? ⟨w.heap.size, 2, none⟩ = some (.int .i64 x.2) := fun o => z3 o
    have d0 : w2.cell? ⟨blk false, k, none⟩ = some (val false k) := c0
    have d1 : w2.cell? ⟨w.heap.size, 0, none⟩ = some (.int .i64 x.1.tenant) := b0
    have d2 : w2.cell? ⟨w.heap.size, 1, none⟩ = some (.string x.1.key) := b1
    have d3 : w2.cell? ⟨w.heap.size, 2, none⟩ = some (.int .i64 x.2) := b2
    have hO := HHd.out.own false k hk
    have hbs : base ≤ w2.drew.heap.size := Nat.le_trans HHd.out.plt.1 (Nat.le_of_lt HHd.out.plt.2)
    have HBW : Hid (Below w.heap.size w w2.drew) := HB0.out.trans (HBd.out.mono (Nat.le_of_lt y0))
    clear HP HRO a0 a1 a2
    go_wp2
    go_region_law
      (refine step_app_r (w0 := w2.drew) (by rfl) (.tmp 21) (.tmp 23) (by rfl) base _ _ hO (by rfl) x (by rfl) (by rfl) hl hbs ?_; intro v7 w7 ho7 hg7; obtain ⟨vo7, vc7, hv7, -⟩ := ho7.at; rw [List.length_append, List.length_singleton] at hv7; subst hv7; have hrb : w7.heap[blk false]? = w2.drew.heap[blk false]? := hg7.grown.block _ rbl (fun e => (HHd.out.far false k _ hk e.symm).2 false (by omega) rfl); have x7 : w7.cell? ⟨blk false, k, none⟩ = some (val false k) := (World.cell?_of_block hrb).trans c0; have xf7 : w7.frozen? ⟨blk false, k, none⟩ = false := (World.frozen?_of_block hrb).trans f0)
    all_goals
      go_end0
      refine ⟨rfl, _, HHd.out.slotSet hk hg7.grown _ _ ho7 hg7.lies, ?_, ?_⟩
      · refine ((Kept.below (F := Ft p blk num val) HBW.out).trans (Kept.grown (F := Ft p blk num val) hg7.grown (fun j hj => .inl (.inr (.inr ⟨false, k, hk, hj⟩)))) (fun j hj => .inl hj)).trans (Kept.set (F := Ft p blk num val) w7 (.inr (.inl ⟨false, by omega, rfl⟩)) k _) (fun j hj => .inl hj)
      · intro j hj
        rcases Ft.slot (w := w2.drew) hk hg7.lies j hj with g | g
        · exact .inl g
        · exact .inr (Nat.le_trans HBW.out.size g)
end Go.Proofs.Ytlomciinkpecpaa
