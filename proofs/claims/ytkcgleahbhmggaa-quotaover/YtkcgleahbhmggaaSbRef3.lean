/-
  Contracts of the document's Twin, Same and place.
-/
import Derived.Test.YtkcgleahbhmggaaSbRef2
namespace Go.Proofs.Ytkcgleahbhmggaa
open Go.RowKit
set_option linter.unusedSimpArgs false
set_option linter.unusedVariables false
set_option maxRecDepth 100000

/-- append of pages onto nothing: the run -/
theorem run_twin (w : World) (ty : TypeId) (ao : Option Addr) (ps : List Pg) (cap : Nat) (h : Sb w ao ps cap) (hl : ps.length ≤ 1000) :
    ∃ v' w', (Builtin.append_ #[31, 31] ty #[.slice none 0 0, .slice ao ps.length cap]).run Try.prog w = .ok v' w' ∧ FreshS w' w.heap.size v' ps ∧ Below w.heap.size w w' := by
  obtain ⟨i0, hi, hz0, hz1, hz2⟩ := info_parts Try.infoPage
  have hnil := World.ownsRow_nil w w.heap.size 30 3
  cases ao with
  | none =>
    have hc := h.hn rfl
    have hlen : ps.length = 0 := by have := h.hl; omega
    have hps : ps = [] := List.eq_nil_of_length_eq_zero hlen
    subst hps hc
    have hr := run_append_owned_none (P := Try.prog) (w := w) w.heap.size 31 ty 30 i0 3 Try.underlying31 hi (.slice none 0 0) 0 [] hnil
    exact ⟨_, w, hr, FreshS.nil _ _, Below.refl _ _⟩
  | some a =>
    have hm : maxLen = 9223372036854775807 := rfl
    have hnews : ∀ j u, (ps.flatMap pcells)[j]? = some u → w.cell? (a.add j) = some u := by
      rcases h.at_ with rfl | ⟨b, off, e, _, hc⟩
      · intro j u hu; simp at hu
      · cases e; exact pg_news hc
    obtain ⟨v', w', hr, ho, hg, _, hat⟩ := run_append_own_at (P := Try.prog) w w.heap.size 31 ty 30 i0 (.agg #[.int .i64 0, .int .i64 0, .int .u16 0]) 3 24 Try.underlying31 hi hz0 hz1 hz2 rfl (by decide) (.slice none 0 0) 0 [] hnil a ps.length cap (ps.flatMap pcells) (pcells_len ps) hnews (pcells_one ps) (by omega) (by omega) (Nat.le_refl _)
    rw [List.nil_append, Nat.zero_add] at ho
    exact ⟨v', w', hr, row_lies (g := 0) (n := 0) ho, (Below.refl _ _).grown hg (Nat.le_refl _) (fun k hk => by simp [Value.ownBlock] at hk)⟩
section
variable {w : World} {ops : Array Oper} {rest : List Oper} {o : Oper} {a : Act} {Q : Exit → Act → World → Prop}
theorem app_run (hgd : o.guard = none) (s x : Operand) (ho : o.op = .call { callee := .builtin .append, args := #[s, x], argTypes := #[31, 31] }) (vs vx : Value) (hs : a.eval s = vs) (hx : a.eval x = vx) {v' : Value} {w' : World}
    (hr : (Builtin.append_ #[31, 31] o.type #[vs, vx]).run Try.prog w = .ok v' w')
    (h : wpList Try.prog ops Q rest (a.put o.dst v') w') : wpList Try.prog ops Q (o :: rest) a w := by
  refine wpList_plain hgd fun K hK => ?_
  unfold Oper.wp execOp
  simp only [ho, resolve, invoke, builtin, Sem.run_bind, Sem.run_pure, Result.andThen_ok, List.map_toArray, List.map_cons, List.map_nil, hs, hx, hr]
  exact hK _ _ h
end
theorem FreshS.setOther {w : World} {base X : Nat} {v : Value} {ps : List Pg} (h : FreshS w base v ps) (hX : X < base) (u : Value) : FreshS (w.setCell ⟨X, 0, none⟩ u) base v ps := by
  obtain ⟨ao, cap, rfl, h1, h2, h3, h4⟩ := h
  refine ⟨ao, cap, rfl, h1, h2, h3, ?_⟩
  rcases h4 with h | ⟨g, rfl, hb, hlt, hf, hc⟩
  · exact .inl h
  · exact .inr ⟨g, rfl, hb, by simpa using hlt, fun j => by simpa using hf j, fun i hi => (hc i hi).grown (grown_set w X 0 u) (by intro e; have := Option.some.inj e; omega)⟩
theorem rtwin_any (w : World) (ao : Option Addr) (ps : List Pg) (cap : Nat) (h : Sb w ao ps cap) (hl : ps.length ≤ 1000) :
    Calls Try.prog 36 #[.agg #[.slice ao ps.length cap]] w fun e w' => ∃ ro rc, e = .returned (.agg #[.slice ro ps.length rc]) ∧ FreshS w' w.heap.size (.slice ro ps.length rc) ps ∧ Below w.heap.size w w' := by
  have HS := Hid.mk2 h
  clear h
  go_enter Try.func36, Try.ntmps36
  go_upto_region 1 with (fail)
  obtain ⟨w0, hw0⟩ : ∃ w0, w0 = (w.alloc (Obj.cells #[Value.slice ao ps.length cap] 33)).alloc (Obj.cells #[Value.slice none 0 0] 33) := ⟨_, rfl⟩
  rw [← hw0]
  have T0 : TK w w0 (.slice ao ps.length cap) := by rw [hw0]; exact TK.begin _ _ _ _
  obtain ⟨v1, w1, hrun, hF, hb⟩ := run_twin w0 31 ao ps cap (HS.out.below T0.below) hl
  have T1 := T0.step hb
  obtain ⟨ro, rc, e1, hs1⟩ := hF.sb
  subst e1
  have a0 := T0.c0
  have x0 := T0.x0
  have b1 := T1.c1
  have f1 := T1.f1
  have y1 := T1.x1
  have HF := Hid.mk2 hF
  have HT := Hid.mk2 T0
  have HT1 := Hid.mk2 T1
  clear hw0 T0 T1 hb hF hs1
  go_wp2_with (at_builtin; refine app_run rfl (.const (.slice none 0 0)) (.tmp 4) rfl _ _ rfl rfl hrun ?_)
  have z0 : (w1.setCell ⟨w.heap.size + 1, 0, none⟩ (.slice ro ps.length rc)).cell? ⟨w.heap.size + 1, 0, none⟩ = some (.slice ro ps.length rc) := World.cell?_setCell_same _ _ _ b1
  try simp only [Exit.inBlock, Exit.then]
  refine bodyPost_ret (v := .agg #[.slice ro ps.length rc]) (by simp [results, Try.results36, go_sem, z0]) rfl ⟨_, _, rfl, ?_, HT1.out.below.setCell (by simp) _⟩
  exact (HF.out.setOther HT.out.x1 _).mono (Nat.le_of_lt HT.out.x0)
end Go.Proofs.Ytkcgleahbhmggaa
