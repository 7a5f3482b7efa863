/-
  Structs of several cells that are loaded, stored, answered whole (package packed).
-/
import Derived.Test.YtfjcaofmcjhdpaaGb
import Derived.Test.YtfjcaofmcjhdpaaGy
import Derived.BigGuard
namespace Go.Proofs.Ytfjcaofmcjhdpaa
open Go.Proofs.Ytfjcaofmcjhdpaa.It
open Go.RowKit
set_option linter.unusedSimpArgs false
set_option linter.unusedVariables false
set_option maxRecDepth 100000

def ysets (w : World) (b : Nat) : Nat → List Value → World
  | _, [] => w
  | j, v :: vs => ysets (w.setCell ⟨b, j, none⟩ v) b (j + 1) vs
theorem ysets_eq (b : Nat) : ∀ (vs : List Value) (w : World) (j : Nat), w.setCells b j vs = ysets w b j vs
  | [], _, _ => rfl
  | v :: vs, w, j => ysets_eq b vs _ (j + 1)
theorem ysets_grown (b : Nat) : ∀ (vs : List Value) (w : World) (j : Nat), w.grownBy (ysets w b j vs) (some b)
  | [], w, _ => World.grownBy.refl w _
  | v :: vs, w, j => (g_set w ⟨b, j, none⟩ v).trans (ysets_grown b vs _ (j + 1))
theorem ysets_box (b : Nat) : ∀ (vs us pre : List Value) (w : World), GBx w b (pre ++ us) → us.length = vs.length → GBx (ysets w b pre.length vs) b (pre ++ vs)
  | [], [], pre, w, h, _ => h
  | [], _ :: _, _, _, _, e => by simp at e
  | v :: vs, [], _, _, _, e => by simp at e
  | v :: vs, u :: us, pre, w, h, e => by
    have h1 : GBx (w.setCell ⟨b, pre.length, none⟩ v) b ((pre ++ [v]) ++ us) := by
      have := h.set pre.length v (by simp)
      refine this.ext ?_
      rw [List.set_append_right _ _ (Nat.le_refl _), Nat.sub_self, List.set_cons_zero, List.append_assoc]
      rfl
    have h2 := ysets_box b vs us (pre ++ [v]) _ h1 (by simpa using e)
    rw [List.length_append, List.length_singleton] at h2
    unfold ysets
    rw [List.append_assoc] at h2
    exact h2
theorem ybox {w : World} {b : Nat} {us : List Value} (h : GBx w b us) (vs : List Value) (e : us.length = vs.length) : GBx (ysets w b 0 vs) b vs := ysets_box b vs us [] w h e
theorem GBx.get {w : World} {b : Nat} {vs : List Value} (h : GBx w b vs) : ∀ j v, vs[j]? = some v → w.cell? ⟨b, j, none⟩ = some v := by
  intro j v hv
  obtain ⟨hj, e⟩ := List.getElem?_eq_some_iff.1 hv
  rw [h.c j hj, e]
theorem load_var {w : World} {b : Nat} {cs : List Value} (hb : GBx w b cs) (ty : TypeId) (d : TypeDesc) (hu : Try.prog.underlying ty = some d) (hd : (match d with | .struct _ | .array _ _ => true | _ => false) = true) (hi : (Try.prog.info? ty).map (·.size) = some cs.length) :
    (loadVar ty ⟨b, 0, none⟩).run Try.prog w = .ok (.agg cs.toArray) w := by
  have hl : (loadCells ⟨b, 0, none⟩ cs.length).run Try.prog w = .ok cs.toArray w :=
    run_loadCells_list (P := Try.prog) w ⟨b, 0, none⟩ cs (fun j v hv => by rw [g_add, Nat.zero_add]; exact hb.get j v hv)
  cases hq : Try.prog.info? ty with
  | none => simp [hq] at hi
  | some i =>
    have hs : i.size = cs.length := by simpa [hq] using hi
    have hagg : (isAgg ty).run Try.prog w = .ok true w := by
      unfold isAgg
      rw [Sem.run_bind, run_underlying hu w]
      cases d <;> simp_all
    simp [loadVar, Sem.run_bind, hagg, sizeOf, typeInfo, hq, hs, hl]
theorem ywpl_store {ops : Array Oper} {rest : List Oper} {o : Oper} {a : Act} {w : World} {Q : Exit → Act → World → Prop} (hgd : o.guard = none) (ty : TypeId) (s y : Operand) (ho : o.op = .store ty s y) (b : Nat) (cs us : List Value) (hx : a.eval s = .pointer (some ⟨b, 0, none⟩)) (hy : a.eval y = .agg cs.toArray) (hi : (Try.prog.info? ty).map (·.size) = some cs.length)
    (hb : GBx w b us) (hl : us.length = cs.length) (h1 : ∀ v ∈ cs, v.oneCell' = true) (h : wpList Try.prog ops Q rest (a.put o.dst undef) (ysets w b 0 cs)) : wpList Try.prog ops Q (o :: rest) a w := by
  refine wpList_plain hgd fun K hK => ?_
  have hst := run_storeCells_cells (P := Try.prog) b 0 cs 0 w (by intro j hj; rw [Nat.zero_add, hb.c j (by omega)]; rfl) (by intro j hj; rw [Nat.zero_add]; exact hb.f j) h1
  rw [Nat.zero_add, ysets_eq] at hst
  have hsv : (storeVar ty ⟨b, 0, none⟩ (.agg cs.toArray)).run Try.prog w = .ok () (ysets w b 0 cs) := by
    cases hq : Try.prog.info? ty with
    | none => simp [hq] at hi
    | some i =>
      have hs : cs.length = i.size := by simp [hq] at hi; omega
      simp [storeVar, sizeOf, typeInfo, hq, Value.cells, hs, hst]
  unfold Oper.wp execOp
  simp only [ho, hx, hy, Instr.storeAt, Instr.sureAddr, Sem.run_bind, Sem.run_pure, Result.andThen_ok, hsv]
  exact hK _ _ h
theorem res_cell {fn : Func} {s t : Tmp} {ty : TypeId} {tmps : Array Value} {w : World} {b : Nat} {v : Value} (h : fn.results = #[.cell s ty, .tmp t]) (hs : tmps.getD s undef = .pointer (some ⟨b, 0, none⟩)) (hl : (loadVar ty ⟨b, 0, none⟩).run Try.prog w = .ok v w) :
    (results fn tmps).run Try.prog w = .ok (.tuple #[v, tmps.getD t undef]) w := by
  have hs2 : tmps[s]?.getD undef = .pointer (some ⟨b, 0, none⟩) := by simpa using hs
  simp [results, h, hs2, hl, asAddr]
theorem res_cell2 {fn : Func} {s t u : Tmp} {ty : TypeId} {tmps : Array Value} {w : World} {b : Nat} {v : Value} (h : fn.results = #[.cell s ty, .tmp t, .tmp u]) (hs : tmps.getD s undef = .pointer (some ⟨b, 0, none⟩)) (hl : (loadVar ty ⟨b, 0, none⟩).run Try.prog w = .ok v w) :
    (results fn tmps).run Try.prog w = .ok (.tuple #[v, tmps.getD t undef, tmps.getD u undef]) w := by
  have hs2 : tmps[s]?.getD undef = .pointer (some ⟨b, 0, none⟩) := by simpa using hs
  simp [results, h, hs2, hl, asAddr]
theorem zres_cell1 {fn : Func} {s : Tmp} {ty : TypeId} {tmps : Array Value} {w : World} {b : Nat} {v : Value} (h : fn.results = #[.cell s ty]) (hs : tmps.getD s undef = .pointer (some ⟨b, 0, none⟩)) (hl : (loadVar ty ⟨b, 0, none⟩).run Try.prog w = .ok v w) :
    (results fn tmps).run Try.prog w = .ok v w := by
  have hs2 : tmps[s]?.getD undef = .pointer (some ⟨b, 0, none⟩) := by simpa using hs
  simp [results, h, hs2, hl, asAddr]
theorem ywpl_load_g {ops : Array Oper} {rest : List Oper} {o : Oper} {a : Act} {w : World} {Q : Exit → Act → World → Prop} (hw : Region.wanted o (yielded ops a.tmps) = true) (ty : TypeId) (s : Operand) (ho : o.op = .load ty s) (b : Nat) (hx : a.eval s = .pointer (some ⟨b, 0, none⟩)) (cs : List Value) (hc : GBx w b cs) (d : TypeDesc)
    (hu : Try.prog.underlying ty = some d) (hd : (match d with | .struct _ | .array _ _ => true | _ => false) = true) (hi : (Try.prog.info? ty).map (·.size) = some cs.length) (h : wpList Try.prog ops Q rest (a.put o.dst (.agg cs.toArray)) w) : wpList Try.prog ops Q (o :: rest) a w := by
  refine BigFrame.wpList_want hw fun K hK => ?_
  have hlv := load_var hc ty d hu hd hi
  unfold Oper.wp execOp
  simp only [ho, hx, Instr.loadAt, Instr.sureAddr, Sem.run_bind, Sem.run_pure, Result.andThen_ok, hlv]
  exact hK _ _ h
theorem res_cell3 {fn : Func} {s t u : Tmp} {ty : TypeId} {tmps : Array Value} {w : World} {b : Nat} {v : Value} (h : fn.results = #[.cell s ty, .tmp t, .tmp u]) (hs : tmps.getD s undef = .pointer (some ⟨b, 0, none⟩)) (hl : (loadVar ty ⟨b, 0, none⟩).run Try.prog w = .ok v w) :
    (results fn tmps).run Try.prog w = .ok (.tuple #[v, tmps.getD t undef, tmps.getD u undef]) w := by
  have hs2 : tmps[s]?.getD undef = .pointer (some ⟨b, 0, none⟩) := by simpa using hs
  simp [results, h, hs2, hl, asAddr]
end Go.Proofs.Ytfjcaofmcjhdpaa
