/-
  itemOf of package words.
-/
import Derived.Test.YtihcnjbnlcgcoaaDoorWoH
namespace Go.Proofs.YtihcnjbnlcgcoaaDoor
open Go.Proofs.YtihcnjbnlcgcoaaDoor.It
open Go.RowKit
set_option linter.unusedSimpArgs false
set_option linter.unusedVariables false
set_option maxRecDepth 100000

theorem res_cell3 {fn : Func} {s t u : Tmp} {ty : TypeId} {tmps : Array Value} {w : World} {b : Nat} {v : Value} (h : fn.results = #[.cell s ty, .tmp t, .tmp u]) (hs : tmps.getD s undef = .pointer (some ⟨b, 0, none⟩)) (hl : (loadVar ty ⟨b, 0, none⟩).run Tryd.prog w = .ok v w) :
    (results fn tmps).run Tryd.prog w = .ok (.tuple #[v, tmps.getD t undef, tmps.getD u undef]) w := by
  have hs2 : tmps[s]?.getD undef = .pointer (some ⟨b, 0, none⟩) := by simpa using hs
  simp [results, h, hs2, hl, asAddr]
def ysets (w : World) (b : Nat) : Nat → List Value → World
  | _, [] => w
  | j, v :: vs => ysets (w.setCell ⟨b, j, none⟩ v) b (j + 1) vs
theorem ysets_eq (b : Nat) : ∀ (vs : List Value) (w : World) (j : Nat), w.setCells b j vs = ysets w b j vs
  | [], _, _ => rfl
  | v :: vs, w, j => ysets_eq b vs _ (j + 1)
theorem ysets_grown (b : Nat) : ∀ (vs : List Value) (w : World) (j : Nat), w.grownBy (ysets w b j vs) (some b)
  | [], w, _ => World.grownBy.refl w _
  | v :: vs, w, j => (g_set w ⟨b, j, none⟩ v).trans (ysets_grown b vs _ (j + 1))
theorem ysets_box (b : Nat) : ∀ (vs us pre : List Value) (w : World), GBx w b (pre ++ us) → us.length = vs.length → GBx (ysets w b pre.length vs) b (pre ++ vs)
  | [], [], pre, w, h, _ => h
  | [], _ :: _, _, _, _, e => by simp at e
  | v :: vs, [], _, _, _, e => by simp at e
  | v :: vs, u :: us, pre, w, h, e => by
    have h1 : GBx (w.setCell ⟨b, pre.length, none⟩ v) b ((pre ++ [v]) ++ us) := by
      have := h.set pre.length v (by simp)
      refine this.ext ?_
      rw [List.set_append_right _ _ (Nat.le_refl _), Nat.sub_self, List.set_cons_zero, List.append_assoc]
      rfl
    have h2 := ysets_box b vs us (pre ++ [v]) _ h1 (by simpa using e)
    rw [List.length_append, List.length_singleton] at h2
    unfold ysets
    rw [List.append_assoc] at h2
    exact h2
theorem ybox {w : World} {b : Nat} {us : List Value} (h : GBx w b us) (vs : List Value) (e : us.length = vs.length) : GBx (ysets w b 0 vs) b vs := ysets_box b vs us [] w h e
theorem GBx.get {w : World} {b : Nat} {vs : List Value} (h : GBx w b vs) : ∀ j v, vs[j]? = some v → w.cell? ⟨b, j, none⟩ = some v := by
  intro j v hv
  obtain ⟨hj, e⟩ := List.getElem?_eq_some_iff.1 hv
  rw [h.c j hj, e]
theorem load_var {w : World} {b : Nat} {cs : List Value} (hb : GBx w b cs) (ty : TypeId) (d : TypeDesc) (hu : Tryd.prog.underlying ty = some d) (hd : (match d with | .struct _ | .array _ _ => true | _ => false) = true) (hi : (Tryd.prog.info? ty).map (·.size) = some cs.length) :
    (loadVar ty ⟨b, 0, none⟩).run Tryd.prog w = .ok (.agg cs.toArray) w := by
  have hl : (loadCells ⟨b, 0, none⟩ cs.length).run Tryd.prog w = .ok cs.toArray w :=
    run_loadCells_list (P := Tryd.prog) w ⟨b, 0, none⟩ cs (fun j v hv => by rw [g_add, Nat.zero_add]; exact hb.get j v hv)
  cases hq : Tryd.prog.info? ty with
  | none => simp [hq] at hi
  | some i =>
    have hs : i.size = cs.length := by simpa [hq] using hi
    have hagg : (isAgg ty).run Tryd.prog w = .ok true w := by
      unfold isAgg
      rw [Sem.run_bind, run_underlying hu w]
      cases d <;> simp_all
    simp [loadVar, Sem.run_bind, hagg, sizeOf, typeInfo, hq, hs, hl]
theorem ywpl_load {ops : Array Oper} {rest : List Oper} {o : Oper} {a : Act} {w : World} {Q : Exit → Act → World → Prop} (hgd : o.guard = none) (ty : TypeId) (s : Operand) (ho : o.op = .load ty s) (b : Nat) (hx : a.eval s = .pointer (some ⟨b, 0, none⟩)) (cs : List Value) (hc : GBx w b cs) (d : TypeDesc)
    (hu : Tryd.prog.underlying ty = some d) (hd : (match d with | .struct _ | .array _ _ => true | _ => false) = true) (hi : (Tryd.prog.info? ty).map (·.size) = some cs.length) (h : wpList Tryd.prog ops Q rest (a.put o.dst (.agg cs.toArray)) w) : wpList Tryd.prog ops Q (o :: rest) a w := by
  refine wpList_plain hgd fun K hK => ?_
  have hlv := load_var hc ty d hu hd hi
  unfold Oper.wp execOp
  simp only [ho, hx, Instr.loadAt, Instr.sureAddr, Sem.run_bind, Sem.run_pure, Result.andThen_ok, hlv]
  exact hK _ _ h
theorem ywpl_store {ops : Array Oper} {rest : List Oper} {o : Oper} {a : Act} {w : World} {Q : Exit → Act → World → Prop} (hgd : o.guard = none) (ty : TypeId) (s y : Operand) (ho : o.op = .store ty s y) (b : Nat) (cs us : List Value) (hx : a.eval s = .pointer (some ⟨b, 0, none⟩)) (hy : a.eval y = .agg cs.toArray) (hi : (Tryd.prog.info? ty).map (·.size) = some cs.length)
    (hb : GBx w b us) (hl : us.length = cs.length) (h1 : ∀ v ∈ cs, v.oneCell' = true) (h : wpList Tryd.prog ops Q rest (a.put o.dst undef) (ysets w b 0 cs)) : wpList Tryd.prog ops Q (o :: rest) a w := by
  refine wpList_plain hgd fun K hK => ?_
  have hst := run_storeCells_cells (P := Tryd.prog) b 0 cs 0 w (by intro j hj; rw [Nat.zero_add, hb.c j (by omega)]; rfl) (by intro j hj; rw [Nat.zero_add]; exact hb.f j) h1
  rw [Nat.zero_add, ysets_eq] at hst
  have hsv : (storeVar ty ⟨b, 0, none⟩ (.agg cs.toArray)).run Tryd.prog w = .ok () (ysets w b 0 cs) := by
    cases hq : Tryd.prog.info? ty with
    | none => simp [hq] at hi
    | some i =>
      have hs : cs.length = i.size := by simp [hq] at hi; omega
      simp [storeVar, sizeOf, typeInfo, hq, Value.cells, hs, hst]
  unfold Oper.wp execOp
  simp only [ho, hx, hy, Instr.storeAt, Instr.sureAddr, Sem.run_bind, Sem.run_pure, Result.andThen_ok, hsv]
  exact hK _ _ h
/-- what itemOf answers -/
structure ItemR (w w' : World) (ws : List ByteArray) (e : Ending) : Prop where
  ex : ∃ (x : Im) (n : Int) (b : Bool), e = .returned (.tuple #[.agg #[.string x.key, .string x.value, .int .u32 x.flags, .int .i64 x.till, .int .u64 x.unique], .int .i64 n, .bool b]) ∧ ((b = true ∧ ∃ k : Nat, n = (k : Int) ∧ itemW ws = some (x, k)) ∨ (b = false ∧ itemW ws = none))
  below : Below w.heap.size w w'
theorem item_info : (Tryd.prog.info? 53).map (·.size) = some 5 := by kernel_rfl
theorem itemW_len {ws : List ByteArray} (h : ws.length ≠ 5) : itemW ws = none := by
  match ws, h with
  | [], _ => rfl
  | [_], _ => rfl
  | [_, _], _ => rfl
  | [_, _, _], _ => rfl
  | [_, _, _, _], _ => rfl
  | [_, _, _, _, _], h => exact absurd rfl h
  | _ :: _ :: _ :: _ :: _ :: _ :: _, _ => rfl

set_option maxHeartbeats 4000000 in
theorem witemOf_any (ws : List ByteArray) (ao : Option Addr) (cap : Nat) (w : World) (h : GRd ES w ao ws cap) (hs : ∀ x ∈ ws, x.size ≤ maxLen) (m : Nat) (hm : m = ws.length) :
    Calls Tryd.prog 41 #[.slice ao m cap] w fun e w' => ItemR w w' ws e := by
  have hml : (m : Int) ≤ 9223372036854775807 := by have := h.len; omega
  by_cases h5 : m = 5
  · subst h5
    obtain ⟨k, f, t, u, v, rfl⟩ : ∃ k f t u v, ws = [k, f, t, u, v] := by
      match ws, hm with
      | [k, f, t, u, v], _ => exact ⟨k, f, t, u, v, rfl⟩
    clear hm
    obtain ⟨b, off, rfl, hbl, hcs⟩ := h.str (by simp)
    have HC : Hid (∀ V, Below w.heap.size w V → V.cell? ⟨b, off, none⟩ = some (.string k) ∧ V.cell? ⟨b, off + 1, none⟩ = some (.string f) ∧ V.cell? ⟨b, off + 2, none⟩ = some (.string t) ∧ V.cell? ⟨b, off + 3, none⟩ = some (.string u) ∧ V.cell? ⟨b, off + 4, none⟩ = some (.string v)) := by
      intro V hV
      have g : ∀ i (hi : i < 5), V.cell? ⟨b, off + i, none⟩ = some (.string [k, f, t, u, v][i]) := fun i hi => (hV.cell (p := ⟨b, off + i, none⟩) hbl).trans (hcs i hi)
      exact ⟨g 0 (by decide), g 1 (by decide), g 2 (by decide), g 3 (by decide), g 4 (by decide)⟩
    have HF := Hid.mk2 (fun V => wnumberUpTo_any 4294967295 (by decide) f V)
    have HT := Hid.mk2 (fun V => wnumberUpTo_any 1099511627776 (by decide) t V)
    have HU := Hid.mk2 (fun V => wnumberUpTo_any 18446744073709551615 (by decide) u V)
    have HV := Hid.mk2 (fun V => wnumberUpTo_any 512 (by decide) v V)
    have HK := Hid.mk2 (fun V => wisKey_any k (hs k (by simp)) V)
    have HIT : Hid (itemW [k, f, t, u, v] = if wordOk k 32 = true ∧ numU 4294967295 f = true ∧ numU 1099511627776 t = true ∧ numU 18446744073709551615 u = true ∧ numU 512 v = true then some (⟨k, ⟨#[]⟩, (numV (bl f) : Int), (numV (bl t) : Int), (numV (bl u) : Int)⟩, numV (bl v)) else none) := rfl
    obtain ⟨nf, hnf⟩ : ∃ n, n = numV (bl f) := ⟨_, rfl⟩
    obtain ⟨nt, hnt⟩ : ∃ n, n = numV (bl t) := ⟨_, rfl⟩
    obtain ⟨nu, hnu⟩ : ∃ n, n = numV (bl u) := ⟨_, rfl⟩
    obtain ⟨nv, hnv⟩ : ∃ n, n = numV (bl v) := ⟨_, rfl⟩
    have hb1 : nf < 18446744073709551616 := by rw [hnf]; exact numV_lt _
    have hb2 : nt < 18446744073709551616 := by rw [hnt]; exact numV_lt _
    have hb4 : nv < 18446744073709551616 := by rw [hnv]; exact numV_lt _
    have HLE : Hid ((numU 4294967295 f = true → nf ≤ 4294967295) ∧ (numU 1099511627776 t = true → nt ≤ 1099511627776) ∧ (numU 512 v = true → nv ≤ 512)) := by
      refine ⟨fun h => ?_, fun h => ?_, fun h => ?_⟩ <;> (unfold numU at h; simp at h; omega)
    rw [← hnf, ← hnt, ← hnu, ← hnv] at HIT
    rw [← hnf] at HF
    rw [← hnt] at HT
    rw [← hnu] at HU
    rw [← hnv] at HV
    obtain ⟨BF, hBF⟩ : ∃ B, B = numU 4294967295 f := ⟨_, rfl⟩
    obtain ⟨BT, hBT⟩ : ∃ B, B = numU 1099511627776 t := ⟨_, rfl⟩
    obtain ⟨BU, hBU⟩ : ∃ B, B = numU 18446744073709551615 u := ⟨_, rfl⟩
    obtain ⟨BV, hBV⟩ : ∃ B, B = numU 512 v := ⟨_, rfl⟩
    obtain ⟨BK, hBK⟩ : ∃ B, B = wordOk k 32 := ⟨_, rfl⟩
    rw [← hBF, ← hBT, ← hBU, ← hBV, ← hBK] at HIT
    rw [← hBF, ← hBT, ← hBV] at HLE
    rw [← hBF] at HF
    rw [← hBT] at HT
    rw [← hBU] at HU
    rw [← hBV] at HV
    rw [← hBK] at HK
    have HR0 : Hid (Below w.heap.size w (w.alloc (.cells #[.string ⟨#[]⟩, .string ⟨#[]⟩, .int .u32 0, .int .i64 0, .int .u64 0] 53))) := g_alloc _ _
    obtain ⟨W, hW⟩ : ∃ W, W = w.alloc (.cells #[.string ⟨#[]⟩, .string ⟨#[]⟩, .int .u32 0, .int .i64 0, .int .u64 0] 53) := ⟨_, rfl⟩
    have HX : Hid (GBx W w.heap.size [.string ⟨#[]⟩, .string ⟨#[]⟩, .int .u32 0, .int .i64 0, .int .u64 0]) := by rw [hW]; exact GBx.made w [.string ⟨#[]⟩, .string ⟨#[]⟩, .int .u32 0, .int .i64 0, .int .u64 0] _
    rw [← hW] at HR0
    obtain ⟨c0, c1, c2, c3, c4⟩ := HC.out _ HR0.out
    clear hnf hnt hnu hnv hBF hBT hBU hBV hBK h hcs hs hml
    go_enter Tryd.func41, Tryd.ntmps41
    go_upto_region 1 with (fail)
    rw [← hW]
    clear hW
    go_upto_region 8 with (first
      | (go_at_call 67; refine (HF.out _).mono ?_; rintro e w1 ⟨rfl, hb⟩; have HB := Hid.mk2 (g_on HR0.out hb); have HX1 := Hid.mk2 (HX.out.below hb); clear hb c0 c1 c2 c3 c4 HF; obtain ⟨c0, c1, c2, c3, c4⟩ := HC.out _ HB.out)
      | (go_at_call 67; refine (HT.out _).mono ?_; rintro e w2 ⟨rfl, hb⟩; have HB2 := Hid.mk2 (g_on HB.out hb); have HX2 := Hid.mk2 (HX1.out.below hb); clear hb c0 c1 c2 c3 c4 HT HB; obtain ⟨c0, c1, c2, c3, c4⟩ := HC.out _ HB2.out)
      | (go_at_call 67; refine (HU.out _).mono ?_; rintro e w3 ⟨rfl, hb⟩; have HB3 := Hid.mk2 (g_on HB2.out hb); have HX3 := Hid.mk2 (HX2.out.below hb); clear hb c0 c1 c2 c3 c4 HU HB2; obtain ⟨c0, c1, c2, c3, c4⟩ := HC.out _ HB3.out)
      | (go_at_call 67; refine (HV.out _).mono ?_; rintro e w4 ⟨rfl, hb⟩; have HB4 := Hid.mk2 (g_on HB3.out hb); have HX4 := Hid.mk2 (HX3.out.below hb); clear hb c0 c1 c2 c3 c4 HV HB3; obtain ⟨c0, c1, c2, c3, c4⟩ := HC.out _ HB4.out))
    obtain ⟨W5, hW5⟩ : ∃ W5, W5 = w4.alloc (.cells #[.string k, .string ⟨#[]⟩, .int .u32 ((nf : Int) % 4294967296), .int .i64 (wrap64 (nt : Int)), .int .u64 (nu : Int)] 53) := ⟨_, rfl⟩
    have HX5 : Hid (GBx W5 w4.heap.size [.string k, .string ⟨#[]⟩, .int .u32 ((nf : Int) % 4294967296), .int .i64 (wrap64 (nt : Int)), .int .u64 (nu : Int)]) := by rw [hW5]; exact GBx.made w4 [.string k, .string ⟨#[]⟩, .int .u32 ((nf : Int) % 4294967296), .int .i64 (wrap64 (nt : Int)), .int .u64 (nu : Int)] _
    have HZ5 : Hid (GBx W5 w.heap.size [.string ⟨#[]⟩, .string ⟨#[]⟩, .int .u32 0, .int .i64 0, .int .u64 0]) := by rw [hW5]; exact HX4.out.alloc _
    have HX4lt : Hid (w.heap.size < w4.heap.size) := HX4.out.lt
    have HB5 : Hid (Below w.heap.size w W5) := by rw [hW5]; exact g_on HB4.out (g_alloc _ _)
    rw [← hW5]
    clear hW5 HX HX1 HX2 HX3 HX4 c0 c1 c2 c3 c4
    obtain ⟨X4, hX4⟩ : ∃ X4, X4 = w4.heap.size := ⟨_, rfl⟩
    rw [← hX4] at HX5 ⊢
    have HXZ : Hid (w.heap.size < X4) := by show _ < _; rw [hX4]; exact HX4lt.out
    clear hX4
    have HSS : Hid (∀ V, Below W5.heap.size W5 V → V.cell? ⟨X4, 0, none⟩ = some (.string k) ∧ V.cell? ⟨X4, 1, none⟩ = some (.string ⟨#[]⟩) ∧ V.cell? ⟨X4, 2, none⟩ = some (.int .u32 ((nf : Int) % 4294967296)) ∧ V.cell? ⟨X4, 3, none⟩ = some (.int .i64 (wrap64 (nt : Int))) ∧ V.cell? ⟨X4, 4, none⟩ = some (.int .u64 (nu : Int)) ∧ V.cell? ⟨b, off, none⟩ = some (.string k)) := by
      intro V hV
      have h := HX5.out.below hV
      exact ⟨h.c 0 (by simp), h.c 1 (by simp), h.c 2 (by simp), h.c 3 (by simp), h.c 4 (by simp), (HC.out V (g_on HB5.out hV)).1⟩
    have HS0 := Hid.mk2 (HSS.out W5.drew (Below.refl _ _).drew)
    cases BK with
    | false =>
      refine wp_region_noPanic ?_
      refine wp_region_held_drew (S := fun W => W.cell? ⟨X4, 0, none⟩ = some (.string k) ∧ W.cell? ⟨X4, 1, none⟩ = some (.string ⟨#[]⟩) ∧ W.cell? ⟨X4, 2, none⟩ = some (.int .u32 ((nf : Int) % 4294967296)) ∧ W.cell? ⟨X4, 3, none⟩ = some (.int .i64 (wrap64 (nt : Int))) ∧ W.cell? ⟨X4, 4, none⟩ = some (.int .u64 (nu : Int)) ∧ W.cell? ⟨b, off, none⟩ = some (.string k)) (by kernel_rfl) HS0.out (fun _ => ?_)
      refine wpAnyH_take (i := 0) (v := .agg #[.string k, .string ⟨#[]⟩, .int .u32 ((nf : Int) % 4294967296), .int .i64 (wrap64 (nt : Int)), .int .u64 (nu : Int)]) rfl (by kernel_rfl) (by kernel_rfl) (by kernel_rfl) (fun _ _ _ h => h) (Or.inl ⟨by kernel_rfl, fun W hW => by obtain ⟨m0, m1, m2, m3, m4, mc⟩ := hW; go_simp⟩) HS0.out ?_
      try simp only [List.getElem_toArray, List.getElem_cons_zero, List.getElem_cons_succ, Act.put, List.setIfInBounds_toArray, List.set_cons_zero, List.set_cons_succ, List.append_eq, List.cons_append, List.nil_append]
      refine wpAnyH_take (i := 1) (v := .int .u64 (nv : Int)) rfl (by kernel_rfl) (by kernel_rfl) (by kernel_rfl) (fun _ _ _ h => h) (Or.inl ⟨by kernel_rfl, fun W hW => by kernel_rfl⟩) HS0.out ?_
      try simp only [List.getElem_toArray, List.getElem_cons_zero, List.getElem_cons_succ, Act.put, List.setIfInBounds_toArray, List.set_cons_zero, List.set_cons_succ, List.append_eq, List.cons_append, List.nil_append]
      refine wpAnyH_take (i := 2) (v := .int .i64 (IntKind.i64.wrap (nv : Int))) rfl (by kernel_rfl) (by kernel_rfl) (by kernel_rfl) (fun _ _ _ h => h) (Or.inl ⟨by kernel_rfl, fun W hW => by go_simp⟩) HS0.out ?_
      try simp only [List.getElem_toArray, List.getElem_cons_zero, List.getElem_cons_succ, Act.put, List.setIfInBounds_toArray, List.set_cons_zero, List.set_cons_succ, List.append_eq, List.cons_append, List.nil_append]
      refine wpAnyH_take (i := 3) (v := .slice (some ⟨b, off, none⟩) 5 cap) rfl (by kernel_rfl) (by kernel_rfl) (by kernel_rfl) (fun _ _ _ h => h) (Or.inl ⟨by kernel_rfl, fun W hW => by kernel_rfl⟩) HS0.out ?_
      try simp only [List.getElem_toArray, List.getElem_cons_zero, List.getElem_cons_succ, Act.put, List.setIfInBounds_toArray, List.set_cons_zero, List.set_cons_succ, List.append_eq, List.cons_append, List.nil_append]
      refine wpAnyH_take (i := 4) (v := .pointer (some ⟨b, off, none⟩)) rfl (by kernel_rfl) (by kernel_rfl) (by kernel_rfl) (fun _ _ _ h => h) (Or.inl ⟨by kernel_rfl, fun W hW => by go_simp⟩) HS0.out ?_
      try simp only [List.getElem_toArray, List.getElem_cons_zero, List.getElem_cons_succ, Act.put, List.setIfInBounds_toArray, List.set_cons_zero, List.set_cons_succ, List.append_eq, List.cons_append, List.nil_append]
      refine wpAnyH_take (i := 5) (v := .string k) rfl (by kernel_rfl) (by kernel_rfl) (by kernel_rfl) (fun _ _ _ h => h) (Or.inl ⟨by kernel_rfl, fun W hW => by obtain ⟨m0, m1, m2, m3, m4, mc⟩ := hW; go_simp⟩) HS0.out ?_
      try simp only [List.getElem_toArray, List.getElem_cons_zero, List.getElem_cons_succ, Act.put, List.setIfInBounds_toArray, List.set_cons_zero, List.set_cons_succ, List.append_eq, List.cons_append, List.nil_append]
      refine wpAnyH_ready (rs := [6]) (by kernel_rfl) (by simp) ?_
      refine AllReadyH.cons rfl (fun K hK => ?_) AllReadyH.nil
      simp only [List.getElem_toArray, List.getElem_cons_zero, List.getElem_cons_succ]
      go_simp
      go_at_call 65
      refine (HK.out W5.drew).mono ?_
      rintro e w6 ⟨rfl, hb6⟩
      have HB6 := Hid.mk2 (g_on ((Below.refl W5.heap.size W5).drew) hb6)
      have HS6 := Hid.mk2 (HSS.out w6 HB6.out)
      refine hK.out _ _ HS6.out (fun _ => ?_)
      clear hK K hb6
      try simp only [List.getElem_toArray, List.getElem_cons_zero, List.getElem_cons_succ, Act.put, List.setIfInBounds_toArray, List.set_cons_zero, List.set_cons_succ, List.append_eq, List.cons_append, List.nil_append]
      refine wpAnyH_take (i := 7) (v := .bool false) rfl (by kernel_rfl) (by kernel_rfl) (by kernel_rfl) (fun _ _ _ h => h) (Or.inl ⟨by kernel_rfl, fun W hW => by kernel_rfl⟩) HS6.out ?_
      try simp only [List.getElem_toArray, List.getElem_cons_zero, List.getElem_cons_succ, Act.put, List.setIfInBounds_toArray, List.set_cons_zero, List.set_cons_succ, List.append_eq, List.cons_append, List.nil_append]
      refine wpAnyH_take (i := 8) (v := undef) rfl (by kernel_rfl) (by kernel_rfl) (by kernel_rfl) (fun _ _ _ h => h) (Or.inr ⟨by kernel_rfl, rfl⟩) HS6.out ?_
      try simp only [List.getElem_toArray, List.getElem_cons_zero, List.getElem_cons_succ, Act.put, List.setIfInBounds_toArray, List.set_cons_zero, List.set_cons_succ, List.append_eq, List.cons_append, List.nil_append]
      refine wpAnyH_take (i := 9) (v := .bool false) rfl (by kernel_rfl) (by kernel_rfl) (by kernel_rfl) (fun _ _ _ h => h) (Or.inl ⟨by kernel_rfl, fun W hW => by kernel_rfl⟩) HS6.out ?_
      try simp only [List.getElem_toArray, List.getElem_cons_zero, List.getElem_cons_succ, Act.put, List.setIfInBounds_toArray, List.set_cons_zero, List.set_cons_succ, List.append_eq, List.cons_append, List.nil_append]
      refine wpAnyH_take (i := 10) (v := .bool false) rfl (by kernel_rfl) (by kernel_rfl) (by kernel_rfl) (fun _ _ _ h => h) (Or.inl ⟨by kernel_rfl, fun W hW => by kernel_rfl⟩) HS6.out ?_
      try simp only [List.getElem_toArray, List.getElem_cons_zero, List.getElem_cons_succ, Act.put, List.setIfInBounds_toArray, List.set_cons_zero, List.set_cons_succ, List.append_eq, List.cons_append, List.nil_append]
      refine wpAnyH_take (i := 11) (v := undef) rfl (by kernel_rfl) (by kernel_rfl) (by kernel_rfl) (fun _ _ _ h => h) (Or.inr ⟨by kernel_rfl, rfl⟩) HS6.out ?_
      try simp only [List.getElem_toArray, List.getElem_cons_zero, List.getElem_cons_succ, Act.put, List.setIfInBounds_toArray, List.set_cons_zero, List.set_cons_succ, List.append_eq, List.cons_append, List.nil_append]
      refine wpAnyH_take (i := 12) (v := .bool false) rfl (by kernel_rfl) (by kernel_rfl) (by kernel_rfl) (fun _ _ _ h => h) (Or.inl ⟨by kernel_rfl, fun W hW => by kernel_rfl⟩) HS6.out ?_
      try simp only [List.getElem_toArray, List.getElem_cons_zero, List.getElem_cons_succ, Act.put, List.setIfInBounds_toArray, List.set_cons_zero, List.set_cons_succ, List.append_eq, List.cons_append, List.nil_append]
      refine wpAnyH_take (i := 13) (v := .bool false) rfl (by kernel_rfl) (by kernel_rfl) (by kernel_rfl) (fun _ _ _ h => h) (Or.inl ⟨by kernel_rfl, fun W hW => by kernel_rfl⟩) HS6.out ?_
      try simp only [List.getElem_toArray, List.getElem_cons_zero, List.getElem_cons_succ, Act.put, List.setIfInBounds_toArray, List.set_cons_zero, List.set_cons_succ, List.append_eq, List.cons_append, List.nil_append]
      refine wpAnyH_take (i := 14) (v := undef) rfl (by kernel_rfl) (by kernel_rfl) (by kernel_rfl) (fun _ _ _ h => h) (Or.inr ⟨by kernel_rfl, rfl⟩) HS6.out ?_
      try simp only [List.getElem_toArray, List.getElem_cons_zero, List.getElem_cons_succ, Act.put, List.setIfInBounds_toArray, List.set_cons_zero, List.set_cons_succ, List.append_eq, List.cons_append, List.nil_append]
      refine wpAnyH_take (i := 15) (v := .bool false) rfl (by kernel_rfl) (by kernel_rfl) (by kernel_rfl) (fun _ _ _ h => h) (Or.inl ⟨by kernel_rfl, fun W hW => by kernel_rfl⟩) HS6.out ?_
      try simp only [List.getElem_toArray, List.getElem_cons_zero, List.getElem_cons_succ, Act.put, List.setIfInBounds_toArray, List.set_cons_zero, List.set_cons_succ, List.append_eq, List.cons_append, List.nil_append]
      refine wpAnyH_take (i := 16) (v := .bool false) rfl (by kernel_rfl) (by kernel_rfl) (by kernel_rfl) (fun _ _ _ h => h) (Or.inl ⟨by kernel_rfl, fun W hW => by kernel_rfl⟩) HS6.out ?_
      try simp only [List.getElem_toArray, List.getElem_cons_zero, List.getElem_cons_succ, Act.put, List.setIfInBounds_toArray, List.set_cons_zero, List.set_cons_succ, List.append_eq, List.cons_append, List.nil_append]
      refine wpAnyH_take (i := 17) (v := undef) rfl (by kernel_rfl) (by kernel_rfl) (by kernel_rfl) (fun _ _ _ h => h) (Or.inr ⟨by kernel_rfl, rfl⟩) HS6.out ?_
      try simp only [List.getElem_toArray, List.getElem_cons_zero, List.getElem_cons_succ, Act.put, List.setIfInBounds_toArray, List.set_cons_zero, List.set_cons_succ, List.append_eq, List.cons_append, List.nil_append]
      refine wpAnyH_take (i := 18) (v := .bool false) rfl (by kernel_rfl) (by kernel_rfl) (by kernel_rfl) (fun _ _ _ h => h) (Or.inl ⟨by kernel_rfl, fun W hW => by kernel_rfl⟩) HS6.out ?_
      try simp only [List.getElem_toArray, List.getElem_cons_zero, List.getElem_cons_succ, Act.put, List.setIfInBounds_toArray, List.set_cons_zero, List.set_cons_succ, List.append_eq, List.cons_append, List.nil_append]
      have HZ6 := Hid.mk2 (HZ5.out.below HB6.out)
      have HX6 := Hid.mk2 (HX5.out.below HB6.out)
      have z0 := HZ6.out.c 0 (by simp)
      have z1 := HZ6.out.c 1 (by simp)
      have z2 := HZ6.out.c 2 (by simp)
      have z3 := HZ6.out.c 3 (by simp)
      have z4 := HZ6.out.c 4 (by simp)
      simp only [List.getElem_cons_zero, List.getElem_cons_succ] at z0 z1 z2 z3 z4
      have zf0 := HZ6.out.f 0
      have zf1 := HZ6.out.f 1
      have zf2 := HZ6.out.f 2
      have zf3 := HZ6.out.f 3
      have zf4 := HZ6.out.f 4
      have HB7 := Hid.mk2 ((((((g_on HB5.out HB6.out).setCell (p := ⟨w.heap.size, 0, none⟩) (Nat.le_refl _) (.string k)).setCell (p := ⟨w.heap.size, 1, none⟩) (Nat.le_refl _) (.string ⟨#[]⟩)).setCell (p := ⟨w.heap.size, 2, none⟩) (Nat.le_refl _) (.int .u32 ((nf : Int) % 4294967296))).setCell (p := ⟨w.heap.size, 3, none⟩) (Nat.le_refl _) (.int .i64 (wrap64 (nt : Int)))).setCell (p := ⟨w.heap.size, 4, none⟩) (Nat.le_refl _) (.int .u64 (nu : Int)))
      have hneX : w.heap.size ≠ X4 := by have := HXZ.out; omega
      have HX7 := Hid.mk2 (((((HX6.out.other 0 (.string k) hneX).other 1 (.string ⟨#[]⟩) hneX).other 2 (.int .u32 ((nf : Int) % 4294967296)) hneX).other 3 (.int .i64 (wrap64 (nt : Int))) hneX).other 4 (.int .u64 (nu : Int)) hneX)
      have HZ7 := Hid.mk2 (((((HZ6.out.set 0 (.string k) (by simp)).set 1 (.string ⟨#[]⟩) (by simp)).set 2 (.int .u32 ((nf : Int) % 4294967296)) (by simp)).set 3 (.int .i64 (wrap64 (nt : Int))) (by simp)).set 4 (.int .u64 (nu : Int)) (by simp))
      have HS7 := Hid.mk2 (show _ ∧ _ ∧ _ ∧ _ ∧ _ ∧ _ from ⟨HX7.out.c 0 (by simp), HX7.out.c 1 (by simp), HX7.out.c 2 (by simp), HX7.out.c 3 (by simp), HX7.out.c 4 (by simp), (HC.out _ HB7.out).1⟩)
      refine wpAnyH_ready (rs := [19]) (by kernel_rfl) (by simp) ?_
      refine AllReadyH.cons rfl (fun K hK => ?_) AllReadyH.nil
      simp only [List.getElem_toArray, List.getElem_cons_zero, List.getElem_cons_succ]
      clear hneX
      go_simp
      refine hK.out _ _ HS7.out (fun _ => ?_)
      clear hK K
      try simp only [List.getElem_toArray, List.getElem_cons_zero, List.getElem_cons_succ, Act.put, List.setIfInBounds_toArray, List.set_cons_zero, List.set_cons_succ, List.append_eq, List.cons_append, List.nil_append]
      refine wpAnyH_take (i := 20) (v := .int .i64 (IntKind.i64.wrap (nv : Int))) rfl (by kernel_rfl) (by kernel_rfl) (by kernel_rfl) (fun _ _ _ h => h) (Or.inl ⟨by kernel_rfl, fun W hW => by kernel_rfl⟩) HS7.out ?_
      try simp only [List.getElem_toArray, List.getElem_cons_zero, List.getElem_cons_succ, Act.put, List.setIfInBounds_toArray, List.set_cons_zero, List.set_cons_succ, List.append_eq, List.cons_append, List.nil_append]
      refine wpAnyH_take (i := 21) (v := .bool false) rfl (by kernel_rfl) (by kernel_rfl) (by kernel_rfl) (fun _ _ _ h => h) (Or.inl ⟨by kernel_rfl, fun W hW => by kernel_rfl⟩) HS7.out ?_
      try simp only [List.getElem_toArray, List.getElem_cons_zero, List.getElem_cons_succ, Act.put, List.setIfInBounds_toArray, List.set_cons_zero, List.set_cons_succ, List.append_eq, List.cons_append, List.nil_append]
      refine wpAnyH_done (by kernel_rfl) ?_ _
      refine NoPanic.normal ?_
      go_wp2
      refine bodyPost_ret (res_cell3 rfl rfl (load_var HZ7.out 53 _ Tryd.underlying53 rfl item_info)) rfl ?_
      exact ⟨⟨⟨k, ⟨#[]⟩, _, _, _⟩, _, false, rfl, .inr ⟨rfl, by rw [HIT.out]; simp⟩⟩, HB7.out⟩
    | true =>
    cases BF with
    | false =>
      refine wp_region_noPanic ?_
      refine wp_region_held_drew (S := fun W => W.cell? ⟨X4, 0, none⟩ = some (.string k) ∧ W.cell? ⟨X4, 1, none⟩ = some (.string ⟨#[]⟩) ∧ W.cell? ⟨X4, 2, none⟩ = some (.int .u32 ((nf : Int) % 4294967296)) ∧ W.cell? ⟨X4, 3, none⟩ = some (.int .i64 (wrap64 (nt : Int))) ∧ W.cell? ⟨X4, 4, none⟩ = some (.int .u64 (nu : Int)) ∧ W.cell? ⟨b, off, none⟩ = some (.string k)) (by kernel_rfl) HS0.out (fun _ => ?_)
      refine wpAnyH_take (i := 0) (v := .agg #[.string k, .string ⟨#[]⟩, .int .u32 ((nf : Int) % 4294967296), .int .i64 (wrap64 (nt : Int)), .int .u64 (nu : Int)]) rfl (by kernel_rfl) (by kernel_rfl) (by kernel_rfl) (fun _ _ _ h => h) (Or.inl ⟨by kernel_rfl, fun W hW => by obtain ⟨m0, m1, m2, m3, m4, mc⟩ := hW; go_simp⟩) HS0.out ?_
      try simp only [List.getElem_toArray, List.getElem_cons_zero, List.getElem_cons_succ, Act.put, List.setIfInBounds_toArray, List.set_cons_zero, List.set_cons_succ, List.append_eq, List.cons_append, List.nil_append]
      refine wpAnyH_take (i := 1) (v := .int .u64 (nv : Int)) rfl (by kernel_rfl) (by kernel_rfl) (by kernel_rfl) (fun _ _ _ h => h) (Or.inl ⟨by kernel_rfl, fun W hW => by kernel_rfl⟩) HS0.out ?_
      try simp only [List.getElem_toArray, List.getElem_cons_zero, List.getElem_cons_succ, Act.put, List.setIfInBounds_toArray, List.set_cons_zero, List.set_cons_succ, List.append_eq, List.cons_append, List.nil_append]
      refine wpAnyH_take (i := 2) (v := .int .i64 (IntKind.i64.wrap (nv : Int))) rfl (by kernel_rfl) (by kernel_rfl) (by kernel_rfl) (fun _ _ _ h => h) (Or.inl ⟨by kernel_rfl, fun W hW => by go_simp⟩) HS0.out ?_
      try simp only [List.getElem_toArray, List.getElem_cons_zero, List.getElem_cons_succ, Act.put, List.setIfInBounds_toArray, List.set_cons_zero, List.set_cons_succ, List.append_eq, List.cons_append, List.nil_append]
      refine wpAnyH_take (i := 3) (v := .slice (some ⟨b, off, none⟩) 5 cap) rfl (by kernel_rfl) (by kernel_rfl) (by kernel_rfl) (fun _ _ _ h => h) (Or.inl ⟨by kernel_rfl, fun W hW => by kernel_rfl⟩) HS0.out ?_
      try simp only [List.getElem_toArray, List.getElem_cons_zero, List.getElem_cons_succ, Act.put, List.setIfInBounds_toArray, List.set_cons_zero, List.set_cons_succ, List.append_eq, List.cons_append, List.nil_append]
      refine wpAnyH_take (i := 4) (v := .pointer (some ⟨b, off, none⟩)) rfl (by kernel_rfl) (by kernel_rfl) (by kernel_rfl) (fun _ _ _ h => h) (Or.inl ⟨by kernel_rfl, fun W hW => by go_simp⟩) HS0.out ?_
      try simp only [List.getElem_toArray, List.getElem_cons_zero, List.getElem_cons_succ, Act.put, List.setIfInBounds_toArray, List.set_cons_zero, List.set_cons_succ, List.append_eq, List.cons_append, List.nil_append]
      refine wpAnyH_take (i := 5) (v := .string k) rfl (by kernel_rfl) (by kernel_rfl) (by kernel_rfl) (fun _ _ _ h => h) (Or.inl ⟨by kernel_rfl, fun W hW => by obtain ⟨m0, m1, m2, m3, m4, mc⟩ := hW; go_simp⟩) HS0.out ?_
      try simp only [List.getElem_toArray, List.getElem_cons_zero, List.getElem_cons_succ, Act.put, List.setIfInBounds_toArray, List.set_cons_zero, List.set_cons_succ, List.append_eq, List.cons_append, List.nil_append]
      refine wpAnyH_ready (rs := [6]) (by kernel_rfl) (by simp) ?_
      refine AllReadyH.cons rfl (fun K hK => ?_) AllReadyH.nil
      simp only [List.getElem_toArray, List.getElem_cons_zero, List.getElem_cons_succ]
      go_simp
      go_at_call 65
      refine (HK.out W5.drew).mono ?_
      rintro e w6 ⟨rfl, hb6⟩
      have HB6 := Hid.mk2 (g_on ((Below.refl W5.heap.size W5).drew) hb6)
      have HS6 := Hid.mk2 (HSS.out w6 HB6.out)
      refine hK.out _ _ HS6.out (fun _ => ?_)
      clear hK K hb6
      try simp only [List.getElem_toArray, List.getElem_cons_zero, List.getElem_cons_succ, Act.put, List.setIfInBounds_toArray, List.set_cons_zero, List.set_cons_succ, List.append_eq, List.cons_append, List.nil_append]
      refine wpAnyH_take (i := 7) (v := .bool true) rfl (by kernel_rfl) (by kernel_rfl) (by kernel_rfl) (fun _ _ _ h => h) (Or.inl ⟨by kernel_rfl, fun W hW => by kernel_rfl⟩) HS6.out ?_
      try simp only [List.getElem_toArray, List.getElem_cons_zero, List.getElem_cons_succ, Act.put, List.setIfInBounds_toArray, List.set_cons_zero, List.set_cons_succ, List.append_eq, List.cons_append, List.nil_append]
      refine wpAnyH_take (i := 8) (v := .bool false) rfl (by kernel_rfl) (by kernel_rfl) (by kernel_rfl) (fun _ _ _ h => h) (Or.inl ⟨by kernel_rfl, fun W hW => by kernel_rfl⟩) HS6.out ?_
      try simp only [List.getElem_toArray, List.getElem_cons_zero, List.getElem_cons_succ, Act.put, List.setIfInBounds_toArray, List.set_cons_zero, List.set_cons_succ, List.append_eq, List.cons_append, List.nil_append]
      refine wpAnyH_take (i := 9) (v := .bool false) rfl (by kernel_rfl) (by kernel_rfl) (by kernel_rfl) (fun _ _ _ h => h) (Or.inl ⟨by kernel_rfl, fun W hW => by kernel_rfl⟩) HS6.out ?_
      try simp only [List.getElem_toArray, List.getElem_cons_zero, List.getElem_cons_succ, Act.put, List.setIfInBounds_toArray, List.set_cons_zero, List.set_cons_succ, List.append_eq, List.cons_append, List.nil_append]
      refine wpAnyH_take (i := 10) (v := .bool false) rfl (by kernel_rfl) (by kernel_rfl) (by kernel_rfl) (fun _ _ _ h => h) (Or.inl ⟨by kernel_rfl, fun W hW => by kernel_rfl⟩) HS6.out ?_
      try simp only [List.getElem_toArray, List.getElem_cons_zero, List.getElem_cons_succ, Act.put, List.setIfInBounds_toArray, List.set_cons_zero, List.set_cons_succ, List.append_eq, List.cons_append, List.nil_append]
      refine wpAnyH_take (i := 11) (v := undef) rfl (by kernel_rfl) (by kernel_rfl) (by kernel_rfl) (fun _ _ _ h => h) (Or.inr ⟨by kernel_rfl, rfl⟩) HS6.out ?_
      try simp only [List.getElem_toArray, List.getElem_cons_zero, List.getElem_cons_succ, Act.put, List.setIfInBounds_toArray, List.set_cons_zero, List.set_cons_succ, List.append_eq, List.cons_append, List.nil_append]
      refine wpAnyH_take (i := 12) (v := .bool false) rfl (by kernel_rfl) (by kernel_rfl) (by kernel_rfl) (fun _ _ _ h => h) (Or.inl ⟨by kernel_rfl, fun W hW => by kernel_rfl⟩) HS6.out ?_
      try simp only [List.getElem_toArray, List.getElem_cons_zero, List.getElem_cons_succ, Act.put, List.setIfInBounds_toArray, List.set_cons_zero, List.set_cons_succ, List.append_eq, List.cons_append, List.nil_append]
      refine wpAnyH_take (i := 13) (v := .bool false) rfl (by kernel_rfl) (by kernel_rfl) (by kernel_rfl) (fun _ _ _ h => h) (Or.inl ⟨by kernel_rfl, fun W hW => by kernel_rfl⟩) HS6.out ?_
      try simp only [List.getElem_toArray, List.getElem_cons_zero, List.getElem_cons_succ, Act.put, List.setIfInBounds_toArray, List.set_cons_zero, List.set_cons_succ, List.append_eq, List.cons_append, List.nil_append]
      refine wpAnyH_take (i := 14) (v := undef) rfl (by kernel_rfl) (by kernel_rfl) (by kernel_rfl) (fun _ _ _ h => h) (Or.inr ⟨by kernel_rfl, rfl⟩) HS6.out ?_
      try simp only [List.getElem_toArray, List.getElem_cons_zero, List.getElem_cons_succ, Act.put, List.setIfInBounds_toArray, List.set_cons_zero, List.set_cons_succ, List.append_eq, List.cons_append, List.nil_append]
      refine wpAnyH_take (i := 15) (v := .bool false) rfl (by kernel_rfl) (by kernel_rfl) (by kernel_rfl) (fun _ _ _ h => h) (Or.inl ⟨by kernel_rfl, fun W hW => by kernel_rfl⟩) HS6.out ?_
      try simp only [List.getElem_toArray, List.getElem_cons_zero, List.getElem_cons_succ, Act.put, List.setIfInBounds_toArray, List.set_cons_zero, List.set_cons_succ, List.append_eq, List.cons_append, List.nil_append]
      refine wpAnyH_take (i := 16) (v := .bool false) rfl (by kernel_rfl) (by kernel_rfl) (by kernel_rfl) (fun _ _ _ h => h) (Or.inl ⟨by kernel_rfl, fun W hW => by kernel_rfl⟩) HS6.out ?_
      try simp only [List.getElem_toArray, List.getElem_cons_zero, List.getElem_cons_succ, Act.put, List.setIfInBounds_toArray, List.set_cons_zero, List.set_cons_succ, List.append_eq, List.cons_append, List.nil_append]
      refine wpAnyH_take (i := 17) (v := undef) rfl (by kernel_rfl) (by kernel_rfl) (by kernel_rfl) (fun _ _ _ h => h) (Or.inr ⟨by kernel_rfl, rfl⟩) HS6.out ?_
      try simp only [List.getElem_toArray, List.getElem_cons_zero, List.getElem_cons_succ, Act.put, List.setIfInBounds_toArray, List.set_cons_zero, List.set_cons_succ, List.append_eq, List.cons_append, List.nil_append]
      refine wpAnyH_take (i := 18) (v := .bool false) rfl (by kernel_rfl) (by kernel_rfl) (by kernel_rfl) (fun _ _ _ h => h) (Or.inl ⟨by kernel_rfl, fun W hW => by kernel_rfl⟩) HS6.out ?_
      try simp only [List.getElem_toArray, List.getElem_cons_zero, List.getElem_cons_succ, Act.put, List.setIfInBounds_toArray, List.set_cons_zero, List.set_cons_succ, List.append_eq, List.cons_append, List.nil_append]
      have HZ6 := Hid.mk2 (HZ5.out.below HB6.out)
      have HX6 := Hid.mk2 (HX5.out.below HB6.out)
      have z0 := HZ6.out.c 0 (by simp)
      have z1 := HZ6.out.c 1 (by simp)
      have z2 := HZ6.out.c 2 (by simp)
      have z3 := HZ6.out.c 3 (by simp)
      have z4 := HZ6.out.c 4 (by simp)
      simp only [List.getElem_cons_zero, List.getElem_cons_succ] at z0 z1 z2 z3 z4
      have zf0 := HZ6.out.f 0
      have zf1 := HZ6.out.f 1
      have zf2 := HZ6.out.f 2
      have zf3 := HZ6.out.f 3
      have zf4 := HZ6.out.f 4
      have HB7 := Hid.mk2 ((((((g_on HB5.out HB6.out).setCell (p := ⟨w.heap.size, 0, none⟩) (Nat.le_refl _) (.string k)).setCell (p := ⟨w.heap.size, 1, none⟩) (Nat.le_refl _) (.string ⟨#[]⟩)).setCell (p := ⟨w.heap.size, 2, none⟩) (Nat.le_refl _) (.int .u32 ((nf : Int) % 4294967296))).setCell (p := ⟨w.heap.size, 3, none⟩) (Nat.le_refl _) (.int .i64 (wrap64 (nt : Int)))).setCell (p := ⟨w.heap.size, 4, none⟩) (Nat.le_refl _) (.int .u64 (nu : Int)))
      have hneX : w.heap.size ≠ X4 := by have := HXZ.out; omega
      have HX7 := Hid.mk2 (((((HX6.out.other 0 (.string k) hneX).other 1 (.string ⟨#[]⟩) hneX).other 2 (.int .u32 ((nf : Int) % 4294967296)) hneX).other 3 (.int .i64 (wrap64 (nt : Int))) hneX).other 4 (.int .u64 (nu : Int)) hneX)
      have HZ7 := Hid.mk2 (((((HZ6.out.set 0 (.string k) (by simp)).set 1 (.string ⟨#[]⟩) (by simp)).set 2 (.int .u32 ((nf : Int) % 4294967296)) (by simp)).set 3 (.int .i64 (wrap64 (nt : Int))) (by simp)).set 4 (.int .u64 (nu : Int)) (by simp))
      have HS7 := Hid.mk2 (show _ ∧ _ ∧ _ ∧ _ ∧ _ ∧ _ from ⟨HX7.out.c 0 (by simp), HX7.out.c 1 (by simp), HX7.out.c 2 (by simp), HX7.out.c 3 (by simp), HX7.out.c 4 (by simp), (HC.out _ HB7.out).1⟩)
      refine wpAnyH_ready (rs := [19]) (by kernel_rfl) (by simp) ?_
      refine AllReadyH.cons rfl (fun K hK => ?_) AllReadyH.nil
      simp only [List.getElem_toArray, List.getElem_cons_zero, List.getElem_cons_succ]
      clear hneX
      go_simp
      refine hK.out _ _ HS7.out (fun _ => ?_)
      clear hK K
      try simp only [List.getElem_toArray, List.getElem_cons_zero, List.getElem_cons_succ, Act.put, List.setIfInBounds_toArray, List.set_cons_zero, List.set_cons_succ, List.append_eq, List.cons_append, List.nil_append]
      refine wpAnyH_take (i := 20) (v := .int .i64 (IntKind.i64.wrap (nv : Int))) rfl (by kernel_rfl) (by kernel_rfl) (by kernel_rfl) (fun _ _ _ h => h) (Or.inl ⟨by kernel_rfl, fun W hW => by kernel_rfl⟩) HS7.out ?_
      try simp only [List.getElem_toArray, List.getElem_cons_zero, List.getElem_cons_succ, Act.put, List.setIfInBounds_toArray, List.set_cons_zero, List.set_cons_succ, List.append_eq, List.cons_append, List.nil_append]
      refine wpAnyH_take (i := 21) (v := .bool false) rfl (by kernel_rfl) (by kernel_rfl) (by kernel_rfl) (fun _ _ _ h => h) (Or.inl ⟨by kernel_rfl, fun W hW => by kernel_rfl⟩) HS7.out ?_
      try simp only [List.getElem_toArray, List.getElem_cons_zero, List.getElem_cons_succ, Act.put, List.setIfInBounds_toArray, List.set_cons_zero, List.set_cons_succ, List.append_eq, List.cons_append, List.nil_append]
      refine wpAnyH_done (by kernel_rfl) ?_ _
      refine NoPanic.normal ?_
      go_wp2
      refine bodyPost_ret (res_cell3 rfl rfl (load_var HZ7.out 53 _ Tryd.underlying53 rfl item_info)) rfl ?_
      exact ⟨⟨⟨k, ⟨#[]⟩, _, _, _⟩, _, false, rfl, .inr ⟨rfl, by rw [HIT.out]; simp⟩⟩, HB7.out⟩
    | true =>
    cases BT with
    | false =>
      refine wp_region_noPanic ?_
      refine wp_region_held_drew (S := fun W => W.cell? ⟨X4, 0, none⟩ = some (.string k) ∧ W.cell? ⟨X4, 1, none⟩ = some (.string ⟨#[]⟩) ∧ W.cell? ⟨X4, 2, none⟩ = some (.int .u32 ((nf : Int) % 4294967296)) ∧ W.cell? ⟨X4, 3, none⟩ = some (.int .i64 (wrap64 (nt : Int))) ∧ W.cell? ⟨X4, 4, none⟩ = some (.int .u64 (nu : Int)) ∧ W.cell? ⟨b, off, none⟩ = some (.string k)) (by kernel_rfl) HS0.out (fun _ => ?_)
      refine wpAnyH_take (i := 0) (v := .agg #[.string k, .string ⟨#[]⟩, .int .u32 ((nf : Int) % 4294967296), .int .i64 (wrap64 (nt : Int)), .int .u64 (nu : Int)]) rfl (by kernel_rfl) (by kernel_rfl) (by kernel_rfl) (fun _ _ _ h => h) (Or.inl ⟨by kernel_rfl, fun W hW => by obtain ⟨m0, m1, m2, m3, m4, mc⟩ := hW; go_simp⟩) HS0.out ?_
      try simp only [List.getElem_toArray, List.getElem_cons_zero, List.getElem_cons_succ, Act.put, List.setIfInBounds_toArray, List.set_cons_zero, List.set_cons_succ, List.append_eq, List.cons_append, List.nil_append]
      refine wpAnyH_take (i := 1) (v := .int .u64 (nv : Int)) rfl (by kernel_rfl) (by kernel_rfl) (by kernel_rfl) (fun _ _ _ h => h) (Or.inl ⟨by kernel_rfl, fun W hW => by kernel_rfl⟩) HS0.out ?_
      try simp only [List.getElem_toArray, List.getElem_cons_zero, List.getElem_cons_succ, Act.put, List.setIfInBounds_toArray, List.set_cons_zero, List.set_cons_succ, List.append_eq, List.cons_append, List.nil_append]
      refine wpAnyH_take (i := 2) (v := .int .i64 (IntKind.i64.wrap (nv : Int))) rfl (by kernel_rfl) (by kernel_rfl) (by kernel_rfl) (fun _ _ _ h => h) (Or.inl ⟨by kernel_rfl, fun W hW => by go_simp⟩) HS0.out ?_
      try simp only [List.getElem_toArray, List.getElem_cons_zero, List.getElem_cons_succ, Act.put, List.setIfInBounds_toArray, List.set_cons_zero, List.set_cons_succ, List.append_eq, List.cons_append, List.nil_append]
      refine wpAnyH_take (i := 3) (v := .slice (some ⟨b, off, none⟩) 5 cap) rfl (by kernel_rfl) (by kernel_rfl) (by kernel_rfl) (fun _ _ _ h => h) (Or.inl ⟨by kernel_rfl, fun W hW => by kernel_rfl⟩) HS0.out ?_
      try simp only [List.getElem_toArray, List.getElem_cons_zero, List.getElem_cons_succ, Act.put, List.setIfInBounds_toArray, List.set_cons_zero, List.set_cons_succ, List.append_eq, List.cons_append, List.nil_append]
      refine wpAnyH_take (i := 4) (v := .pointer (some ⟨b, off, none⟩)) rfl (by kernel_rfl) (by kernel_rfl) (by kernel_rfl) (fun _ _ _ h => h) (Or.inl ⟨by kernel_rfl, fun W hW => by go_simp⟩) HS0.out ?_
      try simp only [List.getElem_toArray, List.getElem_cons_zero, List.getElem_cons_succ, Act.put, List.setIfInBounds_toArray, List.set_cons_zero, List.set_cons_succ, List.append_eq, List.cons_append, List.nil_append]
      refine wpAnyH_take (i := 5) (v := .string k) rfl (by kernel_rfl) (by kernel_rfl) (by kernel_rfl) (fun _ _ _ h => h) (Or.inl ⟨by kernel_rfl, fun W hW => by obtain ⟨m0, m1, m2, m3, m4, mc⟩ := hW; go_simp⟩) HS0.out ?_
      try simp only [List.getElem_toArray, List.getElem_cons_zero, List.getElem_cons_succ, Act.put, List.setIfInBounds_toArray, List.set_cons_zero, List.set_cons_succ, List.append_eq, List.cons_append, List.nil_append]
      refine wpAnyH_ready (rs := [6]) (by kernel_rfl) (by simp) ?_
      refine AllReadyH.cons rfl (fun K hK => ?_) AllReadyH.nil
      simp only [List.getElem_toArray, List.getElem_cons_zero, List.getElem_cons_succ]
      go_simp
      go_at_call 65
      refine (HK.out W5.drew).mono ?_
      rintro e w6 ⟨rfl, hb6⟩
      have HB6 := Hid.mk2 (g_on ((Below.refl W5.heap.size W5).drew) hb6)
      have HS6 := Hid.mk2 (HSS.out w6 HB6.out)
      refine hK.out _ _ HS6.out (fun _ => ?_)
      clear hK K hb6
      try simp only [List.getElem_toArray, List.getElem_cons_zero, List.getElem_cons_succ, Act.put, List.setIfInBounds_toArray, List.set_cons_zero, List.set_cons_succ, List.append_eq, List.cons_append, List.nil_append]
      refine wpAnyH_take (i := 7) (v := .bool true) rfl (by kernel_rfl) (by kernel_rfl) (by kernel_rfl) (fun _ _ _ h => h) (Or.inl ⟨by kernel_rfl, fun W hW => by kernel_rfl⟩) HS6.out ?_
      try simp only [List.getElem_toArray, List.getElem_cons_zero, List.getElem_cons_succ, Act.put, List.setIfInBounds_toArray, List.set_cons_zero, List.set_cons_succ, List.append_eq, List.cons_append, List.nil_append]
      refine wpAnyH_take (i := 8) (v := .bool true) rfl (by kernel_rfl) (by kernel_rfl) (by kernel_rfl) (fun _ _ _ h => h) (Or.inl ⟨by kernel_rfl, fun W hW => by kernel_rfl⟩) HS6.out ?_
      try simp only [List.getElem_toArray, List.getElem_cons_zero, List.getElem_cons_succ, Act.put, List.setIfInBounds_toArray, List.set_cons_zero, List.set_cons_succ, List.append_eq, List.cons_append, List.nil_append]
      refine wpAnyH_take (i := 9) (v := .bool true) rfl (by kernel_rfl) (by kernel_rfl) (by kernel_rfl) (fun _ _ _ h => h) (Or.inl ⟨by kernel_rfl, fun W hW => by kernel_rfl⟩) HS6.out ?_
      try simp only [List.getElem_toArray, List.getElem_cons_zero, List.getElem_cons_succ, Act.put, List.setIfInBounds_toArray, List.set_cons_zero, List.set_cons_succ, List.append_eq, List.cons_append, List.nil_append]
      refine wpAnyH_take (i := 10) (v := .bool true) rfl (by kernel_rfl) (by kernel_rfl) (by kernel_rfl) (fun _ _ _ h => h) (Or.inl ⟨by kernel_rfl, fun W hW => by kernel_rfl⟩) HS6.out ?_
      try simp only [List.getElem_toArray, List.getElem_cons_zero, List.getElem_cons_succ, Act.put, List.setIfInBounds_toArray, List.set_cons_zero, List.set_cons_succ, List.append_eq, List.cons_append, List.nil_append]
      refine wpAnyH_take (i := 11) (v := .bool false) rfl (by kernel_rfl) (by kernel_rfl) (by kernel_rfl) (fun _ _ _ h => h) (Or.inl ⟨by kernel_rfl, fun W hW => by kernel_rfl⟩) HS6.out ?_
      try simp only [List.getElem_toArray, List.getElem_cons_zero, List.getElem_cons_succ, Act.put, List.setIfInBounds_toArray, List.set_cons_zero, List.set_cons_succ, List.append_eq, List.cons_append, List.nil_append]
      refine wpAnyH_take (i := 12) (v := .bool false) rfl (by kernel_rfl) (by kernel_rfl) (by kernel_rfl) (fun _ _ _ h => h) (Or.inl ⟨by kernel_rfl, fun W hW => by kernel_rfl⟩) HS6.out ?_
      try simp only [List.getElem_toArray, List.getElem_cons_zero, List.getElem_cons_succ, Act.put, List.setIfInBounds_toArray, List.set_cons_zero, List.set_cons_succ, List.append_eq, List.cons_append, List.nil_append]
      refine wpAnyH_take (i := 13) (v := .bool false) rfl (by kernel_rfl) (by kernel_rfl) (by kernel_rfl) (fun _ _ _ h => h) (Or.inl ⟨by kernel_rfl, fun W hW => by kernel_rfl⟩) HS6.out ?_
      try simp only [List.getElem_toArray, List.getElem_cons_zero, List.getElem_cons_succ, Act.put, List.setIfInBounds_toArray, List.set_cons_zero, List.set_cons_succ, List.append_eq, List.cons_append, List.nil_append]
      refine wpAnyH_take (i := 14) (v := undef) rfl (by kernel_rfl) (by kernel_rfl) (by kernel_rfl) (fun _ _ _ h => h) (Or.inr ⟨by kernel_rfl, rfl⟩) HS6.out ?_
      try simp only [List.getElem_toArray, List.getElem_cons_zero, List.getElem_cons_succ, Act.put, List.setIfInBounds_toArray, List.set_cons_zero, List.set_cons_succ, List.append_eq, List.cons_append, List.nil_append]
      refine wpAnyH_take (i := 15) (v := .bool false) rfl (by kernel_rfl) (by kernel_rfl) (by kernel_rfl) (fun _ _ _ h => h) (Or.inl ⟨by kernel_rfl, fun W hW => by kernel_rfl⟩) HS6.out ?_
      try simp only [List.getElem_toArray, List.getElem_cons_zero, List.getElem_cons_succ, Act.put, List.setIfInBounds_toArray, List.set_cons_zero, List.set_cons_succ, List.append_eq, List.cons_append, List.nil_append]
      refine wpAnyH_take (i := 16) (v := .bool false) rfl (by kernel_rfl) (by kernel_rfl) (by kernel_rfl) (fun _ _ _ h => h) (Or.inl ⟨by kernel_rfl, fun W hW => by kernel_rfl⟩) HS6.out ?_
      try simp only [List.getElem_toArray, List.getElem_cons_zero, List.getElem_cons_succ, Act.put, List.setIfInBounds_toArray, List.set_cons_zero, List.set_cons_succ, List.append_eq, List.cons_append, List.nil_append]
      refine wpAnyH_take (i := 17) (v := undef) rfl (by kernel_rfl) (by kernel_rfl) (by kernel_rfl) (fun _ _ _ h => h) (Or.inr ⟨by kernel_rfl, rfl⟩) HS6.out ?_
      try simp only [List.getElem_toArray, List.getElem_cons_zero, List.getElem_cons_succ, Act.put, List.setIfInBounds_toArray, List.set_cons_zero, List.set_cons_succ, List.append_eq, List.cons_append, List.nil_append]
      refine wpAnyH_take (i := 18) (v := .bool false) rfl (by kernel_rfl) (by kernel_rfl) (by kernel_rfl) (fun _ _ _ h => h) (Or.inl ⟨by kernel_rfl, fun W hW => by kernel_rfl⟩) HS6.out ?_
      try simp only [List.getElem_toArray, List.getElem_cons_zero, List.getElem_cons_succ, Act.put, List.setIfInBounds_toArray, List.set_cons_zero, List.set_cons_succ, List.append_eq, List.cons_append, List.nil_append]
      have HZ6 := Hid.mk2 (HZ5.out.below HB6.out)
      have HX6 := Hid.mk2 (HX5.out.below HB6.out)
      have z0 := HZ6.out.c 0 (by simp)
      have z1 := HZ6.out.c 1 (by simp)
      have z2 := HZ6.out.c 2 (by simp)
      have z3 := HZ6.out.c 3 (by simp)
      have z4 := HZ6.out.c 4 (by simp)
      simp only [List.getElem_cons_zero, List.getElem_cons_succ] at z0 z1 z2 z3 z4
      have zf0 := HZ6.out.f 0
      have zf1 := HZ6.out.f 1
      have zf2 := HZ6.out.f 2
      have zf3 := HZ6.out.f 3
      have zf4 := HZ6.out.f 4
      have HB7 := Hid.mk2 ((((((g_on HB5.out HB6.out).setCell (p := ⟨w.heap.size, 0, none⟩) (Nat.le_refl _) (.string k)).setCell (p := ⟨w.heap.size, 1, none⟩) (Nat.le_refl _) (.string ⟨#[]⟩)).setCell (p := ⟨w.heap.size, 2, none⟩) (Nat.le_refl _) (.int .u32 ((nf : Int) % 4294967296))).setCell (p := ⟨w.heap.size, 3, none⟩) (Nat.le_refl _) (.int .i64 (wrap64 (nt : Int)))).setCell (p := ⟨w.heap.size, 4, none⟩) (Nat.le_refl _) (.int .u64 (nu : Int)))
      have hneX : w.heap.size ≠ X4 := by have := HXZ.out; omega
      have HX7 := Hid.mk2 (((((HX6.out.other 0 (.string k) hneX).other 1 (.string ⟨#[]⟩) hneX).other 2 (.int .u32 ((nf : Int) % 4294967296)) hneX).other 3 (.int .i64 (wrap64 (nt : Int))) hneX).other 4 (.int .u64 (nu : Int)) hneX)
      have HZ7 := Hid.mk2 (((((HZ6.out.set 0 (.string k) (by simp)).set 1 (.string ⟨#[]⟩) (by simp)).set 2 (.int .u32 ((nf : Int) % 4294967296)) (by simp)).set 3 (.int .i64 (wrap64 (nt : Int))) (by simp)).set 4 (.int .u64 (nu : Int)) (by simp))
      have HS7 := Hid.mk2 (show _ ∧ _ ∧ _ ∧ _ ∧ _ ∧ _ from ⟨HX7.out.c 0 (by simp), HX7.out.c 1 (by simp), HX7.out.c 2 (by simp), HX7.out.c 3 (by simp), HX7.out.c 4 (by simp), (HC.out _ HB7.out).1⟩)
      refine wpAnyH_ready (rs := [19]) (by kernel_rfl) (by simp) ?_
      refine AllReadyH.cons rfl (fun K hK => ?_) AllReadyH.nil
      simp only [List.getElem_toArray, List.getElem_cons_zero, List.getElem_cons_succ]
      clear hneX
      go_simp
      refine hK.out _ _ HS7.out (fun _ => ?_)
      clear hK K
      try simp only [List.getElem_toArray, List.getElem_cons_zero, List.getElem_cons_succ, Act.put, List.setIfInBounds_toArray, List.set_cons_zero, List.set_cons_succ, List.append_eq, List.cons_append, List.nil_append]
      refine wpAnyH_take (i := 20) (v := .int .i64 (IntKind.i64.wrap (nv : Int))) rfl (by kernel_rfl) (by kernel_rfl) (by kernel_rfl) (fun _ _ _ h => h) (Or.inl ⟨by kernel_rfl, fun W hW => by kernel_rfl⟩) HS7.out ?_
      try simp only [List.getElem_toArray, List.getElem_cons_zero, List.getElem_cons_succ, Act.put, List.setIfInBounds_toArray, List.set_cons_zero, List.set_cons_succ, List.append_eq, List.cons_append, List.nil_append]
      refine wpAnyH_take (i := 21) (v := .bool false) rfl (by kernel_rfl) (by kernel_rfl) (by kernel_rfl) (fun _ _ _ h => h) (Or.inl ⟨by kernel_rfl, fun W hW => by kernel_rfl⟩) HS7.out ?_
      try simp only [List.getElem_toArray, List.getElem_cons_zero, List.getElem_cons_succ, Act.put, List.setIfInBounds_toArray, List.set_cons_zero, List.set_cons_succ, List.append_eq, List.cons_append, List.nil_append]
      refine wpAnyH_done (by kernel_rfl) ?_ _
      refine NoPanic.normal ?_
      go_wp2
      refine bodyPost_ret (res_cell3 rfl rfl (load_var HZ7.out 53 _ Tryd.underlying53 rfl item_info)) rfl ?_
      exact ⟨⟨⟨k, ⟨#[]⟩, _, _, _⟩, _, false, rfl, .inr ⟨rfl, by rw [HIT.out]; simp⟩⟩, HB7.out⟩
    | true =>
    cases BU with
    | false =>
      refine wp_region_noPanic ?_
      refine wp_region_held_drew (S := fun W => W.cell? ⟨X4, 0, none⟩ = some (.string k) ∧ W.cell? ⟨X4, 1, none⟩ = some (.string ⟨#[]⟩) ∧ W.cell? ⟨X4, 2, none⟩ = some (.int .u32 ((nf : Int) % 4294967296)) ∧ W.cell? ⟨X4, 3, none⟩ = some (.int .i64 (wrap64 (nt : Int))) ∧ W.cell? ⟨X4, 4, none⟩ = some (.int .u64 (nu : Int)) ∧ W.cell? ⟨b, off, none⟩ = some (.string k)) (by kernel_rfl) HS0.out (fun _ => ?_)
      refine wpAnyH_take (i := 0) (v := .agg #[.string k, .string ⟨#[]⟩, .int .u32 ((nf : Int) % 4294967296), .int .i64 (wrap64 (nt : Int)), .int .u64 (nu : Int)]) rfl (by kernel_rfl) (by kernel_rfl) (by kernel_rfl) (fun _ _ _ h => h) (Or.inl ⟨by kernel_rfl, fun W hW => by obtain ⟨m0, m1, m2, m3, m4, mc⟩ := hW; go_simp⟩) HS0.out ?_
      try simp only [List.getElem_toArray, List.getElem_cons_zero, List.getElem_cons_succ, Act.put, List.setIfInBounds_toArray, List.set_cons_zero, List.set_cons_succ, List.append_eq, List.cons_append, List.nil_append]
      refine wpAnyH_take (i := 1) (v := .int .u64 (nv : Int)) rfl (by kernel_rfl) (by kernel_rfl) (by kernel_rfl) (fun _ _ _ h => h) (Or.inl ⟨by kernel_rfl, fun W hW => by kernel_rfl⟩) HS0.out ?_
      try simp only [List.getElem_toArray, List.getElem_cons_zero, List.getElem_cons_succ, Act.put, List.setIfInBounds_toArray, List.set_cons_zero, List.set_cons_succ, List.append_eq, List.cons_append, List.nil_append]
      refine wpAnyH_take (i := 2) (v := .int .i64 (IntKind.i64.wrap (nv : Int))) rfl (by kernel_rfl) (by kernel_rfl) (by kernel_rfl) (fun _ _ _ h => h) (Or.inl ⟨by kernel_rfl, fun W hW => by go_simp⟩) HS0.out ?_
      try simp only [List.getElem_toArray, List.getElem_cons_zero, List.getElem_cons_succ, Act.put, List.setIfInBounds_toArray, List.set_cons_zero, List.set_cons_succ, List.append_eq, List.cons_append, List.nil_append]
      refine wpAnyH_take (i := 3) (v := .slice (some ⟨b, off, none⟩) 5 cap) rfl (by kernel_rfl) (by kernel_rfl) (by kernel_rfl) (fun _ _ _ h => h) (Or.inl ⟨by kernel_rfl, fun W hW => by kernel_rfl⟩) HS0.out ?_
      try simp only [List.getElem_toArray, List.getElem_cons_zero, List.getElem_cons_succ, Act.put, List.setIfInBounds_toArray, List.set_cons_zero, List.set_cons_succ, List.append_eq, List.cons_append, List.nil_append]
      refine wpAnyH_take (i := 4) (v := .pointer (some ⟨b, off, none⟩)) rfl (by kernel_rfl) (by kernel_rfl) (by kernel_rfl) (fun _ _ _ h => h) (Or.inl ⟨by kernel_rfl, fun W hW => by go_simp⟩) HS0.out ?_
      try simp only [List.getElem_toArray, List.getElem_cons_zero, List.getElem_cons_succ, Act.put, List.setIfInBounds_toArray, List.set_cons_zero, List.set_cons_succ, List.append_eq, List.cons_append, List.nil_append]
      refine wpAnyH_take (i := 5) (v := .string k) rfl (by kernel_rfl) (by kernel_rfl) (by kernel_rfl) (fun _ _ _ h => h) (Or.inl ⟨by kernel_rfl, fun W hW => by obtain ⟨m0, m1, m2, m3, m4, mc⟩ := hW; go_simp⟩) HS0.out ?_
      try simp only [List.getElem_toArray, List.getElem_cons_zero, List.getElem_cons_succ, Act.put, List.setIfInBounds_toArray, List.set_cons_zero, List.set_cons_succ, List.append_eq, List.cons_append, List.nil_append]
      refine wpAnyH_ready (rs := [6]) (by kernel_rfl) (by simp) ?_
      refine AllReadyH.cons rfl (fun K hK => ?_) AllReadyH.nil
      simp only [List.getElem_toArray, List.getElem_cons_zero, List.getElem_cons_succ]
      go_simp
      go_at_call 65
      refine (HK.out W5.drew).mono ?_
      rintro e w6 ⟨rfl, hb6⟩
      have HB6 := Hid.mk2 (g_on ((Below.refl W5.heap.size W5).drew) hb6)
      have HS6 := Hid.mk2 (HSS.out w6 HB6.out)
      refine hK.out _ _ HS6.out (fun _ => ?_)
      clear hK K hb6
      try simp only [List.getElem_toArray, List.getElem_cons_zero, List.getElem_cons_succ, Act.put, List.setIfInBounds_toArray, List.set_cons_zero, List.set_cons_succ, List.append_eq, List.cons_append, List.nil_append]
      refine wpAnyH_take (i := 7) (v := .bool true) rfl (by kernel_rfl) (by kernel_rfl) (by kernel_rfl) (fun _ _ _ h => h) (Or.inl ⟨by kernel_rfl, fun W hW => by kernel_rfl⟩) HS6.out ?_
      try simp only [List.getElem_toArray, List.getElem_cons_zero, List.getElem_cons_succ, Act.put, List.setIfInBounds_toArray, List.set_cons_zero, List.set_cons_succ, List.append_eq, List.cons_append, List.nil_append]
      refine wpAnyH_take (i := 8) (v := .bool true) rfl (by kernel_rfl) (by kernel_rfl) (by kernel_rfl) (fun _ _ _ h => h) (Or.inl ⟨by kernel_rfl, fun W hW => by kernel_rfl⟩) HS6.out ?_
      try simp only [List.getElem_toArray, List.getElem_cons_zero, List.getElem_cons_succ, Act.put, List.setIfInBounds_toArray, List.set_cons_zero, List.set_cons_succ, List.append_eq, List.cons_append, List.nil_append]
      refine wpAnyH_take (i := 9) (v := .bool true) rfl (by kernel_rfl) (by kernel_rfl) (by kernel_rfl) (fun _ _ _ h => h) (Or.inl ⟨by kernel_rfl, fun W hW => by kernel_rfl⟩) HS6.out ?_
      try simp only [List.getElem_toArray, List.getElem_cons_zero, List.getElem_cons_succ, Act.put, List.setIfInBounds_toArray, List.set_cons_zero, List.set_cons_succ, List.append_eq, List.cons_append, List.nil_append]
      refine wpAnyH_take (i := 10) (v := .bool true) rfl (by kernel_rfl) (by kernel_rfl) (by kernel_rfl) (fun _ _ _ h => h) (Or.inl ⟨by kernel_rfl, fun W hW => by kernel_rfl⟩) HS6.out ?_
      try simp only [List.getElem_toArray, List.getElem_cons_zero, List.getElem_cons_succ, Act.put, List.setIfInBounds_toArray, List.set_cons_zero, List.set_cons_succ, List.append_eq, List.cons_append, List.nil_append]
      refine wpAnyH_take (i := 11) (v := .bool true) rfl (by kernel_rfl) (by kernel_rfl) (by kernel_rfl) (fun _ _ _ h => h) (Or.inl ⟨by kernel_rfl, fun W hW => by kernel_rfl⟩) HS6.out ?_
      try simp only [List.getElem_toArray, List.getElem_cons_zero, List.getElem_cons_succ, Act.put, List.setIfInBounds_toArray, List.set_cons_zero, List.set_cons_succ, List.append_eq, List.cons_append, List.nil_append]
      refine wpAnyH_take (i := 12) (v := .bool true) rfl (by kernel_rfl) (by kernel_rfl) (by kernel_rfl) (fun _ _ _ h => h) (Or.inl ⟨by kernel_rfl, fun W hW => by kernel_rfl⟩) HS6.out ?_
      try simp only [List.getElem_toArray, List.getElem_cons_zero, List.getElem_cons_succ, Act.put, List.setIfInBounds_toArray, List.set_cons_zero, List.set_cons_succ, List.append_eq, List.cons_append, List.nil_append]
      refine wpAnyH_take (i := 13) (v := .bool true) rfl (by kernel_rfl) (by kernel_rfl) (by kernel_rfl) (fun _ _ _ h => h) (Or.inl ⟨by kernel_rfl, fun W hW => by kernel_rfl⟩) HS6.out ?_
      try simp only [List.getElem_toArray, List.getElem_cons_zero, List.getElem_cons_succ, Act.put, List.setIfInBounds_toArray, List.set_cons_zero, List.set_cons_succ, List.append_eq, List.cons_append, List.nil_append]
      refine wpAnyH_take (i := 14) (v := .bool false) rfl (by kernel_rfl) (by kernel_rfl) (by kernel_rfl) (fun _ _ _ h => h) (Or.inl ⟨by kernel_rfl, fun W hW => by kernel_rfl⟩) HS6.out ?_
      try simp only [List.getElem_toArray, List.getElem_cons_zero, List.getElem_cons_succ, Act.put, List.setIfInBounds_toArray, List.set_cons_zero, List.set_cons_succ, List.append_eq, List.cons_append, List.nil_append]
      refine wpAnyH_take (i := 15) (v := .bool false) rfl (by kernel_rfl) (by kernel_rfl) (by kernel_rfl) (fun _ _ _ h => h) (Or.inl ⟨by kernel_rfl, fun W hW => by kernel_rfl⟩) HS6.out ?_
      try simp only [List.getElem_toArray, List.getElem_cons_zero, List.getElem_cons_succ, Act.put, List.setIfInBounds_toArray, List.set_cons_zero, List.set_cons_succ, List.append_eq, List.cons_append, List.nil_append]
      refine wpAnyH_take (i := 16) (v := .bool false) rfl (by kernel_rfl) (by kernel_rfl) (by kernel_rfl) (fun _ _ _ h => h) (Or.inl ⟨by kernel_rfl, fun W hW => by kernel_rfl⟩) HS6.out ?_
      try simp only [List.getElem_toArray, List.getElem_cons_zero, List.getElem_cons_succ, Act.put, List.setIfInBounds_toArray, List.set_cons_zero, List.set_cons_succ, List.append_eq, List.cons_append, List.nil_append]
      refine wpAnyH_take (i := 17) (v := undef) rfl (by kernel_rfl) (by kernel_rfl) (by kernel_rfl) (fun _ _ _ h => h) (Or.inr ⟨by kernel_rfl, rfl⟩) HS6.out ?_
      try simp only [List.getElem_toArray, List.getElem_cons_zero, List.getElem_cons_succ, Act.put, List.setIfInBounds_toArray, List.set_cons_zero, List.set_cons_succ, List.append_eq, List.cons_append, List.nil_append]
      refine wpAnyH_take (i := 18) (v := .bool false) rfl (by kernel_rfl) (by kernel_rfl) (by kernel_rfl) (fun _ _ _ h => h) (Or.inl ⟨by kernel_rfl, fun W hW => by kernel_rfl⟩) HS6.out ?_
      try simp only [List.getElem_toArray, List.getElem_cons_zero, List.getElem_cons_succ, Act.put, List.setIfInBounds_toArray, List.set_cons_zero, List.set_cons_succ, List.append_eq, List.cons_append, List.nil_append]
      have HZ6 := Hid.mk2 (HZ5.out.below HB6.out)
      have HX6 := Hid.mk2 (HX5.out.below HB6.out)
      have z0 := HZ6.out.c 0 (by simp)
      have z1 := HZ6.out.c 1 (by simp)
      have z2 := HZ6.out.c 2 (by simp)
      have z3 := HZ6.out.c 3 (by simp)
      have z4 := HZ6.out.c 4 (by simp)
      simp only [List.getElem_cons_zero, List.getElem_cons_succ] at z0 z1 z2 z3 z4
      have zf0 := HZ6.out.f 0
      have zf1 := HZ6.out.f 1
      have zf2 := HZ6.out.f 2
      have zf3 := HZ6.out.f 3
      have zf4 := HZ6.out.f 4
      have HB7 := Hid.mk2 ((((((g_on HB5.out HB6.out).setCell (p := ⟨w.heap.size, 0, none⟩) (Nat.le_refl _) (.string k)).setCell (p := ⟨w.heap.size, 1, none⟩) (Nat.le_refl _) (.string ⟨#[]⟩)).setCell (p := ⟨w.heap.size, 2, none⟩) (Nat.le_refl _) (.int .u32 ((nf : Int) % 4294967296))).setCell (p := ⟨w.heap.size, 3, none⟩) (Nat.le_refl _) (.int .i64 (wrap64 (nt : Int)))).setCell (p := ⟨w.heap.size, 4, none⟩) (Nat.le_refl _) (.int .u64 (nu : Int)))
      have hneX : w.heap.size ≠ X4 := by have := HXZ.out; omega
      have HX7 := Hid.mk2 (((((HX6.out.other 0 (.string k) hneX).other 1 (.string ⟨#[]⟩) hneX).other 2 (.int .u32 ((nf : Int) % 4294967296)) hneX).other 3 (.int .i64 (wrap64 (nt : Int))) hneX).other 4 (.int .u64 (nu : Int)) hneX)
      have HZ7 := Hid.mk2 (((((HZ6.out.set 0 (.string k) (by simp)).set 1 (.string ⟨#[]⟩) (by simp)).set 2 (.int .u32 ((nf : Int) % 4294967296)) (by simp)).set 3 (.int .i64 (wrap64 (nt : Int))) (by simp)).set 4 (.int .u64 (nu : Int)) (by simp))
      have HS7 := Hid.mk2 (show _ ∧ _ ∧ _ ∧ _ ∧ _ ∧ _ from ⟨HX7.out.c 0 (by simp), HX7.out.c 1 (by simp), HX7.out.c 2 (by simp), HX7.out.c 3 (by simp), HX7.out.c 4 (by simp), (HC.out _ HB7.out).1⟩)
      refine wpAnyH_ready (rs := [19]) (by kernel_rfl) (by simp) ?_
      refine AllReadyH.cons rfl (fun K hK => ?_) AllReadyH.nil
      simp only [List.getElem_toArray, List.getElem_cons_zero, List.getElem_cons_succ]
      clear hneX
      go_simp
      refine hK.out _ _ HS7.out (fun _ => ?_)
      clear hK K
      try simp only [List.getElem_toArray, List.getElem_cons_zero, List.getElem_cons_succ, Act.put, List.setIfInBounds_toArray, List.set_cons_zero, List.set_cons_succ, List.append_eq, List.cons_append, List.nil_append]
      refine wpAnyH_take (i := 20) (v := .int .i64 (IntKind.i64.wrap (nv : Int))) rfl (by kernel_rfl) (by kernel_rfl) (by kernel_rfl) (fun _ _ _ h => h) (Or.inl ⟨by kernel_rfl, fun W hW => by kernel_rfl⟩) HS7.out ?_
      try simp only [List.getElem_toArray, List.getElem_cons_zero, List.getElem_cons_succ, Act.put, List.setIfInBounds_toArray, List.set_cons_zero, List.set_cons_succ, List.append_eq, List.cons_append, List.nil_append]
      refine wpAnyH_take (i := 21) (v := .bool false) rfl (by kernel_rfl) (by kernel_rfl) (by kernel_rfl) (fun _ _ _ h => h) (Or.inl ⟨by kernel_rfl, fun W hW => by kernel_rfl⟩) HS7.out ?_
      try simp only [List.getElem_toArray, List.getElem_cons_zero, List.getElem_cons_succ, Act.put, List.setIfInBounds_toArray, List.set_cons_zero, List.set_cons_succ, List.append_eq, List.cons_append, List.nil_append]
      refine wpAnyH_done (by kernel_rfl) ?_ _
      refine NoPanic.normal ?_
      go_wp2
      refine bodyPost_ret (res_cell3 rfl rfl (load_var HZ7.out 53 _ Tryd.underlying53 rfl item_info)) rfl ?_
      exact ⟨⟨⟨k, ⟨#[]⟩, _, _, _⟩, _, false, rfl, .inr ⟨rfl, by rw [HIT.out]; simp⟩⟩, HB7.out⟩
    | true =>
      refine wp_region_noPanic ?_
      refine wp_region_held_drew (S := fun W => W.cell? ⟨X4, 0, none⟩ = some (.string k) ∧ W.cell? ⟨X4, 1, none⟩ = some (.string ⟨#[]⟩) ∧ W.cell? ⟨X4, 2, none⟩ = some (.int .u32 ((nf : Int) % 4294967296)) ∧ W.cell? ⟨X4, 3, none⟩ = some (.int .i64 (wrap64 (nt : Int))) ∧ W.cell? ⟨X4, 4, none⟩ = some (.int .u64 (nu : Int)) ∧ W.cell? ⟨b, off, none⟩ = some (.string k)) (by kernel_rfl) HS0.out (fun _ => ?_)
      refine wpAnyH_take (i := 0) (v := .agg #[.string k, .string ⟨#[]⟩, .int .u32 ((nf : Int) % 4294967296), .int .i64 (wrap64 (nt : Int)), .int .u64 (nu : Int)]) rfl (by kernel_rfl) (by kernel_rfl) (by kernel_rfl) (fun _ _ _ h => h) (Or.inl ⟨by kernel_rfl, fun W hW => by obtain ⟨m0, m1, m2, m3, m4, mc⟩ := hW; go_simp⟩) HS0.out ?_
      try simp only [List.getElem_toArray, List.getElem_cons_zero, List.getElem_cons_succ, Act.put, List.setIfInBounds_toArray, List.set_cons_zero, List.set_cons_succ, List.append_eq, List.cons_append, List.nil_append]
      refine wpAnyH_take (i := 1) (v := .int .u64 (nv : Int)) rfl (by kernel_rfl) (by kernel_rfl) (by kernel_rfl) (fun _ _ _ h => h) (Or.inl ⟨by kernel_rfl, fun W hW => by kernel_rfl⟩) HS0.out ?_
      try simp only [List.getElem_toArray, List.getElem_cons_zero, List.getElem_cons_succ, Act.put, List.setIfInBounds_toArray, List.set_cons_zero, List.set_cons_succ, List.append_eq, List.cons_append, List.nil_append]
      refine wpAnyH_take (i := 2) (v := .int .i64 (IntKind.i64.wrap (nv : Int))) rfl (by kernel_rfl) (by kernel_rfl) (by kernel_rfl) (fun _ _ _ h => h) (Or.inl ⟨by kernel_rfl, fun W hW => by go_simp⟩) HS0.out ?_
      try simp only [List.getElem_toArray, List.getElem_cons_zero, List.getElem_cons_succ, Act.put, List.setIfInBounds_toArray, List.set_cons_zero, List.set_cons_succ, List.append_eq, List.cons_append, List.nil_append]
      refine wpAnyH_take (i := 3) (v := .slice (some ⟨b, off, none⟩) 5 cap) rfl (by kernel_rfl) (by kernel_rfl) (by kernel_rfl) (fun _ _ _ h => h) (Or.inl ⟨by kernel_rfl, fun W hW => by kernel_rfl⟩) HS0.out ?_
      try simp only [List.getElem_toArray, List.getElem_cons_zero, List.getElem_cons_succ, Act.put, List.setIfInBounds_toArray, List.set_cons_zero, List.set_cons_succ, List.append_eq, List.cons_append, List.nil_append]
      refine wpAnyH_take (i := 4) (v := .pointer (some ⟨b, off, none⟩)) rfl (by kernel_rfl) (by kernel_rfl) (by kernel_rfl) (fun _ _ _ h => h) (Or.inl ⟨by kernel_rfl, fun W hW => by go_simp⟩) HS0.out ?_
      try simp only [List.getElem_toArray, List.getElem_cons_zero, List.getElem_cons_succ, Act.put, List.setIfInBounds_toArray, List.set_cons_zero, List.set_cons_succ, List.append_eq, List.cons_append, List.nil_append]
      refine wpAnyH_take (i := 5) (v := .string k) rfl (by kernel_rfl) (by kernel_rfl) (by kernel_rfl) (fun _ _ _ h => h) (Or.inl ⟨by kernel_rfl, fun W hW => by obtain ⟨m0, m1, m2, m3, m4, mc⟩ := hW; go_simp⟩) HS0.out ?_
      try simp only [List.getElem_toArray, List.getElem_cons_zero, List.getElem_cons_succ, Act.put, List.setIfInBounds_toArray, List.set_cons_zero, List.set_cons_succ, List.append_eq, List.cons_append, List.nil_append]
      refine wpAnyH_ready (rs := [6]) (by kernel_rfl) (by simp) ?_
      refine AllReadyH.cons rfl (fun K hK => ?_) AllReadyH.nil
      simp only [List.getElem_toArray, List.getElem_cons_zero, List.getElem_cons_succ]
      go_simp
      go_at_call 65
      refine (HK.out W5.drew).mono ?_
      rintro e w6 ⟨rfl, hb6⟩
      have HB6 := Hid.mk2 (g_on ((Below.refl W5.heap.size W5).drew) hb6)
      have HS6 := Hid.mk2 (HSS.out w6 HB6.out)
      refine hK.out _ _ HS6.out (fun _ => ?_)
      clear hK K hb6
      try simp only [List.getElem_toArray, List.getElem_cons_zero, List.getElem_cons_succ, Act.put, List.setIfInBounds_toArray, List.set_cons_zero, List.set_cons_succ, List.append_eq, List.cons_append, List.nil_append]
      refine wpAnyH_take (i := 7) (v := .bool true) rfl (by kernel_rfl) (by kernel_rfl) (by kernel_rfl) (fun _ _ _ h => h) (Or.inl ⟨by kernel_rfl, fun W hW => by kernel_rfl⟩) HS6.out ?_
      try simp only [List.getElem_toArray, List.getElem_cons_zero, List.getElem_cons_succ, Act.put, List.setIfInBounds_toArray, List.set_cons_zero, List.set_cons_succ, List.append_eq, List.cons_append, List.nil_append]
      refine wpAnyH_take (i := 8) (v := .bool true) rfl (by kernel_rfl) (by kernel_rfl) (by kernel_rfl) (fun _ _ _ h => h) (Or.inl ⟨by kernel_rfl, fun W hW => by kernel_rfl⟩) HS6.out ?_
      try simp only [List.getElem_toArray, List.getElem_cons_zero, List.getElem_cons_succ, Act.put, List.setIfInBounds_toArray, List.set_cons_zero, List.set_cons_succ, List.append_eq, List.cons_append, List.nil_append]
      refine wpAnyH_take (i := 9) (v := .bool true) rfl (by kernel_rfl) (by kernel_rfl) (by kernel_rfl) (fun _ _ _ h => h) (Or.inl ⟨by kernel_rfl, fun W hW => by kernel_rfl⟩) HS6.out ?_
      try simp only [List.getElem_toArray, List.getElem_cons_zero, List.getElem_cons_succ, Act.put, List.setIfInBounds_toArray, List.set_cons_zero, List.set_cons_succ, List.append_eq, List.cons_append, List.nil_append]
      refine wpAnyH_take (i := 10) (v := .bool true) rfl (by kernel_rfl) (by kernel_rfl) (by kernel_rfl) (fun _ _ _ h => h) (Or.inl ⟨by kernel_rfl, fun W hW => by kernel_rfl⟩) HS6.out ?_
      try simp only [List.getElem_toArray, List.getElem_cons_zero, List.getElem_cons_succ, Act.put, List.setIfInBounds_toArray, List.set_cons_zero, List.set_cons_succ, List.append_eq, List.cons_append, List.nil_append]
      refine wpAnyH_take (i := 11) (v := .bool true) rfl (by kernel_rfl) (by kernel_rfl) (by kernel_rfl) (fun _ _ _ h => h) (Or.inl ⟨by kernel_rfl, fun W hW => by kernel_rfl⟩) HS6.out ?_
      try simp only [List.getElem_toArray, List.getElem_cons_zero, List.getElem_cons_succ, Act.put, List.setIfInBounds_toArray, List.set_cons_zero, List.set_cons_succ, List.append_eq, List.cons_append, List.nil_append]
      refine wpAnyH_take (i := 12) (v := .bool true) rfl (by kernel_rfl) (by kernel_rfl) (by kernel_rfl) (fun _ _ _ h => h) (Or.inl ⟨by kernel_rfl, fun W hW => by kernel_rfl⟩) HS6.out ?_
      try simp only [List.getElem_toArray, List.getElem_cons_zero, List.getElem_cons_succ, Act.put, List.setIfInBounds_toArray, List.set_cons_zero, List.set_cons_succ, List.append_eq, List.cons_append, List.nil_append]
      refine wpAnyH_take (i := 13) (v := .bool true) rfl (by kernel_rfl) (by kernel_rfl) (by kernel_rfl) (fun _ _ _ h => h) (Or.inl ⟨by kernel_rfl, fun W hW => by kernel_rfl⟩) HS6.out ?_
      try simp only [List.getElem_toArray, List.getElem_cons_zero, List.getElem_cons_succ, Act.put, List.setIfInBounds_toArray, List.set_cons_zero, List.set_cons_succ, List.append_eq, List.cons_append, List.nil_append]
      refine wpAnyH_take (i := 14) (v := .bool true) rfl (by kernel_rfl) (by kernel_rfl) (by kernel_rfl) (fun _ _ _ h => h) (Or.inl ⟨by kernel_rfl, fun W hW => by kernel_rfl⟩) HS6.out ?_
      try simp only [List.getElem_toArray, List.getElem_cons_zero, List.getElem_cons_succ, Act.put, List.setIfInBounds_toArray, List.set_cons_zero, List.set_cons_succ, List.append_eq, List.cons_append, List.nil_append]
      refine wpAnyH_take (i := 15) (v := .bool true) rfl (by kernel_rfl) (by kernel_rfl) (by kernel_rfl) (fun _ _ _ h => h) (Or.inl ⟨by kernel_rfl, fun W hW => by kernel_rfl⟩) HS6.out ?_
      try simp only [List.getElem_toArray, List.getElem_cons_zero, List.getElem_cons_succ, Act.put, List.setIfInBounds_toArray, List.set_cons_zero, List.set_cons_succ, List.append_eq, List.cons_append, List.nil_append]
      refine wpAnyH_take (i := 16) (v := .bool true) rfl (by kernel_rfl) (by kernel_rfl) (by kernel_rfl) (fun _ _ _ h => h) (Or.inl ⟨by kernel_rfl, fun W hW => by kernel_rfl⟩) HS6.out ?_
      try simp only [List.getElem_toArray, List.getElem_cons_zero, List.getElem_cons_succ, Act.put, List.setIfInBounds_toArray, List.set_cons_zero, List.set_cons_succ, List.append_eq, List.cons_append, List.nil_append]
      refine wpAnyH_take (i := 17) (v := .bool BV) rfl (by kernel_rfl) (by kernel_rfl) (by kernel_rfl) (fun _ _ _ h => h) (Or.inl ⟨by kernel_rfl, fun W hW => by kernel_rfl⟩) HS6.out ?_
      try simp only [List.getElem_toArray, List.getElem_cons_zero, List.getElem_cons_succ, Act.put, List.setIfInBounds_toArray, List.set_cons_zero, List.set_cons_succ, List.append_eq, List.cons_append, List.nil_append]
      refine wpAnyH_take (i := 18) (v := .bool BV) rfl (by kernel_rfl) (by kernel_rfl) (by kernel_rfl) (fun _ _ _ h => h) (Or.inl ⟨by kernel_rfl, fun W hW => by kernel_rfl⟩) HS6.out ?_
      try simp only [List.getElem_toArray, List.getElem_cons_zero, List.getElem_cons_succ, Act.put, List.setIfInBounds_toArray, List.set_cons_zero, List.set_cons_succ, List.append_eq, List.cons_append, List.nil_append]
      have HZ6 := Hid.mk2 (HZ5.out.below HB6.out)
      have HX6 := Hid.mk2 (HX5.out.below HB6.out)
      have z0 := HZ6.out.c 0 (by simp)
      have z1 := HZ6.out.c 1 (by simp)
      have z2 := HZ6.out.c 2 (by simp)
      have z3 := HZ6.out.c 3 (by simp)
      have z4 := HZ6.out.c 4 (by simp)
      simp only [List.getElem_cons_zero, List.getElem_cons_succ] at z0 z1 z2 z3 z4
      have zf0 := HZ6.out.f 0
      have zf1 := HZ6.out.f 1
      have zf2 := HZ6.out.f 2
      have zf3 := HZ6.out.f 3
      have zf4 := HZ6.out.f 4
      have HB7 := Hid.mk2 ((((((g_on HB5.out HB6.out).setCell (p := ⟨w.heap.size, 0, none⟩) (Nat.le_refl _) (.string k)).setCell (p := ⟨w.heap.size, 1, none⟩) (Nat.le_refl _) (.string ⟨#[]⟩)).setCell (p := ⟨w.heap.size, 2, none⟩) (Nat.le_refl _) (.int .u32 ((nf : Int) % 4294967296))).setCell (p := ⟨w.heap.size, 3, none⟩) (Nat.le_refl _) (.int .i64 (wrap64 (nt : Int)))).setCell (p := ⟨w.heap.size, 4, none⟩) (Nat.le_refl _) (.int .u64 (nu : Int)))
      have hneX : w.heap.size ≠ X4 := by have := HXZ.out; omega
      have HX7 := Hid.mk2 (((((HX6.out.other 0 (.string k) hneX).other 1 (.string ⟨#[]⟩) hneX).other 2 (.int .u32 ((nf : Int) % 4294967296)) hneX).other 3 (.int .i64 (wrap64 (nt : Int))) hneX).other 4 (.int .u64 (nu : Int)) hneX)
      have HZ7 := Hid.mk2 (((((HZ6.out.set 0 (.string k) (by simp)).set 1 (.string ⟨#[]⟩) (by simp)).set 2 (.int .u32 ((nf : Int) % 4294967296)) (by simp)).set 3 (.int .i64 (wrap64 (nt : Int))) (by simp)).set 4 (.int .u64 (nu : Int)) (by simp))
      have HS7 := Hid.mk2 (show _ ∧ _ ∧ _ ∧ _ ∧ _ ∧ _ from ⟨HX7.out.c 0 (by simp), HX7.out.c 1 (by simp), HX7.out.c 2 (by simp), HX7.out.c 3 (by simp), HX7.out.c 4 (by simp), (HC.out _ HB7.out).1⟩)
      refine wpAnyH_ready (rs := [19]) (by kernel_rfl) (by simp) ?_
      refine AllReadyH.cons rfl (fun K hK => ?_) AllReadyH.nil
      simp only [List.getElem_toArray, List.getElem_cons_zero, List.getElem_cons_succ]
      clear hneX
      go_simp
      refine hK.out _ _ HS7.out (fun _ => ?_)
      clear hK K
      try simp only [List.getElem_toArray, List.getElem_cons_zero, List.getElem_cons_succ, Act.put, List.setIfInBounds_toArray, List.set_cons_zero, List.set_cons_succ, List.append_eq, List.cons_append, List.nil_append]
      refine wpAnyH_take (i := 20) (v := .int .i64 (IntKind.i64.wrap (nv : Int))) rfl (by kernel_rfl) (by kernel_rfl) (by kernel_rfl) (fun _ _ _ h => h) (Or.inl ⟨by kernel_rfl, fun W hW => by kernel_rfl⟩) HS7.out ?_
      try simp only [List.getElem_toArray, List.getElem_cons_zero, List.getElem_cons_succ, Act.put, List.setIfInBounds_toArray, List.set_cons_zero, List.set_cons_succ, List.append_eq, List.cons_append, List.nil_append]
      refine wpAnyH_take (i := 21) (v := .bool BV) rfl (by kernel_rfl) (by kernel_rfl) (by kernel_rfl) (fun _ _ _ h => h) (Or.inl ⟨by kernel_rfl, fun W hW => by kernel_rfl⟩) HS7.out ?_
      try simp only [List.getElem_toArray, List.getElem_cons_zero, List.getElem_cons_succ, Act.put, List.setIfInBounds_toArray, List.set_cons_zero, List.set_cons_succ, List.append_eq, List.cons_append, List.nil_append]
      refine wpAnyH_done (by kernel_rfl) ?_ _
      refine NoPanic.normal ?_
      go_wp2
      refine bodyPost_ret (res_cell3 rfl rfl (load_var HZ7.out 53 _ Tryd.underlying53 rfl item_info)) rfl ?_
      cases BV with
      | false => exact ⟨⟨⟨k, ⟨#[]⟩, _, _, _⟩, _, false, rfl, .inr ⟨rfl, by rw [HIT.out]; simp⟩⟩, HB7.out⟩
      | true =>
        obtain ⟨l1, l2, l3⟩ := HLE.out
        have l1 := l1 (by first | rfl | trivial)
        have l2 := l2 (by first | rfl | trivial)
        have l3 := l3 (by first | rfl | trivial)
        have e1 : (nf : Int) % 4294967296 = (nf : Int) := by omega
        have e2 : wrap64 (nt : Int) = (nt : Int) := by rw [wrap64]; omega
        have e3 : IntKind.i64.wrap (nv : Int) = (nv : Int) := by rw [IntKind.wrap_i64]; omega
        exact ⟨⟨⟨k, ⟨#[]⟩, _, _, _⟩, _, true, rfl, .inl ⟨rfl, nv, e3, by rw [HIT.out]; simp [e1, e2]⟩⟩, HB7.out⟩
  · have hmi : ¬ (m : Int) = 5 := by omega
    have hmb : ((m : Int) == 5) = false := by simpa using hmi
    have HN := Hid.mk2 (itemW_len (ws := ws) (by rw [← hm]; exact h5))
    clear h hs hm h5
    go_enter Tryd.func41, Tryd.ntmps41
    go_wp2
    exact bodyPost_ret (res_cell3 rfl rfl (load_var (GBx.made w [.string ⟨#[]⟩, .string ⟨#[]⟩, .int .u32 0, .int .i64 0, .int .u64 0] 53) 53 _ Tryd.underlying53 rfl item_info)) rfl ⟨⟨imz, 0, false, rfl, .inr ⟨rfl, HN.out⟩⟩, g_alloc _ _⟩
end Go.Proofs.YtihcnjbnlcgcoaaDoor
