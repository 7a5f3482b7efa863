/-
  rising: its contract.
-/
import Derived.Test.YtlomciinkpecpaaTbSort
namespace Go.Proofs.Ytlomciinkpecpaa
open Go.RowKit Go.Shelf Go.Lib Go.Sort
set_option linter.unusedSimpArgs false
set_option linter.unusedVariables false
set_option maxRecDepth 100000

set_option maxHeartbeats 2000000 in
theorem rising_any (x y : Nm) (W : World) :
    Calls Try.prog 28 #[.agg #[.int .i64 x.tenant, .string x.key], .agg #[.int .i64 y.tenant, .string y.key]] W fun e w' => e = .returned (.int .i64 (cmpN x y)) ∧ ∃ q os', w' = grow (W.drewN q) os' := by
  obtain ⟨t, k⟩ := x
  obtain ⟨t', k'⟩ := y
  unfold cmpN
  simp only []
  have c2 := fun V => cmpInt_any t t' V
  have c3 := fun V => strCompare k k' V
  obtain ⟨a, hb⟩ : ∃ b, b = Lib.compareInt t t' := ⟨_, rfl⟩
  obtain ⟨b, hc⟩ : ∃ c, c = cb k.data.toList k'.data.toList := ⟨_, rfl⟩
  rw [← hb] at c2 ⊢
  rw [← hc] at c3 ⊢
  clear hb hc
  obtain ⟨r, hr⟩ : ∃ r, r = (if a ≠ 0 then a else b) := ⟨_, rfl⟩
  have HOR : Hid (∀ (V : World) (B : Nat), V.cell? ⟨B, 0, none⟩ = some (.int .i64 a) → V.cell? ⟨B, 1, none⟩ = some (.int .i64 b) → Calls Try.prog 40 #[.slice (some ⟨B, 0, none⟩) 2 2] V fun e w' => e = .returned (.int .i64 r) ∧ w' = V) := fun V B h0 h1 => by rw [hr]; exact or2_any a b B V h0 h1
  rw [← hr]
  clear hr
  have C2 := Hid.mk2 c2
  have C3 := Hid.mk2 c3
  clear c2 c3
  go_enter Try.func28, Try.ntmps28
  go_upto_region 1 with fail
  obtain ⟨wA, hwA⟩ : ∃ wA, wA = (W.alloc (.cells #[.int .i64 t, .string k] 28)).alloc (.cells #[.int .i64 t', .string k'] 28) := ⟨_, rfl⟩
  have HG : Hid (∀ n : Nat, ∃ q os', (wA.drew.alloc (.cells #[.int .i64 a, .int .i64 b] 3)) = grow (W.drewN q) os') := fun n => ⟨1, _, by rw [hwA]; show ((W.drew.alloc _).alloc _).alloc _ = _; rw [alloc_eq_grow, alloc_eq_grow, alloc_eq_grow, grow_grow, grow_grow]; rfl⟩
  have hsz : wA.heap.size = W.heap.size + 2 := by rw [hwA]; simp
  have x0 : wA.cell? ⟨W.heap.size, 0, none⟩ = some (.int .i64 t) := by rw [hwA]; simp
  have x1 : wA.cell? ⟨W.heap.size, 1, none⟩ = some (.string k) := by rw [hwA]; simp
  have y0 : wA.cell? ⟨W.heap.size + 1, 0, none⟩ = some (.int .i64 t') := by rw [hwA]; simp
  have y1 : wA.cell? ⟨W.heap.size + 1, 1, none⟩ = some (.string k') := by rw [hwA]; simp
  rw [← hwA]
  clear hwA
  have HSD : (fun V => V.cell? ⟨W.heap.size, 0, none⟩ = some (.int .i64 t) ∧ V.cell? ⟨W.heap.size, 1, none⟩ = some (.string k) ∧ V.cell? ⟨W.heap.size + 1, 0, none⟩ = some (.int .i64 t') ∧ V.cell? ⟨W.heap.size + 1, 1, none⟩ = some (.string k')) wA.drew := ⟨x0, x1, y0, y1⟩
  have HSA : ∀ o, (fun V => V.cell? ⟨W.heap.size, 0, none⟩ = some (.int .i64 t) ∧ V.cell? ⟨W.heap.size, 1, none⟩ = some (.string k) ∧ V.cell? ⟨W.heap.size + 1, 0, none⟩ = some (.int .i64 t') ∧ V.cell? ⟨W.heap.size + 1, 1, none⟩ = some (.string k')) (wA.drew.alloc o) := fun o => ⟨(World.cell?_alloc_lt _ _ _ (by show W.heap.size < wA.heap.size; omega)).trans x0, (World.cell?_alloc_lt _ _ _ (by show W.heap.size < wA.heap.size; omega)).trans x1, (World.cell?_alloc_lt _ _ _ (by show W.heap.size + 1 < wA.heap.size; omega)).trans y0, (World.cell?_alloc_lt _ _ _ (by show W.heap.size + 1 < wA.heap.size; omega)).trans y1⟩
  have HA0 : Hid ((wA.drew.alloc (.cells #[.int .i64 a, .int .i64 b] 3)).cell? ⟨W.heap.size + 2, 0, none⟩ = some (.int .i64 a)) := by rw [← hsz]; exact World.cell?_alloc_mark wA.drew #[.int .i64 a, .int .i64 b] 3 (0, 0) 0
  have HA1 : Hid ((wA.drew.alloc (.cells #[.int .i64 a, .int .i64 b] 3)).cell? ⟨W.heap.size + 2, 1, none⟩ = some (.int .i64 b)) := by rw [← hsz]; exact World.cell?_alloc_mark wA.drew #[.int .i64 a, .int .i64 b] 3 (0, 0) 1
  clear x0 x1 y0 y1
  refine wp_region_noPanic ?_
  refine wp_region_held_drew (S := fun V => V.cell? ⟨W.heap.size, 0, none⟩ = some (.int .i64 t) ∧ V.cell? ⟨W.heap.size, 1, none⟩ = some (.string k) ∧ V.cell? ⟨W.heap.size + 1, 0, none⟩ = some (.int .i64 t') ∧ V.cell? ⟨W.heap.size + 1, 1, none⟩ = some (.string k')) (by kernel_rfl) HSD (fun _ => ?_)
  refine wpAnyH_take (i := 0) (v := .pointer (some ⟨W.heap.size, 0, none⟩)) rfl (by kernel_rfl) (by kernel_rfl) (by kernel_rfl) (fun _ _ _ h => h) (Or.inl ⟨by kernel_rfl, fun W hW => by kernel_rfl⟩) HSD ?_
  try simp only [List.getElem_toArray, List.getElem_cons_zero, List.getElem_cons_succ, Act.put, List.setIfInBounds_toArray, List.set_cons_zero, List.set_cons_succ, List.append_eq, List.cons_append, List.nil_append]
  refine wpAnyH_take (i := 1) (v := .int .i64 t) rfl (by kernel_rfl) (by kernel_rfl) (by kernel_rfl) (fun _ _ _ h => h) (Or.inl ⟨by kernel_rfl, fun W hW => by obtain ⟨m0, m1, m2, m3⟩ := hW; go_simp⟩) HSD ?_
  try simp only [List.getElem_toArray, List.getElem_cons_zero, List.getElem_cons_succ, Act.put, List.setIfInBounds_toArray, List.set_cons_zero, List.set_cons_succ, List.append_eq, List.cons_append, List.nil_append]
  refine wpAnyH_take (i := 2) (v := .pointer (some ⟨W.heap.size + 1, 0, none⟩)) rfl (by kernel_rfl) (by kernel_rfl) (by kernel_rfl) (fun _ _ _ h => h) (Or.inl ⟨by kernel_rfl, fun W hW => by kernel_rfl⟩) HSD ?_
  try simp only [List.getElem_toArray, List.getElem_cons_zero, List.getElem_cons_succ, Act.put, List.setIfInBounds_toArray, List.set_cons_zero, List.set_cons_succ, List.append_eq, List.cons_append, List.nil_append]
  refine wpAnyH_take (i := 3) (v := .int .i64 t') rfl (by kernel_rfl) (by kernel_rfl) (by kernel_rfl) (fun _ _ _ h => h) (Or.inl ⟨by kernel_rfl, fun W hW => by obtain ⟨m0, m1, m2, m3⟩ := hW; go_simp⟩) HSD ?_
  try simp only [List.getElem_toArray, List.getElem_cons_zero, List.getElem_cons_succ, Act.put, List.setIfInBounds_toArray, List.set_cons_zero, List.set_cons_succ, List.append_eq, List.cons_append, List.nil_append]
  refine wpAnyH_take (i := 5) (v := .pointer (some ⟨W.heap.size, 1, none⟩)) rfl (by kernel_rfl) (by kernel_rfl) (by kernel_rfl) (fun _ _ _ h => h) (Or.inl ⟨by kernel_rfl, fun W hW => by kernel_rfl⟩) HSD ?_
  try simp only [List.getElem_toArray, List.getElem_cons_zero, List.getElem_cons_succ, Act.put, List.setIfInBounds_toArray, List.set_cons_zero, List.set_cons_succ, List.append_eq, List.cons_append, List.nil_append]
  refine wpAnyH_take (i := 6) (v := .string k) rfl (by kernel_rfl) (by kernel_rfl) (by kernel_rfl) (fun _ _ _ h => h) (Or.inl ⟨by kernel_rfl, fun W hW => by obtain ⟨m0, m1, m2, m3⟩ := hW; go_simp⟩) HSD ?_
  try simp only [List.getElem_toArray, List.getElem_cons_zero, List.getElem_cons_succ, Act.put, List.setIfInBounds_toArray, List.set_cons_zero, List.set_cons_succ, List.append_eq, List.cons_append, List.nil_append]
  refine wpAnyH_take (i := 7) (v := .pointer (some ⟨W.heap.size + 1, 1, none⟩)) rfl (by kernel_rfl) (by kernel_rfl) (by kernel_rfl) (fun _ _ _ h => h) (Or.inl ⟨by kernel_rfl, fun W hW => by kernel_rfl⟩) HSD ?_
  try simp only [List.getElem_toArray, List.getElem_cons_zero, List.getElem_cons_succ, Act.put, List.setIfInBounds_toArray, List.set_cons_zero, List.set_cons_succ, List.append_eq, List.cons_append, List.nil_append]
  refine wpAnyH_take (i := 8) (v := .string k') rfl (by kernel_rfl) (by kernel_rfl) (by kernel_rfl) (fun _ _ _ h => h) (Or.inl ⟨by kernel_rfl, fun W hW => by obtain ⟨m0, m1, m2, m3⟩ := hW; go_simp⟩) HSD ?_
  try simp only [List.getElem_toArray, List.getElem_cons_zero, List.getElem_cons_succ, Act.put, List.setIfInBounds_toArray, List.set_cons_zero, List.set_cons_succ, List.append_eq, List.cons_append, List.nil_append]
  refine wpAnyH_ready (rs := [4]) (by kernel_rfl) (by simp) ?_
  refine AllReadyH.cons rfl (fun K hK => ?_) AllReadyH.nil
  simp only [List.getElem_toArray, List.getElem_cons_zero, List.getElem_cons_succ]
  go_simp
  go_at_call 41
  refine (C2.out _).mono ?_
  rintro e w' ⟨rfl, rfl⟩
  refine hK.out _ _ HSD (fun _ => ?_)
  clear hK K
  try simp only [List.getElem_toArray, List.getElem_cons_zero, List.getElem_cons_succ, Act.put, List.setIfInBounds_toArray, List.set_cons_zero, List.set_cons_succ, List.append_eq, List.cons_append, List.nil_append]
  refine wpAnyH_ready (rs := [9]) (by kernel_rfl) (by simp) ?_
  refine AllReadyH.cons rfl (fun K hK => ?_) AllReadyH.nil
  simp only [List.getElem_toArray, List.getElem_cons_zero, List.getElem_cons_succ]
  go_simp
  go_at_call 42
  refine (C3.out _).mono ?_
  rintro e w' ⟨rfl, rfl⟩
  refine hK.out _ _ HSD (fun _ => ?_)
  clear hK K
  try simp only [List.getElem_toArray, List.getElem_cons_zero, List.getElem_cons_succ, Act.put, List.setIfInBounds_toArray, List.set_cons_zero, List.set_cons_succ, List.append_eq, List.cons_append, List.nil_append]
  refine wpAnyH_ready (rs := [10]) (by kernel_rfl) (by simp) ?_
  refine AllReadyH.cons rfl (fun K hK => ?_) AllReadyH.nil
  simp only [List.getElem_toArray, List.getElem_cons_zero, List.getElem_cons_succ]
  go_simp
  refine hK.out _ _ (HSA _) (fun _ => ?_)
  clear hK K
  try simp only [List.getElem_toArray, List.getElem_cons_zero, List.getElem_cons_succ, Act.put, List.setIfInBounds_toArray, List.set_cons_zero, List.set_cons_succ, List.append_eq, List.cons_append, List.nil_append]
  refine wpAnyH_ready (rs := [11]) (by kernel_rfl) (by simp) ?_
  refine AllReadyH.cons rfl (fun K hK => ?_) AllReadyH.nil
  simp only [List.getElem_toArray, List.getElem_cons_zero, List.getElem_cons_succ]
  go_simp
  go_at_call 40
  refine (HOR.out (wA.drew.alloc (.cells #[.int .i64 a, .int .i64 b] 3)) (W.heap.size + 2) HA0.out HA1.out).mono ?_
  rintro e w' ⟨rfl, rfl⟩
  refine hK.out _ _ (HSA _) (fun _ => ?_)
  clear hK K
  try simp only [List.getElem_toArray, List.getElem_cons_zero, List.getElem_cons_succ, Act.put, List.setIfInBounds_toArray, List.set_cons_zero, List.set_cons_succ, List.append_eq, List.cons_append, List.nil_append]
  refine wpAnyH_take (i := 12) (v := .int .i64 r) rfl (by kernel_rfl) (by kernel_rfl) (by kernel_rfl) (fun _ _ _ h => h) (Or.inl ⟨by kernel_rfl, fun W hW => by kernel_rfl⟩) (HSA _) ?_
  try simp only [List.getElem_toArray, List.getElem_cons_zero, List.getElem_cons_succ, Act.put, List.setIfInBounds_toArray, List.set_cons_zero, List.set_cons_succ, List.append_eq, List.cons_append, List.nil_append]
  refine wpAnyH_done (by kernel_rfl) ?_ _
  refine NoPanic.normal ?_
  go_wp2
  go_ret
  exact ⟨rfl, HG.out wA.heap.size⟩
end Go.Proofs.Ytlomciinkpecpaa
