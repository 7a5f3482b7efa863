/-
  Entries are taken out of a row: the contract of the library's Delete at entries.
-/
import Derived.Test.YtlomciinkpecpaaTbIdx
import Derived.Laws.IdiomCopy
import Derived.Deep.Upon
namespace Go.Proofs.Ytlomciinkpecpaa
open Go.RowKit
set_option linter.unusedSimpArgs false
set_option linter.unusedVariables false
set_option maxRecDepth 100000

theorem heap_set {w : World} {g o : Nat} {v : Value} {cur : Array Value} {t : TypeId} {m : Nat × Nat} (h : w.heap[g]? = some (.cells cur t m)) : (w.setCell ⟨g, o, none⟩ v).heap[g]? = some (.cells (cur.setIfInBounds o v) t m) := by
  unfold World.setCell
  simp [Array.getElem?_modify, h]
theorem heap_sets {g : Nat} {t : TypeId} {m : Nat × Nat} : ∀ (vs : List Value) (o : Nat) {w : World} {cur : Array Value}, w.heap[g]? = some (.cells cur t m) → ∃ cur', (w.setCells g o vs).heap[g]? = some (.cells cur' t m) ∧ cur'.size = cur.size
  | [], o, w, cur, h => ⟨cur, h, rfl⟩
  | v :: vs, o, w, cur, h => by
    obtain ⟨cur', h1, h2⟩ := heap_sets vs (o + 1) (heap_set (o := o) (v := v) h)
    exact ⟨cur', h1, by rw [h2]; simp⟩
theorem tape_sets (g : Nat) : ∀ (vs : List Value) (o : Nat) (w : World), (w.setCells g o vs).tape = w.tape
  | [], o, w => rfl
  | v :: vs, o, w => (tape_sets g vs (o + 1) _).trans rfl
theorem size_sets (g : Nat) : ∀ (vs : List Value) (o : Nat) (w : World), (w.setCells g o vs).heap.size = w.heap.size
  | [], o, w => rfl
  | v :: vs, o, w => (size_sets g vs (o + 1) _).trans (by simp)
theorem cell_of_heap {w : World} {g : Nat} {cur : Array Value} {t : TypeId} {m : Nat × Nat} (h : w.heap[g]? = some (.cells cur t m)) (j : Nat) : w.cell? ⟨g, j, none⟩ = cur[j]? := by
  unfold World.cell?
  simp [h]
theorem frozen_of_heap {w : World} {g : Nat} {cur : Array Value} {t : TypeId} (h : w.heap[g]? = some (.cells cur t (0, 0))) (j : Nat) : w.frozen? ⟨g, j, none⟩ = false := by
  unfold World.frozen?
  simp [h]
theorem OwnR.mk' {w : World} {base g cap : Nat} {cur : Array Value} {T : List NU} (hb : base ≤ g) (hg : w.heap[g]? = some (.cells cur 64 (0, 0))) (hsz : cur.size = cap * 3) (hn : T.length ≤ cap) (hm : cap ≤ maxLen)
    (hc : ∀ j u, (T.flatMap tcells)[j]? = some u → w.cell? ⟨g, j, none⟩ = some u) : OwnR w base (.slice (some ⟨g, 0, none⟩) T.length cap) T := by
  refine ⟨flatT_len T, .inr ⟨g, cap, cur, rfl, hb, hg, hn, hm, hsz, ?_⟩⟩
  refine List.ext_getElem? fun j => ?_
  by_cases hj : j < T.length * 3
  · have hj2 : j < (T.flatMap tcells).length := by rw [flatT_len]; exact hj
    have h1 := hc j _ (List.getElem?_eq_getElem hj2)
    rw [cell_of_heap hg] at h1
    rw [List.getElem?_take_of_lt hj, List.getElem?_eq_getElem hj2, Array.getElem?_toList]
    exact h1
  · rw [List.getElem?_eq_none (by simp; omega), List.getElem?_eq_none (by rw [flatT_len]; omega)]
theorem OwnR.parts {w : World} {base g cap : Nat} {T : List NU} (h : OwnR w base (.slice (some ⟨g, 0, none⟩) T.length cap) T) : ∃ cur, base ≤ g ∧ w.heap[g]? = some (.cells cur 64 (0, 0)) ∧ cur.size = cap * 3 ∧ T.length ≤ cap ∧ cap ≤ maxLen ∧ ∀ j u, (T.flatMap tcells)[j]? = some u → w.cell? ⟨g, j, none⟩ = some u := by
  have hcl := World.ownsRow.cells h (g := g) rfl
  rcases h.2 with ⟨e, _⟩ | ⟨g', cap', cur, e, hb, hg, hn, hm, hs, ht⟩
  · cases e
  · cases e
    refine ⟨cur, hb, hg, hs, hn, hm, fun j u hu => ?_⟩
    have := hcl j u hu
    rwa [addr_add, Nat.zero_add] at this
theorem flat_drop (T : List NU) (j : Nat) : (T.drop j).flatMap tcells = (T.flatMap tcells).drop (j * 3) := by
  induction T generalizing j with
  | nil => simp
  | cons q T ih =>
    cases j with
    | zero => simp
    | succ j =>
      rw [List.drop_succ_cons, ih, List.flatMap_cons, show (j + 1) * 3 = (tcells q).length + j * 3 by rw [tcells_len]; omega, List.drop_append]
      simp [tcells_len]
theorem flat_take (T : List NU) (j : Nat) : (T.take j).flatMap tcells = (T.flatMap tcells).take (j * 3) := by
  induction T generalizing j with
  | nil => simp
  | cons q T ih =>
    cases j with
    | zero => simp
    | succ j =>
      rw [List.take_succ_cons, List.flatMap_cons, ih, List.flatMap_cons, show (j + 1) * 3 = (tcells q).length + j * 3 by rw [tcells_len]; omega, List.take_append]
      simp [tcells_len]
      exact (List.take_of_length_le (by rw [tcells_len]; omega)).symm
def zEnt : Value := .agg #[.int .i64 0, .string ⟨#[]⟩, .int .i64 0]
theorem zeroEnt (w : World) : (zeroValue 64).run Try.prog w = .ok zEnt w := by kernel_rfl
theorem zs_len (n : Nat) : (Builtin.zeroCells zEnt.cells n).toList.length = n * 3 := by
  have : zEnt.cells.size = 3 := rfl
  unfold Builtin.zeroCells
  rw [this]
  simp
theorem zs_one (n : Nat) : ∀ v ∈ (Builtin.zeroCells zEnt.cells n).toList, v.oneCell' = true := by
  intro v hv
  have e : zEnt.cells = #[.int .i64 0, .string ⟨#[]⟩, .int .i64 0] := rfl
  unfold Builtin.zeroCells at hv
  rw [e] at hv
  simp only [Array.toList_map, List.mem_map] at hv
  obtain ⟨i, _, rfl⟩ := hv
  have h3 : i % 3 = 0 ∨ i % 3 = 1 ∨ i % 3 = 2 := by omega
  rw [show (#[Value.int .i64 0, .string ⟨#[]⟩, .int .i64 0] : Array Value).size = 3 from rfl]
  rcases h3 with h | h | h <;> rw [h] <;> rfl
theorem run_clear3 (w : World) (ty : TypeId) (b o n c : Nat) (hn : 0 < n) (hc : ∀ j, j < n * 3 → (w.cell? ⟨b, o + j, none⟩).isSome = true) (hf : ∀ j, j < n * 3 → w.frozen? ⟨b, o + j, none⟩ = false) :
    (Builtin.clear_ #[65] ty #[.slice (some ⟨b, o, none⟩) n c]).run Try.prog w = .ok (.tuple #[]) (w.setCells b o (Builtin.zeroCells zEnt.cells n).toList) := by
  have hst := run_storeCells_cells (P := Try.prog) b o (Builtin.zeroCells zEnt.cells n).toList 0 w (by rw [zs_len]; simpa using hc) (by rw [zs_len]; simpa using hf) (zs_one n)
  simp only [Nat.add_zero] at hst
  obtain ⟨m, rfl⟩ : ∃ m, n = m + 1 := ⟨n - 1, by omega⟩
  have h0 := zeroEnt w
  unfold zEnt at hst h0 ⊢
  simp [Builtin.clear_, run_underlying Try.underlying65, h0, hst]
theorem delete_none (w : World) :
    Calls Try.prog 29 #[.slice none 0 0, .int .i64 0, .int .i64 0] w fun e w' => e = .returned (.slice none 0 0) ∧ w' = w := by
  go_enter Try.func29, Try.ntmps29
  go_wp2
  go_ret
  exact ⟨rfl, rfl⟩
theorem delete_same (w : World) (g n cap i : Nat) (hi : i ≤ n) (hn : n ≤ cap) (hc : cap ≤ maxLen) :
    Calls Try.prog 29 #[.slice (some ⟨g, 0, none⟩) n cap, .int .i64 i, .int .i64 i] w fun e w' => e = .returned (.slice (some ⟨g, 0, none⟩) n cap) ∧ w' = w := by
  unfold maxLen at hc
  go_enter Try.func29, Try.ntmps29
  go_wp2
  all_goals (go_ret; exact ⟨rfl, rfl⟩)
set_option maxHeartbeats 1000000 in
theorem delete_some (w : World) (base g cap : Nat) (T : List NU) (h : OwnR w base (.slice (some ⟨g, 0, none⟩) T.length cap) T) (i j : Nat) (hij : i < j) (hj : j ≤ T.length) :
    Calls Try.prog 29 #[.slice (some ⟨g, 0, none⟩) T.length cap, .int .i64 i, .int .i64 j] w fun e w' => e = .returned (.slice (some ⟨g, 0, none⟩) (T.take i ++ T.drop j).length cap) ∧ OwnR w' base (.slice (some ⟨g, 0, none⟩) (T.take i ++ T.drop j).length cap) (T.take i ++ T.drop j) ∧ w.grownBy w' (some g) := by
  obtain ⟨i0, hi0, hz0, hz1, hz2⟩ := info_parts Try.infoEntry
  obtain ⟨cur, hb, hg, hsz, hn, hm, hcl⟩ := h.parts
  have hgd : w.drew.heap[g]? = some (.cells cur 64 (0, 0)) := hg
  have hsome : ∀ k, k < cap * 3 → (w.drew.cell? ⟨g, k, none⟩).isSome = true := fun k hk => by
    rw [cell_of_heap hgd, Array.getElem?_eq_getElem (by omega)]; rfl
  obtain ⟨news, hnews⟩ : ∃ news, news = (T.drop j).flatMap tcells := ⟨_, rfl⟩
  have hlen : news.length = (T.length - j) * 3 := by rw [hnews, flatT_len]; simp
  have hget : ∀ t u, news[t]? = some u → w.cell? ⟨g, j * 3 + t, none⟩ = some u := fun t u hu => by
    refine hcl _ _ ?_
    rw [hnews, flat_drop, List.getElem?_drop] at hu
    exact hu
  obtain ⟨A, hA, hsrc⟩ : ∃ A : Addr, (if cap = j then some (⟨g, 0, none⟩ : Addr) else some ⟨g, j * 3, none⟩) = some A ∧ Hid (∀ t u, news[t]? = some u → w.drew.cell? (A.add t) = some u) := by
    by_cases h : cap = j
    · refine ⟨⟨g, 0, none⟩, by simp [h], fun t u hu => ?_⟩
      have h0 : news.length = 0 := by rw [hlen]; omega
      rw [List.length_eq_zero_iff.1 h0] at hu
      simp at hu
    · refine ⟨⟨g, j * 3, none⟩, by simp [h], fun t u hu => ?_⟩
      rw [addr_add]
      exact hget t u hu
  have s1 : Hid (news.length = (T.length - j) * 3) := hlen
  have s2 : Hid (∀ u ∈ news, u.oneCell' = true) := by intro u hu; rw [hnews] at hu; exact tcells_all _ u hu
  have s3 : Hid (∀ t, t < news.length → (w.drew.cell? ⟨g, 0 + i * 3 + t, none⟩).isSome = true ∧ w.drew.frozen? ⟨g, 0 + i * 3 + t, none⟩ = false) := by
    intro t ht
    rw [hlen] at ht
    exact ⟨hsome _ (by omega), frozen_of_heap hgd _⟩
  obtain ⟨W1, hW1⟩ : ∃ W1, W1 = w.drew.setCells g (0 + i * 3) news := ⟨_, rfl⟩
  obtain ⟨cur1, hg1, hsz1⟩ := heap_sets news (0 + i * 3) hgd
  rw [← hW1] at hg1
  obtain ⟨zs, hzs⟩ : ∃ zs, zs = (Builtin.zeroCells zEnt.cells (T.length - (i + (T.length - j)))).toList := ⟨_, rfl⟩
  have hcl1 : ∀ ty, (Builtin.clear_ #[65] ty #[.slice (some ⟨g, (i + (T.length - j)) * 3, none⟩) (T.length - (i + (T.length - j))) (cap - (i + (T.length - j)))]).run Try.prog W1 = .ok (.tuple #[]) (W1.setCells g ((i + (T.length - j)) * 3) zs) := fun ty => by
    rw [hzs]
    exact run_clear3 W1 ty g _ _ _ (by omega) (fun t ht => by rw [cell_of_heap hg1, Array.getElem?_eq_getElem (by omega)]; rfl) (fun t ht => frozen_of_heap hg1 _)
  obtain ⟨cur2, hg2, hsz2⟩ := heap_sets zs ((i + (T.length - j)) * 3) hg1
  have hL : (T.take i ++ T.drop j).length = i + (T.length - j) := by simp; omega
  have HO : Hid (OwnR (W1.setCells g ((i + (T.length - j)) * 3) zs) base (.slice (some ⟨g, 0, none⟩) (T.take i ++ T.drop j).length cap) (T.take i ++ T.drop j)) := by
    refine OwnR.mk' hb hg2 (by rw [hsz2, hsz1, hsz]) (by omega) hm ?_
    intro k u hu
    have hk : k < (i + (T.length - j)) * 3 := by
      have := (List.getElem?_eq_some_iff.1 hu).1
      rw [flatT_len, hL] at this
      exact this
    rw [World.cell?_setCells_out g zs _ _ ⟨g, k, none⟩ (fun _ _ => .inl hk), hW1]
    rw [List.flatMap_append, ← hnews] at hu
    have hti : ((T.take i).flatMap tcells).length = i * 3 := by rw [flatT_len]; simp; omega
    by_cases hki : k < i * 3
    · rw [World.cell?_setCells_out g news _ _ ⟨g, k, none⟩ (fun _ _ => .inl (by show k < _; omega))]
      rw [List.getElem?_append_left (by omega), flat_take, List.getElem?_take_of_lt hki] at hu
      exact hcl k u hu
    · rw [List.getElem?_append_right (by omega), hti] at hu
      have h3 := World.cell?_setCells_in g news (0 + i * 3) w.drew (fun t ht => (s3.out t ht).1) (k - i * 3) (List.getElem?_eq_some_iff.1 hu).1
      rw [show 0 + i * 3 + (k - i * 3) = k by omega] at h3
      rw [h3, (List.getElem?_eq_some_iff.1 hu).2]
  have HG : Hid (w.grownBy (W1.setCells g ((i + (T.length - j)) * 3) zs) (some g)) := by
    have h1 : w.grownBy W1 (some g) := by
      rw [hW1]
      refine ⟨(World.os_setCells _ _ _ _).trans rfl, ?_, (World.output_setCells _ _ _ _).trans rfl, ?_, fun k hk hne => (World.heap_setCells_other w.drew g _ news (by exact hk) (fun e => hne (by rw [e]))).trans rfl⟩
      · exact tape_sets g news _ _
      · rw [size_sets]; exact Nat.le_refl _
    refine h1.trans ⟨World.os_setCells _ _ _ _, tape_sets g zs _ _, World.output_setCells _ _ _ _, by rw [size_sets]; exact Nat.le_refl _, fun k hk hne => World.heap_setCells_other W1 g _ zs hk (fun e => hne (by rw [e]))⟩
  have HW : Hid (W1 = w.drew.setCells g (0 + i * 3) news) := hW1
  rw [hL] at HO ⊢
  have hic : i ≤ cap := by omega
  have hjc : j ≤ cap := by omega
  have hne : ¬ cap = i + (T.length - j) := by omega
  unfold maxLen at hm
  clear hW1 hg1 hsz1 hg2 hsz2 hzs hcl hget hnews hlen hsome hgd hg hsz h hL
  go_enter Try.func29, Try.ntmps29
  go_wp2_with fail
  go_region_law (refine step_append_room rfl (.tmp 22) (.tmp 25) 65 rfl 64 i0 3 Try.underlying65 hi0 hz1 g 0 i cap (by simp [Act.eval, Act.put]) A (T.length - j) (cap - j) news (by simp [Act.eval, Act.put, hA]) s1.out hsrc.out s2.out (by omega) s3.out ?_; rw [← HW.out])
  all_goals
    go_wp2
    go_ret
    exact ⟨rfl, HO.out, HG.out⟩
end Go.Proofs.Ytlomciinkpecpaa
