/-
  The library's Delete at tickets: a row's first ticket is taken out of it.
-/
import Derived.Test.YtpnmokmadbapoaaTkM
import Derived.Laws.IdiomCopy
import Derived.Deep.Upon
namespace Go.Proofs.Ytpnmokmadbapoaa
open Go.RowKit
set_option linter.unusedSimpArgs false
set_option linter.unusedVariables false
set_option maxRecDepth 100000

theorem heap_set {w : World} {g o : Nat} {v : Value} {cur : Array Value} {t : TypeId} {m : Nat × Nat} (h : w.heap[g]? = some (.cells cur t m)) : (w.setCell ⟨g, o, none⟩ v).heap[g]? = some (.cells (cur.setIfInBounds o v) t m) := by
  unfold World.setCell
  simp [Array.getElem?_modify, h]
theorem heap_sets {g : Nat} {t : TypeId} {m : Nat × Nat} : ∀ (vs : List Value) (o : Nat) {w : World} {cur : Array Value}, w.heap[g]? = some (.cells cur t m) → ∃ cur', (w.setCells g o vs).heap[g]? = some (.cells cur' t m) ∧ cur'.size = cur.size
  | [], o, w, cur, h => ⟨cur, h, rfl⟩
  | v :: vs, o, w, cur, h => by
    obtain ⟨cur', h1, h2⟩ := heap_sets vs (o + 1) (heap_set (o := o) (v := v) h)
    exact ⟨cur', h1, by rw [h2]; simp⟩
theorem tape_sets (g : Nat) : ∀ (vs : List Value) (o : Nat) (w : World), (w.setCells g o vs).tape = w.tape
  | [], o, w => rfl
  | v :: vs, o, w => (tape_sets g vs (o + 1) _).trans rfl
theorem size_sets (g : Nat) : ∀ (vs : List Value) (o : Nat) (w : World), (w.setCells g o vs).heap.size = w.heap.size
  | [], o, w => rfl
  | v :: vs, o, w => (size_sets g vs (o + 1) _).trans (by simp)
theorem cell_of_heap {w : World} {g : Nat} {cur : Array Value} {t : TypeId} {m : Nat × Nat} (h : w.heap[g]? = some (.cells cur t m)) (j : Nat) : w.cell? ⟨g, j, none⟩ = cur[j]? := by
  unfold World.cell?
  simp [h]
theorem frozen_of_heap {w : World} {g : Nat} {cur : Array Value} {t : TypeId} (h : w.heap[g]? = some (.cells cur t (0, 0))) (j : Nat) : w.frozen? ⟨g, j, none⟩ = false := by
  unfold World.frozen?
  simp [h]
theorem GOwn.mkT {w : World} {base g cap : Nat} {cur : Array Value} {T : List Td} (hb : base ≤ g) (hg : w.heap[g]? = some (.cells cur 68 (0, 0))) (hsz : cur.size = cap * 12) (hn : T.length ≤ cap) (hm : cap ≤ maxLen)
    (hc : ∀ j u, (T.flatMap ET.cells)[j]? = some u → w.cell? ⟨g, j, none⟩ = some u) : GOwn ET w base (.slice (some ⟨g, 0, none⟩) T.length cap) T := by
  have hfl : (T.flatMap ET.cells).length = T.length * 12 := okT.flat_len T
  refine ⟨hfl, .inr ⟨g, cap, cur, rfl, hb, hg, hn, hm, hsz, ?_⟩⟩
  refine List.ext_getElem? fun j => ?_
  change (List.take (T.length * 12) cur.toList)[j]? = _
  by_cases hj : j < T.length * 12
  · have hj2 : j < (T.flatMap ET.cells).length := by rw [hfl]; exact hj
    have h1 := hc j _ (List.getElem?_eq_getElem hj2)
    rw [cell_of_heap hg] at h1
    rw [List.getElem?_take_of_lt hj, List.getElem?_eq_getElem hj2, Array.getElem?_toList]
    exact h1
  · rw [List.getElem?_eq_none (by simp; omega), List.getElem?_eq_none (by rw [hfl]; omega)]
theorem GOwn.partsT {w : World} {base g n cap : Nat} {T : List Td} (h : GOwn ET w base (.slice (some ⟨g, 0, none⟩) n cap) T) : ∃ cur, base ≤ g ∧ w.heap[g]? = some (.cells cur 68 (0, 0)) ∧ cur.size = cap * 12 ∧ T.length ≤ cap ∧ cap ≤ maxLen ∧ n = T.length ∧ ∀ j u, (T.flatMap ET.cells)[j]? = some u → w.cell? ⟨g, j, none⟩ = some u := by
  have hcl := World.ownsRow.cells h (g := g) rfl
  rcases h.2 with ⟨e, _⟩ | ⟨g', cap', cur, e, hb, hg, hn, hm, hs, ht⟩
  · cases e
  · injection e with e1 e2 e3
    have e4 := Option.some.inj e1
    injection e4 with e5
    subst e5 e3
    refine ⟨cur, hb, hg, hs, hn, hm, e2, fun j u hu => ?_⟩
    have := hcl j u hu
    rw [g_add] at this
    simpa using this
def zTk : Value := .agg #[.int .i64 0, .int .u8 0, .int .u8 0, .int .i64 0, .slice none 0 0, .string ⟨#[]⟩, .int .u32 0, .int .i64 0, .int .u64 0, .int .u64 0, .int .i64 0, .int .i64 0]
theorem zeroTk (w : World) : (zeroValue 68).run Try.prog w = .ok zTk w := by kernel_rfl
theorem zsT_len (n : Nat) : (Builtin.zeroCells zTk.cells n).toList.length = n * 12 := by
  have : zTk.cells.size = 12 := rfl
  unfold Builtin.zeroCells
  rw [this]
  simp
theorem zsT_one (n : Nat) : ∀ v ∈ (Builtin.zeroCells zTk.cells n).toList, v.oneCell' = true := by
  intro v hv
  have e : zTk.cells = #[.int .i64 0, .int .u8 0, .int .u8 0, .int .i64 0, .slice none 0 0, .string ⟨#[]⟩, .int .u32 0, .int .i64 0, .int .u64 0, .int .u64 0, .int .i64 0, .int .i64 0] := rfl
  unfold Builtin.zeroCells at hv
  rw [e] at hv
  simp only [Array.toList_map, List.mem_map] at hv
  obtain ⟨i, _, rfl⟩ := hv
  rw [show (#[.int .i64 0, .int .u8 0, .int .u8 0, .int .i64 0, .slice none 0 0, .string ⟨#[]⟩, .int .u32 0, .int .i64 0, .int .u64 0, .int .u64 0, .int .i64 0, .int .i64 0] : Array Value).size = 12 from rfl]
  have h3 : i % 12 = 0 ∨ i % 12 = 1 ∨ i % 12 = 2 ∨ i % 12 = 3 ∨ i % 12 = 4 ∨ i % 12 = 5 ∨ i % 12 = 6 ∨ i % 12 = 7 ∨ i % 12 = 8 ∨ i % 12 = 9 ∨ i % 12 = 10 ∨ i % 12 = 11 := by omega
  rcases h3 with h | h | h | h | h | h | h | h | h | h | h | h <;> rw [h] <;> rfl
theorem run_clearT (w : World) (ty : TypeId) (b o n c : Nat) (hn : 0 < n) (hc : ∀ j, j < n * 12 → (w.cell? ⟨b, o + j, none⟩).isSome = true) (hf : ∀ j, j < n * 12 → w.frozen? ⟨b, o + j, none⟩ = false) :
    (Builtin.clear_ #[92] ty #[.slice (some ⟨b, o, none⟩) n c]).run Try.prog w = .ok (.tuple #[]) (w.setCells b o (Builtin.zeroCells zTk.cells n).toList) := by
  have hst := run_storeCells_cells (P := Try.prog) b o (Builtin.zeroCells zTk.cells n).toList 0 w (by rw [zsT_len]; simpa using hc) (by rw [zsT_len]; simpa using hf) (zsT_one n)
  simp only [Nat.add_zero] at hst
  obtain ⟨m, rfl⟩ : ∃ m, n = m + 1 := ⟨n - 1, by omega⟩
  have h0 := zeroTk w
  unfold zTk at hst h0 ⊢
  simp [Builtin.clear_, run_underlying Try.underlying92, h0, hst]
set_option maxHeartbeats 1000000 in
theorem delT_any (w : World) (base g cap m : Nat) (d : Td) (l : List Td) (hml : m = l.length + 1) (h : GOwn ET w base (.slice (some ⟨g, 0, none⟩) m cap) (d :: l)) :
    Calls Try.prog 71 #[.slice (some ⟨g, 0, none⟩) m cap, .int .i64 0, .int .i64 1] w fun e w' => e = .returned (.slice (some ⟨g, 0, none⟩) l.length cap) ∧ GOwn ET w' base (.slice (some ⟨g, 0, none⟩) l.length cap) l ∧ w.grownBy w' (some g) := by
  obtain ⟨i0, hi0, hz0, hz1, hz2⟩ := info_parts okT.info
  obtain ⟨cur, hb, hg, hsz, hn, hm, hme, hcl⟩ := h.partsT
  clear hme
  rw [List.length_cons] at hn
  have hm1 : 1 ≤ m := by omega
  have hmc : m ≤ cap := by omega
  have HML : Hid (l.length = m - 1) := by show _ = _; omega
  have hgd : w.drew.heap[g]? = some (.cells cur 68 (0, 0)) := hg
  have hsome : ∀ k, k < cap * 12 → (w.drew.cell? ⟨g, k, none⟩).isSome = true := fun k hk => by
    rw [cell_of_heap hgd, Array.getElem?_eq_getElem (by omega)]; rfl
  obtain ⟨news, hnews⟩ : ∃ news, news = l.flatMap ET.cells := ⟨_, rfl⟩
  have hlen : news.length = l.length * 12 := by rw [hnews]; exact okT.flat_len l
  have hget : ∀ t u, news[t]? = some u → w.cell? ⟨g, 12 + t, none⟩ = some u := fun t u hu => by
    refine hcl _ _ ?_
    rw [List.flatMap_cons, List.getElem?_append_right (by have := okT.len d; show _ ≤ 12 + t; rw [this]; show 12 ≤ 12 + t; omega), okT.len d, ← hnews]
    rw [show 12 + t - ET.sz = t by show 12 + t - 12 = t; omega]
    exact hu
  obtain ⟨A, hA, hsrc⟩ : ∃ A : Addr, (if cap = 1 then some (⟨g, 0, none⟩ : Addr) else some ⟨g, 12, none⟩) = some A ∧ Hid (∀ t u, news[t]? = some u → w.drew.cell? (A.add t) = some u) := by
    by_cases h : cap = 1
    · refine ⟨⟨g, 0, none⟩, by simp [h], fun t u hu => ?_⟩
      have h0 : news.length = 0 := by rw [hlen]; omega
      rw [List.length_eq_zero_iff.1 h0] at hu
      simp at hu
    · refine ⟨⟨g, 12, none⟩, by simp [h], fun t u hu => ?_⟩
      rw [g_add]
      exact hget t u hu
  have s1 : Hid (news.length = (m - 1) * 12) := by show _ = _; rw [← HML.out]; exact hlen
  have s2 : Hid (∀ u ∈ news, u.oneCell' = true) := by intro u hu; rw [hnews] at hu; exact okT.flat_one l u hu
  have s3 : Hid (∀ t, t < news.length → (w.drew.cell? ⟨g, 0 + 0 * 12 + t, none⟩).isSome = true ∧ w.drew.frozen? ⟨g, 0 + 0 * 12 + t, none⟩ = false) := by
    intro t ht
    rw [hlen] at ht
    exact ⟨hsome _ (by omega), frozen_of_heap hgd _⟩
  obtain ⟨W1, hW1⟩ : ∃ W1, W1 = w.drew.setCells g (0 + 0 * 12) news := ⟨_, rfl⟩
  obtain ⟨cur1, hg1, hsz1⟩ := heap_sets news (0 + 0 * 12) hgd
  rw [← hW1] at hg1
  obtain ⟨zs, hzs⟩ : ∃ zs, zs = (Builtin.zeroCells zTk.cells (m - (m - 1))).toList := ⟨_, rfl⟩
  have hcl1 : ∀ ty, (Builtin.clear_ #[92] ty #[.slice (some ⟨g, (m - 1) * 12, none⟩) (m - (m - 1)) (cap - (m - 1))]).run Try.prog W1 = .ok (.tuple #[]) (W1.setCells g ((m - 1) * 12) zs) := fun ty => by
    rw [hzs]
    exact run_clearT W1 ty g _ _ _ (by omega) (fun t ht => by rw [cell_of_heap hg1, Array.getElem?_eq_getElem (by omega)]; rfl) (fun t ht => frozen_of_heap hg1 _)
  obtain ⟨cur2, hg2, hsz2⟩ := heap_sets zs ((m - 1) * 12) hg1
  have HO : Hid (GOwn ET (W1.setCells g ((m - 1) * 12) zs) base (.slice (some ⟨g, 0, none⟩) l.length cap) l) := by
    refine GOwn.mkT hb hg2 (by rw [hsz2, hsz1, hsz]) (by omega) hm ?_
    intro k u hu
    have hk : k < l.length * 12 := by
      have := (List.getElem?_eq_some_iff.1 hu).1
      rw [okT.flat_len] at this
      exact this
    rw [World.cell?_setCells_out g zs _ _ ⟨g, k, none⟩ (fun _ _ => .inl (by show k < _; rw [← HML.out]; exact hk)), hW1]
    rw [← hnews] at hu
    have h3 := World.cell?_setCells_in g news (0 + 0 * 12) w.drew (fun t ht => (s3.out t ht).1) k (List.getElem?_eq_some_iff.1 hu).1
    rw [show 0 + 0 * 12 + k = k by omega] at h3
    rw [h3, (List.getElem?_eq_some_iff.1 hu).2]
  have HG : Hid (w.grownBy (W1.setCells g ((m - 1) * 12) zs) (some g)) := by
    have h1 : w.grownBy W1 (some g) := by
      rw [hW1]
      refine ⟨(World.os_setCells _ _ _ _).trans rfl, ?_, (World.output_setCells _ _ _ _).trans rfl, ?_, fun k hk hne => (World.heap_setCells_other w.drew g _ news (by exact hk) (fun e => hne (by rw [e]))).trans rfl⟩
      · exact tape_sets g news _ _
      · rw [size_sets]; exact Nat.le_refl _
    refine h1.trans ⟨World.os_setCells _ _ _ _, tape_sets g zs _ _, World.output_setCells _ _ _ _, by rw [size_sets]; exact Nat.le_refl _, fun k hk hne => World.heap_setCells_other W1 g _ zs hk (fun e => hne (by rw [e]))⟩
  have HW : Hid (W1 = w.drew.setCells g (0 + 0 * 12) news) := hW1
  have hne : ¬ cap = m - 1 := by omega
  unfold maxLen at hm
  rw [HML.out] at HO ⊢
  have hjc : 1 ≤ cap := by omega
  have hm1i : (1 : Int) ≤ (m : Int) := by omega
  have hm0 : 0 < m := by omega
  have hm0i : (0 : Int) < (m : Int) := by omega
  clear hW1 hg1 hsz1 hg2 hsz2 hzs hcl hget hnews hlen hsome hgd hg hsz h hml hn HML
  go_enter Try.func71, Try.ntmps71
  go_wp2_with fail
  go_region_law (refine step_append_room rfl (.tmp 22) (.tmp 25) 92 rfl 68 i0 12 Try.underlying92 hi0 hz1 g 0 0 cap (by simp [Act.eval, Act.put]) A (m - 1) (cap - 1) news (by simp [Act.eval, Act.put, hA]) s1.out hsrc.out s2.out (by omega) s3.out ?_; rw [← HW.out])
  all_goals
    go_wp2
    go_ret
    exact ⟨by first | rfl | simp, HO.out, HG.out⟩
end Go.Proofs.Ytpnmokmadbapoaa
