/-
  Other rows are asked for: the contract of resize.
-/
import Derived.Test.YtlomciinkpecpaaTbEmpty
import Derived.Deep.OwnRows
namespace Go.Proofs.Ytlomciinkpecpaa
open Go.RowKit
set_option linter.unusedSimpArgs false
set_option linter.unusedVariables false
set_option maxRecDepth 100000

theorem Try.infoRow : (Try.prog.info? 65).map (fun i => (i.zero, i.size, i.bytes)) = some (some (.slice none 0 0), 1, 24) := by kernel_rfl
theorem made_cell (n j : Nat) (h : j < n) : (madeCells #[Value.slice none 0 0] n)[j]? = some (Value.slice none 0 0) := by
  unfold madeCells
  simp [h, Nat.mod_one]
theorem run_rows (n : Nat) (h : n ≤ 2000000) (W : World) :
    (Instr.makeSlice 37 (.int .i64 (n : Int)) (.int .i64 (n : Int))).run Try.prog W = .ok (.slice (some ⟨W.heap.size, 0, none⟩) n n) (W.alloc (.cells (madeCells #[Value.slice none 0 0] n) 65)) :=
  run_make_row' 37 65 (.slice none 0 0) 24 Try.underlying37 Try.infoRow rfl .i64 .i64 n (by omega) (by omega) W
/-- rows, and old rows -/
def two {α : Type} (a b : α) : Bool → α := fun c => if c then b else a
/-- a table whose rows are all old now, and which has new ones -/
theorem Tm.fresh {w : World} {base p : Nat} {blk num : Bool → Nat} {val : Bool → Nat → Value} {ents : Bool → Nat → List NU} {next many moved : Nat} (h : Tm w base p blk num val ents next many moved) (m : Nat) (hm : 1 ≤ m) :
    Tm (((w.setCell ⟨p, 2, none⟩ (.slice (some ⟨blk false, 0, none⟩) (num false) (num false))).setCell ⟨p, 1, none⟩ (.slice (some ⟨w.heap.size, 0, none⟩) m m)).alloc (.cells (madeCells #[Value.slice none 0 0] m) 65)) base p (two w.heap.size (blk false)) (two m (num false)) (two (fun _ => .slice none 0 0) (val false)) (two (fun _ => []) (ents false)) next many moved := by
  have hpos := h.pos
  obtain ⟨hb1, hb2, hb3⟩ := h.pblk false (by omega)
  obtain ⟨w1, hw1⟩ : ∃ x, x = (w.setCell ⟨p, 2, none⟩ (.slice (some ⟨blk false, 0, none⟩) (num false) (num false))).setCell ⟨p, 1, none⟩ (.slice (some ⟨w.heap.size, 0, none⟩) m m) := ⟨_, rfl⟩
  rw [← hw1]
  have hs1 : w1.heap.size = w.heap.size := by rw [hw1]; simp
  have e1 : ∀ k, k ≠ p → w1.heap[k]? = w.heap[k]? := fun k hk => by
    rw [hw1]
    exact (Below.heap_setCell _ ⟨p, 1, none⟩ _ k hk).trans (Below.heap_setCell w ⟨p, 2, none⟩ _ k hk)
  have c2 : w1.cell? ⟨p, 2, none⟩ = some (.slice (some ⟨blk false, 0, none⟩) (num false) (num false)) := by
    rw [hw1, World.cell?_setCell_other _ _ _ _ (by simp)]
    exact World.cell?_setCell_same _ _ _ h.oldc
  have c1 : w1.cell? ⟨p, 1, none⟩ = some (.slice (some ⟨w.heap.size, 0, none⟩) m m) := by
    rw [hw1]
    refine World.cell?_setCell_same _ _ _ (u := .slice (some ⟨blk false, 0, none⟩) (num false) (num false)) ?_
    rw [World.cell?_setCell_other _ _ _ _ (by simp)]
    exact h.rowsc
  have co : ∀ o, o ≠ 1 → o ≠ 2 → w1.cell? ⟨p, o, none⟩ = w.cell? ⟨p, o, none⟩ := fun o h1 h2 => by
    rw [hw1, World.cell?_setCell_other _ _ _ _ (by first | (simp; done) | (simp; omega)), World.cell?_setCell_other _ _ _ _ (by first | (simp; done) | (simp; omega))]
  have f1 : ∀ o, w1.frozen? ⟨p, o, none⟩ = false := fun o => by rw [hw1]; simpa using h.pfree o
  clear hw1
  obtain ⟨w2, hw2⟩ : ∃ x, x = w1.alloc (.cells (madeCells #[Value.slice none 0 0] m) 65) := ⟨_, rfl⟩
  rw [← hw2]
  have hb : Below w1.heap.size w1 w2 := by rw [hw2]; exact (Below.refl _ _).alloc (Nat.le_refl _) _
  have hs2 : w2.heap.size = w.heap.size + 1 := by rw [hw2]; simp [hs1]
  have hnew : w2.heap[w.heap.size]? = some (.cells (madeCells #[Value.slice none 0 0] m) 65 (0, 0)) := by
    rw [hw2, ← hs1]
    unfold World.alloc
    exact Array.getElem?_push_size
  clear hw2
  have hpl := h.plt.2
  have ep : ∀ o, w2.cell? ⟨p, o, none⟩ = w1.cell? ⟨p, o, none⟩ := fun o => bcl hb _ _ (by omega)
  have ek : ∀ k, k ≠ p → k < w.heap.size → w2.heap[k]? = w.heap[k]? := fun k h1 h2 => (hb.block k (by omega)).trans (e1 k h1)
  have nT : two m (num false) true = num false := rfl
  have nF : two m (num false) false = m := rfl
  refine ⟨(ep 0).trans ((co 0 (by omega) (by omega)).trans h.self), (ep 1).trans c1, (ep 2).trans (c2.trans ?_), (ep 3).trans ((co 3 (by omega) (by omega)).trans h.nextc), (ep 4).trans ((co 4 (by omega) (by omega)).trans h.manyc), (ep 5).trans ((co 5 (by omega) (by omega)).trans h.movedc), fun i => (bfr hb _ _ (by omega)).trans (f1 i), ⟨h.plt.1, by omega⟩, fun b i hi => ?_, fun b hb' i => ?_, fun b i hi => ?_, fun b hb' => ?_, fun _ => ?_, fun b i b' i' g hi hi' g1 g2 => ?_, fun b i g hi hg => ?_, hm⟩
  · unfold osl
    rw [nT, if_neg (by omega)]
    rfl
  · cases b
    · show w2.cell? ⟨w.heap.size, i, none⟩ = some (.slice none 0 0)
      rw [cell_of_heap hnew]
      exact made_cell m i hi
    · show w2.cell? ⟨blk false, i, none⟩ = some (val false i)
      exact (World.cell?_of_block (ek _ hb1 hb3)).trans (h.cell false i hi)
  · cases b
    · show w2.frozen? ⟨w.heap.size, i, none⟩ = false
      exact frozen_of_heap hnew i
    · show w2.frozen? ⟨blk false, i, none⟩ = false
      exact (World.frozen?_of_block (ek _ hb1 hb3)).trans (h.free false (by omega) i)
  · cases b
    · exact OwnR.nil _ _
    · exact (h.own false i hi).same (fun g hg => ek g (h.far false i g hi hg).1 ((h.own false i hi).lt g hg).2)
  · cases b
    · exact ⟨by show w.heap.size ≠ p; omega, by show base ≤ w.heap.size; have := h.plt.1; omega, by show w.heap.size < _; omega⟩
    · exact ⟨hb1, hb2, by show blk false < _; omega⟩
  · show blk false ≠ w.heap.size
    omega
  · cases b
    · cases g1
    · cases b'
      · cases g2
      · exact ⟨rfl, (h.sep false i false i' g hi hi' g1 g2).2⟩
  · cases b
    · cases hg
    · have h1 := h.far false i g hi hg
      have h2 := ((h.own false i hi).lt g hg).2
      refine ⟨h1.1, fun b' hb' => ?_⟩
      cases b'
      · show g ≠ w.heap.size
        omega
      · exact h1.2 false (by omega)
theorem Ft.fresh {w : World} {p : Nat} {blk num : Bool → Nat} {val : Bool → Nat → Value} {m : Nat} (hpos : 1 ≤ num false) : ∀ k, Ft p (two w.heap.size (blk false)) (two m (num false)) (two (fun _ => .slice none 0 0) (val false)) k → Ft p blk num val k ∨ w.heap.size ≤ k := by
  rintro k (rfl | ⟨b, hb, rfl⟩ | ⟨b, i, hi, hg⟩)
  · exact .inl (.inl rfl)
  · cases b
    · exact .inr (Nat.le_refl _)
    · exact .inl (.inr (.inl ⟨false, by omega, rfl⟩))
  · cases b
    · cases hg
    · exact .inl (.inr (.inr ⟨false, i, hi, hg⟩))
theorem flat_fresh (num : Bool → Nat) (ents : Bool → Nat → List NU) (h0 : num true = 0) (m : Nat) : flat (two m (num false)) (two (fun _ => []) (ents false)) = flat num ents := by
  unfold flat rowsOf
  rw [h0]
  show (List.range (num false)).flatMap (ents false) ++ (List.range m).flatMap (fun _ => []) = _
  simp
theorem Iv.fresh {num : Bool → Nat} {ents : Bool → Nat → List NU} {next many : Nat} (h : Iv num ents next many) (h0 : num true = 0) (m : Nat) : Iv (two m (num false)) (two (fun _ => []) (ents false)) next many := by
  refine ⟨fun b i hi q hq => ?_, fun b i hi q hq => ?_, ?_, ?_, fun i hi => by have := h.nx; omega, ?_⟩
  · cases b
    · cases hq
    · exact h.home false i hi q hq
  · cases b
    · cases hq
    · exact h.ok false i hi q hq
  · rw [flat_fresh num ents h0]; exact h.apart
  · have := h.nx; show next ≤ num false; omega
  · rw [flat_fresh num ents h0]; exact h.cnt
set_option maxHeartbeats 1000000 in
theorem resize_up (w : World) (base p : Nat) (blk num : Bool → Nat) (val : Bool → Nat → Value) (ents : Bool → Nat → List NU) (next many moved : Nat) (h : Tm w base p blk num val ents next many moved) (hn : num false ≤ 500000) (hmn : many ≤ 500000) (hA : num false < many) :
    Calls Try.prog 45 #[.pointer (some ⟨p, 0, none⟩)] w fun e w' => e = .returned (.tuple #[]) ∧ ∃ m, 1 ≤ m ∧ (m ≤ num false ∨ m < 2 * many) ∧ Tm w' base p (two w.heap.size (blk false)) (two m (num false)) (two (fun _ => .slice none 0 0) (val false)) (two (fun _ => []) (ents false)) next many moved ∧ Kept (Ft p blk num val) w w' := by
  have hpos := h.pos
  have HF := Hid.mk2 (h.fresh (num false * 2) (by omega))
  have hmk : ∀ W, (Instr.makeSlice 37 (.int .i64 ((num false : Int) * 2)) (.int .i64 ((num false : Int) * 2))).run Try.prog W = .ok (.slice (some ⟨W.heap.size, 0, none⟩) (num false * 2) (num false * 2)) (W.alloc (.cells (madeCells #[Value.slice none 0 0] (num false * 2)) 65)) := fun W => by
    have := run_rows (num false * 2) (by omega) W
    rwa [show (((num false * 2) : Nat) : Int) = ((num false : Int) * 2) by simp] at this
  have c1 := h.rowsc
  have c2 := h.oldc
  have c4 := h.manyc
  have f1 := h.pfree 1
  have f2 := h.pfree 2
  have hpl := h.plt.2
  have hne : w.heap.size ≠ p := by omega
  have g1 : decide ((num false : Int) < (many : Int)) = true := by simp; omega
  have g1n : num false < many := hA
  clear h
  go_enter Try.func45, Try.ntmps45
  go_upto_region 5 with (fail)
  go_region
  all_goals
    go_end0
    refine ⟨rfl, num false * 2, by omega, by omega, ?_, ?_⟩
    · first
        | exact HF.out
        | exact HF.out.below ((Below.refl _ _).drew)
        | exact HF.out.below (below_drewR (Below.refl _ _) 1)
    · refine ⟨rfl, rfl, rfl, by simp, fun k hk hnf => ?_⟩
      have hkp : k ≠ p := fun e => hnf (.inl e)
      have e1 : ∀ (W : World) (o : Nat) (v : Value), (W.setCell ⟨p, o, none⟩ v).heap[k]? = W.heap[k]? := fun W o v => Below.heap_setCell W ⟨p, o, none⟩ v k hkp
      have e2 : ∀ (W : World) (o : Obj), k < W.heap.size → (W.alloc o).heap[k]? = W.heap[k]? := fun W o hW => Below.heap_alloc _ _ _ hW
      first
        | (show (World.alloc _ _).heap[k]? = _; rw [e2 _ _ (by simpa using hk), e1, e1])
        | (show (World.setCell _ _ _).heap[k]? = _; rw [e1, e1, e2 _ _ hk])
set_option maxHeartbeats 1000000 in
theorem resize_down (w : World) (base p : Nat) (blk num : Bool → Nat) (val : Bool → Nat → Value) (ents : Bool → Nat → List NU) (next many moved : Nat) (h : Tm w base p blk num val ents next many moved) (hn : num false ≤ 500000) (hmn : many ≤ 500000) (hA : ¬ num false < many) (hB : 8 < num false) (hC : many * 8 < num false) :
    Calls Try.prog 45 #[.pointer (some ⟨p, 0, none⟩)] w fun e w' => e = .returned (.tuple #[]) ∧ ∃ m, 1 ≤ m ∧ (m ≤ num false ∨ m < 2 * many) ∧ Tm w' base p (two w.heap.size (blk false)) (two m (num false)) (two (fun _ => .slice none 0 0) (val false)) (two (fun _ => []) (ents false)) next many moved ∧ Kept (Ft p blk num val) w w' := by
  have hpos := h.pos
  have HF := Hid.mk2 (h.fresh (num false / 2) (by omega))
  have hmk : ∀ W, (Instr.makeSlice 37 (.int .i64 ((num false : Int) / 2)) (.int .i64 ((num false : Int) / 2))).run Try.prog W = .ok (.slice (some ⟨W.heap.size, 0, none⟩) (num false / 2) (num false / 2)) (W.alloc (.cells (madeCells #[Value.slice none 0 0] (num false / 2)) 65)) := fun W => by
    have := run_rows (num false / 2) (by omega) W
    rwa [show (((num false / 2) : Nat) : Int) = ((num false : Int) / 2) by simp] at this
  have c1 := h.rowsc
  have c2 := h.oldc
  have c4 := h.manyc
  have f1 := h.pfree 1
  have f2 := h.pfree 2
  have hpl := h.plt.2
  have hne : w.heap.size ≠ p := by omega
  have g1 : decide ((num false : Int) < (many : Int)) = false := by simp; omega
  have g1n : ¬ num false < many := hA
  have g2 : decide ((8 : Int) < (num false : Int)) = true := by simp; omega
  have g2n : 8 < num false := hB
  have g3 : decide ((many : Int) * 8 < (num false : Int)) = true := by simp; omega
  have g3n : many * 8 < num false := hC
  clear h
  go_enter Try.func45, Try.ntmps45
  go_upto_region 5 with (fail)
  go_region
  all_goals
    go_end0
    refine ⟨rfl, num false / 2, by omega, by omega, ?_, ?_⟩
    · first
        | exact HF.out
        | exact HF.out.below ((Below.refl _ _).drew)
        | exact HF.out.below (below_drewR (Below.refl _ _) 1)
    · refine ⟨rfl, rfl, rfl, by simp, fun k hk hnf => ?_⟩
      have hkp : k ≠ p := fun e => hnf (.inl e)
      have e1 : ∀ (W : World) (o : Nat) (v : Value), (W.setCell ⟨p, o, none⟩ v).heap[k]? = W.heap[k]? := fun W o v => Below.heap_setCell W ⟨p, o, none⟩ v k hkp
      have e2 : ∀ (W : World) (o : Obj), k < W.heap.size → (W.alloc o).heap[k]? = W.heap[k]? := fun W o hW => Below.heap_alloc _ _ _ hW
      first
        | (show (World.alloc _ _).heap[k]? = _; rw [e2 _ _ (by simpa using hk), e1, e1])
        | (show (World.setCell _ _ _).heap[k]? = _; rw [e1, e1, e2 _ _ hk])
set_option maxHeartbeats 1000000 in
theorem resize_not (w : World) (base p : Nat) (blk num : Bool → Nat) (val : Bool → Nat → Value) (ents : Bool → Nat → List NU) (next many moved : Nat) (h : Tm w base p blk num val ents next many moved) (hn : num false ≤ 500000) (hmn : many ≤ 500000) (hA : ¬ num false < many) (hB : ¬ (8 < num false ∧ many * 8 < num false)) :
    Calls Try.prog 45 #[.pointer (some ⟨p, 0, none⟩)] w fun e w' => e = .returned (.tuple #[]) ∧ w' = w := by
  have c1 := h.rowsc
  have c4 := h.manyc
  have g1 : decide ((num false : Int) < (many : Int)) = false := by simp; omega
  have g1n : ¬ num false < many := hA
  clear h
  by_cases h8 : 8 < num false
  · have g2 : decide ((8 : Int) < (num false : Int)) = true := by simp; omega
    have g3 : decide ((many : Int) * 8 < (num false : Int)) = false := by simp; omega
    have g3n : ¬ many * 8 < num false := fun e => hB ⟨h8, e⟩
    go_enter Try.func45, Try.ntmps45
    go_wp2
    try simp only [Exit.inBlock, Exit.then]
    refine bodyPost_ret (results_none rfl _ _ _) rfl ?_
    exact ⟨rfl, rfl⟩
  · have g2 : decide ((8 : Int) < (num false : Int)) = false := by simp; omega
    go_enter Try.func45, Try.ntmps45
    go_wp2
    try simp only [Exit.inBlock, Exit.then]
    refine bodyPost_ret (results_none rfl _ _ _) rfl ?_
    exact ⟨rfl, rfl⟩
end Go.Proofs.Ytlomciinkpecpaa
