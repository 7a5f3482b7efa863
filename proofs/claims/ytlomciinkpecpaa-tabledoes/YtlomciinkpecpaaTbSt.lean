/-
  A table in memory: its block, its rows and its old rows, none of whose blocks is another's.
-/
import Derived.Test.YtlomciinkpecpaaTbDel
namespace Go.Proofs.Ytlomciinkpecpaa
open Go.RowKit
set_option linter.unusedSimpArgs false
set_option linter.unusedVariables false
set_option maxRecDepth 100000

/-- of what was there nothing has turned but blocks in F -/
structure Kept (F : Nat → Prop) (w w' : World) : Prop where
  os : w'.os = w.os
  tape : w'.tape = w.tape
  output : w'.output = w.output
  size : w.heap.size ≤ w'.heap.size
  block : ∀ k, k < w.heap.size → ¬ F k → w'.heap[k]? = w.heap[k]?
theorem Kept.refl (F : Nat → Prop) (w : World) : Kept F w w := ⟨rfl, rfl, rfl, Nat.le_refl _, fun _ _ _ => rfl⟩
theorem Kept.trans {F F' : Nat → Prop} {a b c : World} (h : Kept F a b) (k : Kept F' b c) (hF : ∀ k, F' k → F k ∨ a.heap.size ≤ k) : Kept F a c :=
  ⟨k.os.trans h.os, k.tape.trans h.tape, k.output.trans h.output, Nat.le_trans h.size k.size, fun i hi hn => (k.block i (Nat.lt_of_lt_of_le hi h.size) (fun hf => by
    rcases hF i hf with g | g
    · exact hn g
    · omega)).trans (h.block i hi hn)⟩
theorem Kept.below {F : Nat → Prop} {w w' : World} (h : Below w.heap.size w w') : Kept F w w' := ⟨h.os, h.tape, h.output, h.size, fun k hk _ => h.block k hk⟩
theorem Kept.grown {F : Nat → Prop} {w w' : World} {row : Option Nat} (h : w.grownBy w' row) (hr : ∀ k, row = some k → F k ∨ w.heap.size ≤ k) : Kept F w w' :=
  ⟨h.os, h.tape, h.output, h.size, fun k hk hn => h.block k hk (fun e => by
    rcases hr k e.symm with g | g
    · exact hn g
    · omega)⟩
theorem Kept.to_below {F : Nat → Prop} {w w' : World} {B : Nat} (h : Kept F w w') (hB : B ≤ w.heap.size) (hF : ∀ k, F k → B ≤ k) : Below B w w' :=
  ⟨h.os, h.tape, h.output, h.size, fun k hk => h.block k (by omega) (fun hf => by have := hF k hf; omega)⟩
theorem Kept.set {F : Nat → Prop} (w : World) {g : Nat} (hg : F g) (o : Nat) (v : Value) : Kept F w (w.setCell ⟨g, o, none⟩ v) :=
  ⟨rfl, rfl, rfl, by simp, fun k hk hn => Below.heap_setCell w ⟨g, o, none⟩ v k (fun e => hn (by rw [show k = g from e]; exact hg))⟩

/-- one place of a function is turned -/
def up2 {α : Type} (f : Bool → Nat → α) (b : Bool) (i : Nat) (x : α) : Bool → Nat → α := fun b' i' => if b' = b ∧ i' = i then x else f b' i'
theorem up2_same {α : Type} (f : Bool → Nat → α) (b : Bool) (i : Nat) (x : α) : up2 f b i x b i = x := by simp [up2]
theorem up2_other {α : Type} {f : Bool → Nat → α} {b b' : Bool} {i i' : Nat} {x : α} (h : ¬ (b' = b ∧ i' = i)) : up2 f b i x b' i' = f b' i' := by simp [up2, h]
/-- the slice of the old rows -/
def osl (blk num : Bool → Nat) : Value := if num true = 0 then .slice none 0 0 else .slice (some ⟨blk true, 0, none⟩) (num true) (num true)
/-- the table at p: false are its rows, true the old ones; of each the block, how many there are, their slices and their entries -/
structure Tm (w : World) (base p : Nat) (blk num : Bool → Nat) (val : Bool → Nat → Value) (ents : Bool → Nat → List NU) (next many moved : Nat) : Prop where
  self : w.cell? ⟨p, 0, none⟩ = some (.pointer (some ⟨p, 0, none⟩))
  rowsc : w.cell? ⟨p, 1, none⟩ = some (.slice (some ⟨blk false, 0, none⟩) (num false) (num false))
  oldc : w.cell? ⟨p, 2, none⟩ = some (osl blk num)
  nextc : w.cell? ⟨p, 3, none⟩ = some (.int .i64 next)
  manyc : w.cell? ⟨p, 4, none⟩ = some (.int .i64 many)
  movedc : w.cell? ⟨p, 5, none⟩ = some (.int .i64 moved)
  pfree : ∀ i, w.frozen? ⟨p, i, none⟩ = false
  plt : base ≤ p ∧ p < w.heap.size
  cell : ∀ b i, i < num b → w.cell? ⟨blk b, i, none⟩ = some (val b i)
  free : ∀ b, 0 < num b → ∀ i, w.frozen? ⟨blk b, i, none⟩ = false
  own : ∀ b i, i < num b → OwnR w base (val b i) (ents b i)
  pblk : ∀ b, 0 < num b → blk b ≠ p ∧ base ≤ blk b ∧ blk b < w.heap.size
  bdiff : 0 < num true → blk true ≠ blk false
  sep : ∀ b i b' i' g, i < num b → i' < num b' → (val b i).ownBlock = some g → (val b' i').ownBlock = some g → b = b' ∧ i = i'
  far : ∀ b i g, i < num b → (val b i).ownBlock = some g → g ≠ p ∧ ∀ b', 0 < num b' → g ≠ blk b'
  pos : 1 ≤ num false
/-- a table's blocks -/
def Ft (p : Nat) (blk num : Bool → Nat) (val : Bool → Nat → Value) (k : Nat) : Prop := k = p ∨ (∃ b, 0 < num b ∧ k = blk b) ∨ ∃ b i, i < num b ∧ (val b i).ownBlock = some k
section
variable {w w' : World} {base p : Nat} {blk num : Bool → Nat} {val : Bool → Nat → Value} {ents : Bool → Nat → List NU} {next many moved : Nat}
theorem Tm.lt (h : Tm w base p blk num val ents next many moved) {k : Nat} (hk : Ft p blk num val k) : base ≤ k ∧ k < w.heap.size := by
  rcases hk with rfl | ⟨b, hb, rfl⟩ | ⟨b, i, hi, hg⟩
  · exact h.plt
  · exact (h.pblk b hb).2
  · exact (h.own b i hi).lt k hg
theorem Tm.same (h : Tm w base p blk num val ents next many moved) (hs : w.heap.size ≤ w'.heap.size) (e : ∀ k, Ft p blk num val k → w'.heap[k]? = w.heap[k]?) : Tm w' base p blk num val ents next many moved := by
  have ep := e p (.inl rfl)
  have eb : ∀ b, 0 < num b → w'.heap[blk b]? = w.heap[blk b]? := fun b hb => e _ (.inr (.inl ⟨b, hb, rfl⟩))
  exact ⟨(World.cell?_of_block ep).trans h.self, (World.cell?_of_block ep).trans h.rowsc, (World.cell?_of_block ep).trans h.oldc, (World.cell?_of_block ep).trans h.nextc, (World.cell?_of_block ep).trans h.manyc, (World.cell?_of_block ep).trans h.movedc, fun i => (World.frozen?_of_block ep).trans (h.pfree i), ⟨h.plt.1, Nat.lt_of_lt_of_le h.plt.2 hs⟩,
    fun b i hi => (World.cell?_of_block (eb b (by omega))).trans (h.cell b i hi), fun b hb i => (World.frozen?_of_block (eb b hb)).trans (h.free b hb i), fun b i hi => (h.own b i hi).same (fun g hg => e g (.inr (.inr ⟨b, i, hi, hg⟩))), fun b hb => ⟨(h.pblk b hb).1, (h.pblk b hb).2.1, Nat.lt_of_lt_of_le (h.pblk b hb).2.2 hs⟩, h.bdiff, h.sep, h.far, h.pos⟩
theorem Tm.kept {F : Nat → Prop} (h : Tm w base p blk num val ents next many moved) (hk : Kept F w w') (hF : ∀ k, Ft p blk num val k → ¬ F k) : Tm w' base p blk num val ents next many moved :=
  h.same hk.size (fun k hf => hk.block k (h.lt hf).2 (hF k hf))
theorem Tm.below (h : Tm w base p blk num val ents next many moved) (hb : Below w.heap.size w w') : Tm w' base p blk num val ents next many moved :=
  h.same hb.size (fun k hf => hb.block k (h.lt hf).2)
/-- a row's entries have turned, within its block -/
theorem Tm.slotIn (h : Tm w base p blk num val ents next many moved) {b : Bool} {i : Nat} (hi : i < num b) (hg : w.grownBy w' (val b i).ownBlock) (L : List NU) (hO : OwnR w' base (val b i) L) : Tm w' base p blk num val (up2 ents b i L) next many moved := by
  have ep : w'.heap[p]? = w.heap[p]? := hg.block p h.plt.2 (fun e => (h.far b i p hi e.symm).1 rfl)
  have eb : ∀ b', 0 < num b' → w'.heap[blk b']? = w.heap[blk b']? := fun b' hb' => hg.block _ (h.pblk b' hb').2.2 (fun e => (h.far b i _ hi e.symm).2 b' hb' rfl)
  have hs := hg.size
  refine ⟨(World.cell?_of_block ep).trans h.self, (World.cell?_of_block ep).trans h.rowsc, (World.cell?_of_block ep).trans h.oldc, (World.cell?_of_block ep).trans h.nextc, (World.cell?_of_block ep).trans h.manyc, (World.cell?_of_block ep).trans h.movedc, fun i => (World.frozen?_of_block ep).trans (h.pfree i), ⟨h.plt.1, Nat.lt_of_lt_of_le h.plt.2 hs⟩,
    fun b i hi => (World.cell?_of_block (eb b (by omega))).trans (h.cell b i hi), fun b hb i => (World.frozen?_of_block (eb b hb)).trans (h.free b hb i), fun b' i' hi' => ?_, fun b hb => ⟨(h.pblk b hb).1, (h.pblk b hb).2.1, Nat.lt_of_lt_of_le (h.pblk b hb).2.2 hs⟩, h.bdiff, h.sep, h.far, h.pos⟩
  by_cases e : b' = b ∧ i' = i
  · obtain ⟨rfl, rfl⟩ := e
    rw [up2_same]; exact hO
  · rw [up2_other e]
    exact (h.own b' i' hi').same (fun g hg' => hg.block g ((h.own b' i' hi').lt g hg').2 (fun e2 => e (h.sep b' i' b i g hi' hi hg' e2.symm)))
/-- a row is another slice now -/
theorem Tm.slotSet (h : Tm w base p blk num val ents next many moved) {b : Bool} {i : Nat} (hi : i < num b) (hg : w.grownBy w' (val b i).ownBlock) (v : Value) (L : List NU) (hO : OwnR w' base v L) (hv : ∀ g, v.ownBlock = some g → (val b i).ownBlock = some g ∨ w.heap.size ≤ g) :
    Tm (w'.setCell ⟨blk b, i, none⟩ v) base p blk num (up2 val b i v) (up2 ents b i L) next many moved := by
  have hb0 : 0 < num b := by omega
  have ep0 : w'.heap[p]? = w.heap[p]? := hg.block p h.plt.2 (fun e => (h.far b i p hi e.symm).1 rfl)
  have eb : ∀ b', 0 < num b' → w'.heap[blk b']? = w.heap[blk b']? := fun b' hb' => hg.block _ (h.pblk b' hb').2.2 (fun e => (h.far b i _ hi e.symm).2 b' hb' rfl)
  have hs := hg.size
  have hset : ∀ k, k ≠ blk b → (w'.setCell ⟨blk b, i, none⟩ v).heap[k]? = w'.heap[k]? := fun k hk => Below.heap_setCell w' ⟨blk b, i, none⟩ v k hk
  have ep : (w'.setCell ⟨blk b, i, none⟩ v).heap[p]? = w.heap[p]? := (hset p (fun e => (h.pblk b hb0).1 e.symm)).trans ep0
  have hvb : ∀ g, v.ownBlock = some g → g ≠ p ∧ ∀ b', 0 < num b' → g ≠ blk b' := fun g hg' => by
    rcases hv g hg' with e | e
    · exact h.far b i g hi e
    · exact ⟨by have := h.plt.2; omega, fun b' hb' => by have := (h.pblk b' hb').2.2; omega⟩
  have hvs : ∀ b' i' g, i' < num b' → ¬ (b' = b ∧ i' = i) → (val b' i').ownBlock = some g → v.ownBlock ≠ some g := fun b' i' g hi' hne hg' e => by
    rcases hv g e with e2 | e2
    · exact hne (h.sep b' i' b i g hi' hi hg' e2)
    · have := ((h.own b' i' hi').lt g hg').2; omega
  refine ⟨(World.cell?_of_block ep).trans h.self, (World.cell?_of_block ep).trans h.rowsc, (World.cell?_of_block ep).trans h.oldc, (World.cell?_of_block ep).trans h.nextc, (World.cell?_of_block ep).trans h.manyc, (World.cell?_of_block ep).trans h.movedc, fun i => (World.frozen?_of_block ep).trans (h.pfree i), ⟨h.plt.1, by simpa using Nat.lt_of_lt_of_le h.plt.2 hs⟩,
    fun b' i' hi' => ?_, fun b' hb' j => ?_, fun b' i' hi' => ?_, fun b' hb' => ⟨(h.pblk b' hb').1, (h.pblk b' hb').2.1, by simpa using Nat.lt_of_lt_of_le (h.pblk b' hb').2.2 hs⟩, h.bdiff, fun b1 i1 b2 i2 g h1 h2 g1 g2 => ?_, fun b' i' g hi' hg' => ?_, h.pos⟩
  · have hc : w'.cell? ⟨blk b', i', none⟩ = some (val b' i') := (World.cell?_of_block (eb b' (by omega))).trans (h.cell b' i' hi')
    by_cases e : b' = b ∧ i' = i
    · obtain ⟨rfl, rfl⟩ := e
      rw [up2_same]
      exact World.cell?_setCell_same _ _ _ hc
    · rw [up2_other e, World.cell?_setCell_other _ _ _ _ ?_]
      · exact hc
      · intro e2
        have e3 : blk b = blk b' ∧ i = i' := by simpa using e2
        refine e ⟨?_, e3.2.symm⟩
        cases b <;> cases b'
        · rfl
        · exact absurd e3.1.symm (h.bdiff (by omega))
        · exact absurd e3.1 (h.bdiff hb0)
        · rfl
  · simp only [World.frozen?_setCell]
    exact (World.frozen?_of_block (eb b' hb')).trans (h.free b' hb' j)
  · by_cases e : b' = b ∧ i' = i
    · obtain ⟨rfl, rfl⟩ := e
      rw [up2_same, up2_same]
      exact hO.same (fun g hg' => hset g ((hvb g hg').2 _ hb0))
    · rw [up2_other e, up2_other e]
      have h1 := (h.own b' i' hi').same (w' := w') (fun g hg' => hg.block g ((h.own b' i' hi').lt g hg').2 (fun e2 => e (h.sep b' i' b i g hi' hi hg' e2.symm)))
      exact h1.same (fun g hg' => hset g ((h.far b' i' g hi' hg').2 b hb0))
  · by_cases e1 : b1 = b ∧ i1 = i
    · by_cases e2 : b2 = b ∧ i2 = i
      · exact ⟨e1.1.trans e2.1.symm, e1.2.trans e2.2.symm⟩
      · rw [up2_other e2] at g2
        obtain ⟨rfl, rfl⟩ := e1
        rw [up2_same] at g1
        exact absurd g1 (hvs b2 i2 g h2 e2 g2)
    · rw [up2_other e1] at g1
      by_cases e2 : b2 = b ∧ i2 = i
      · obtain ⟨rfl, rfl⟩ := e2
        rw [up2_same] at g2
        exact absurd g2 (hvs b1 i1 g h1 e1 g1)
      · rw [up2_other e2] at g2
        exact h.sep b1 i1 b2 i2 g h1 h2 g1 g2
  · by_cases e : b' = b ∧ i' = i
    · obtain ⟨rfl, rfl⟩ := e
      rw [up2_same] at hg'
      exact hvb g hg'
    · rw [up2_other e] at hg'
      exact h.far b' i' g hi' hg'
/-- the blocks of a table one of whose rows is another slice now -/
theorem Ft.slot {b : Bool} {i : Nat} {v : Value} (hi : i < num b) (hv : ∀ g, v.ownBlock = some g → (val b i).ownBlock = some g ∨ w.heap.size ≤ g) : ∀ k, Ft p blk num (up2 val b i v) k → Ft p blk num val k ∨ w.heap.size ≤ k := by
  rintro k (rfl | ⟨b', hb', rfl⟩ | ⟨b', i', hi', hg'⟩)
  · exact .inl (.inl rfl)
  · exact .inl (.inr (.inl ⟨b', hb', rfl⟩))
  · by_cases e : b' = b ∧ i' = i
    · obtain ⟨rfl, rfl⟩ := e
      rw [up2_same] at hg'
      rcases hv k hg' with g | g
      · exact .inl (.inr (.inr ⟨b', i', hi', g⟩))
      · exact .inr g
    · rw [up2_other e] at hg'
      exact .inl (.inr (.inr ⟨b', i', hi', hg'⟩))
end
end Go.Proofs.Ytlomciinkpecpaa
