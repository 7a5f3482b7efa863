/-
  A wheel in memory: its cells, its maps; what stays when parts of it are written.
-/
import Derived.Test.YthcekkahkioibadWhPlace
namespace Go.Proofs.Ythcekkahkioibad
open Go.RowKit
set_option linter.unusedSimpArgs false
set_option linter.unusedVariables false
set_option maxRecDepth 100000

/-- of what was there nothing has turned but blocks in F -/
structure Kept (F : Nat → Prop) (w w' : World) : Prop where
  os : w'.os = w.os
  tape : w'.tape = w.tape
  output : w'.output = w.output
  size : w.heap.size ≤ w'.heap.size
  block : ∀ k, k < w.heap.size → ¬ F k → w'.heap[k]? = w.heap[k]?
theorem Kept.refl (F : Nat → Prop) (w : World) : Kept F w w := ⟨rfl, rfl, rfl, Nat.le_refl _, fun _ _ _ => rfl⟩
theorem Kept.trans {F F' : Nat → Prop} {a b c : World} (h : Kept F a b) (k : Kept F' b c) (hF : ∀ k, F' k → F k ∨ a.heap.size ≤ k) : Kept F a c :=
  ⟨k.os.trans h.os, k.tape.trans h.tape, k.output.trans h.output, Nat.le_trans h.size k.size, fun i hi hn => (k.block i (Nat.lt_of_lt_of_le hi h.size) (fun hf => by
    rcases hF i hf with g | g
    · exact hn g
    · omega)).trans (h.block i hi hn)⟩
theorem Kept.below {F : Nat → Prop} {w w' : World} (h : Below w.heap.size w w') : Kept F w w' := ⟨h.os, h.tape, h.output, h.size, fun k hk _ => h.block k hk⟩
theorem Kept.grown {F : Nat → Prop} {w w' : World} {row : Option Nat} (h : w.grownBy w' row) (hr : ∀ k, row = some k → F k ∨ w.heap.size ≤ k) : Kept F w w' :=
  ⟨h.os, h.tape, h.output, h.size, fun k hk hn => h.block k hk (fun e => by
    rcases hr k e.symm with g | g
    · exact hn g
    · omega)⟩
theorem Kept.to_below {F : Nat → Prop} {w w' : World} {B : Nat} (h : Kept F w w') (hB : B ≤ w.heap.size) (hF : ∀ k, F k → B ≤ k) : Below B w w' :=
  ⟨h.os, h.tape, h.output, h.size, fun k hk => h.block k (by omega) (fun hf => by have := hF k hf; omega)⟩
theorem Mp.same {w w' : World} {b n : Nat} {M : List NU} (h : Mp w b n M) (e : w'.heap[b]? = w.heap[b]?) : Mp w' b n M := by
  obtain ⟨D, ⟨es, clock, hb, r⟩, hi⟩ := h
  exact ⟨D, ⟨es, clock, e.trans hb, r⟩, hi⟩

/-- which slot of all -/
def ix (a : Nat) (u : Int) : Nat := 64 * ring a u.toNat + slot a u.toNat
theorem ix_lt {a : Nat} {u : Int} (ha : a ≤ 1099511627776) (hu : u ≤ 1099511627776) : ix a u < 448 := by
  have h1 := ring_le ha (show u.toNat ≤ 1099511627776 by omega)
  have h2 := slot_lt a u.toNat
  unfold ix
  omega
def part (a : Nat) (i : Nat) (G : List NU) : List NU := G.filter (fun q => decide (ix a q.2 = i))
theorem mem_part {a i : Nat} {G : List NU} {q : NU} : q ∈ part a i G ↔ q ∈ G ∧ ix a q.2 = i := by simp [part]
theorem part_none {a i : Nat} {G : List NU} (h : ∀ q ∈ G, ix a q.2 ≠ i) : part a i G = [] := List.filter_eq_nil_iff.2 (fun q hq => by simpa using h q hq)

structure Wh (w : World) (p now : Nat) (U G : List NU) (b0 : Nat) (mb : Nat → Option Nat) (N : Nat) : Prop where
  self : w.cell? ⟨p, 0, none⟩ = some (.pointer (some ⟨p, 0, none⟩))
  nowc : w.cell? ⟨p, 1, none⟩ = some (.int .i64 now)
  untilc : w.cell? ⟨p, 2, none⟩ = some (.map (some b0))
  ringc : ∀ i, i < 448 → w.cell? ⟨p, 3 + i, none⟩ = some (.map (mb i))
  free : ∀ i, w.frozen? ⟨p, i, none⟩ = false
  small : now ≤ 1099511627776
  um : Mp w b0 N U
  gm : ∀ i b, i < 448 → mb i = some b → Mp w b N (part now i G)
  gn : ∀ i, i < 448 → mb i = none → ∀ q ∈ G, ix now q.2 ≠ i
  gb : ∀ q ∈ G, q.1.ok ∧ (now : Int) < q.2 ∧ q.2 ≤ 1099511627776
  apart : G.Pairwise (fun p q => p.1 ≠ q.1)
  inj : ∀ i j b, i < 448 → j < 448 → mb i = some b → mb j = some b → i = j
  b0p : b0 ≠ p
  b0m : ∀ i, i < 448 → mb i ≠ some b0
  mp : ∀ i, i < 448 → mb i ≠ some p
def Foot (p b0 : Nat) (mb : Nat → Option Nat) (k : Nat) : Prop := k = p ∨ k = b0 ∨ ∃ i, i < 448 ∧ mb i = some k
theorem Wh.lt {w : World} {p now : Nat} {U G : List NU} {b0 : Nat} {mb : Nat → Option Nat} {N : Nat} (h : Wh w p now U G b0 mb N) {k : Nat} (hk : Foot p b0 mb k) : k < w.heap.size := by
  rcases hk with rfl | rfl | ⟨i, hi, e⟩
  · exact World.block_lt_of_cell? w _ h.self
  · exact h.um.lt
  · exact (h.gm i k hi e).lt
theorem Wh.same {w w' : World} {p now : Nat} {U G : List NU} {b0 : Nat} {mb : Nat → Option Nat} {N : Nat} (h : Wh w p now U G b0 mb N) (e : ∀ k, Foot p b0 mb k → w'.heap[k]? = w.heap[k]?) : Wh w' p now U G b0 mb N := by
  have ep := e p (.inl rfl)
  exact ⟨(World.cell?_of_block ep).trans h.self, (World.cell?_of_block ep).trans h.nowc, (World.cell?_of_block ep).trans h.untilc, fun i hi => (World.cell?_of_block ep).trans (h.ringc i hi), fun i => (World.frozen?_of_block ep).trans (h.free i), h.small,
    h.um.same (e b0 (.inr (.inl rfl))), fun i b hi hb => (h.gm i b hi hb).same (e b (.inr (.inr ⟨i, hi, hb⟩))), h.gn, h.gb, h.apart, h.inj, h.b0p, h.b0m, h.mp⟩
theorem Wh.kept {F : Nat → Prop} {w w' : World} {p now : Nat} {U G : List NU} {b0 : Nat} {mb : Nat → Option Nat} {N : Nat} (h : Wh w p now U G b0 mb N) (k : Kept F w w') (hF : ∀ k, Foot p b0 mb k → ¬ F k) : Wh w' p now U G b0 mb N :=
  h.same (fun j hj => k.block j (h.lt hj) (hF j hj))
theorem Wh.below {w w' : World} {p now : Nat} {U G : List NU} {b0 : Nat} {mb : Nat → Option Nat} {N : Nat} (h : Wh w p now U G b0 mb N) (k : Below w.heap.size w w') : Wh w' p now U G b0 mb N :=
  h.same (fun j hj => k.block j (h.lt hj))
theorem Wh.mono {w : World} {p now : Nat} {U G : List NU} {b0 : Nat} {mb : Nat → Option Nat} {N N' : Nat} (h : Wh w p now U G b0 mb N) (hn : N ≤ N') : Wh w p now U G b0 mb N' :=
  ⟨h.self, h.nowc, h.untilc, h.ringc, h.free, h.small, h.um.mono hn, fun i b hi hb => (h.gm i b hi hb).mono hn, h.gn, h.gb, h.apart, h.inj, h.b0p, h.b0m, h.mp⟩
theorem Wh.perm {w : World} {p now : Nat} {U G U' G' : List NU} {b0 : Nat} {mb : Nat → Option Nat} {N : Nat} (h : Wh w p now U G b0 mb N) (hU : U.Perm U') (hG : G.Perm G') : Wh w p now U' G' b0 mb N :=
  ⟨h.self, h.nowc, h.untilc, h.ringc, h.free, h.small, h.um.perm hU, fun i b hi hb => (h.gm i b hi hb).perm (hG.filter _), fun i hi e q hq => h.gn i hi e q (hG.mem_iff.2 hq), fun q hq => h.gb q (hG.mem_iff.2 hq), (hG.pairwise_iff (fun {_ _} hne => Ne.symm hne)).1 h.apart, h.inj, h.b0p, h.b0m, h.mp⟩

def upd (mb : Nat → Option Nat) (i : Nat) (x : Option Nat) : Nat → Option Nat := fun j => if j = i then x else mb j
theorem upd_same (mb : Nat → Option Nat) (i : Nat) (x : Option Nat) : upd mb i x i = x := by simp [upd]
theorem upd_other {mb : Nat → Option Nat} {i j : Nat} {x : Option Nat} (h : j ≠ i) : upd mb i x j = mb j := by simp [upd, h]

theorem Mp.setCell {w : World} {b n : Nat} {M : List NU} (h : Mp w b n M) {a : Addr} (hb : b ≠ a.block) (v : Value) : Mp (w.setCell a v) b n M := h.same (Below.heap_setCell w a v b hb)

/-- a slot is given a map, or none -/
theorem Wh.ring {w : World} {p now : Nat} {U G : List NU} {b0 : Nat} {mb : Nat → Option Nat} {N : Nat} (h : Wh w p now U G b0 mb N) {i : Nat} (hi : i < 448) (x : Option Nat) (G' : List NU) (hsub : ∀ q ∈ G', q ∈ G) (hap : G'.Pairwise (fun p q => p.1 ≠ q.1))
    (hpart : ∀ j, j ≠ i → part now j G' = part now j G) (hn : x = none → ∀ q ∈ G', ix now q.2 ≠ i) (hs : ∀ b, x = some b → Mp w b N (part now i G') ∧ b ≠ p ∧ b ≠ b0 ∧ ∀ j, j < 448 → j ≠ i → mb j ≠ some b) :
    Wh (w.setCell ⟨p, 3 + i, none⟩ (.map x)) p now U G' b0 (upd mb i x) N := by
  have hc := h.ringc i hi
  refine ⟨?_, ?_, ?_, fun j hj => ?_, fun j => ?_, h.small, h.um.setCell h.b0p _, fun j b hj e => ?_, fun j hj e q hq => ?_, fun q hq => h.gb q (hsub q hq), hap, fun j k b hj hk e1 e2 => ?_, h.b0p, fun j hj e => ?_, fun j hj e => ?_⟩
  · rw [World.cell?_setCell_other _ _ _ _ (by first | (simp; done) | (simp; omega))]; exact h.self
  · rw [World.cell?_setCell_other _ _ _ _ (by first | (simp; done) | (simp; omega))]; exact h.nowc
  · rw [World.cell?_setCell_other _ _ _ _ (by first | (simp; done) | (simp; omega))]; exact h.untilc
  · by_cases e : j = i
    · subst e
      rw [upd_same]
      exact World.cell?_setCell_same _ _ _ hc
    · rw [upd_other e, World.cell?_setCell_other _ _ _ _ (by first | (simp; done) | (simp; omega))]
      exact h.ringc j hj
  · rw [World.frozen?_setCell]; exact h.free j
  · by_cases e' : j = i
    · subst e'
      rw [upd_same] at e
      obtain ⟨h1, h2, _⟩ := hs b e
      exact h1.setCell h2 _
    · rw [upd_other e'] at e
      rw [hpart j e']
      exact (h.gm j b hj e).setCell (fun eb => h.mp j hj (by rw [e, eb])) _
  · by_cases e' : j = i
    · subst e'
      rw [upd_same] at e
      exact hn e q hq
    · rw [upd_other e'] at e
      exact h.gn j hj e q (hsub q hq)
  · by_cases ej : j = i
    · by_cases ek : k = i
      · rw [ej, ek]
      · subst ej
        rw [upd_same] at e1
        rw [upd_other ek] at e2
        exact absurd e2 ((hs b e1).2.2.2 k hk ek)
    · by_cases ek : k = i
      · subst ek
        rw [upd_same] at e2
        rw [upd_other ej] at e1
        exact absurd e1 ((hs b e2).2.2.2 j hj ej)
      · rw [upd_other ej] at e1
        rw [upd_other ek] at e2
        exact h.inj j k b hj hk e1 e2
  · by_cases e' : j = i
    · subst e'
      rw [upd_same] at e
      exact (hs b0 e).2.2.1 rfl
    · rw [upd_other e'] at e
      exact h.b0m j hj e
  · by_cases e' : j = i
    · subst e'
      rw [upd_same] at e
      exact (hs p e).2.1 rfl
    · rw [upd_other e'] at e
      exact h.mp j hj e

/-- a slot's map is written -/
theorem Wh.turned {w w' : World} {p now : Nat} {U G : List NU} {b0 : Nat} {mb : Nat → Option Nat} {N : Nat} (h : Wh w p now U G b0 mb N) {i b : Nat} (hi : i < 448) (hb : mb i = some b) (ht : w.mapTurned w' b) (N' : Nat) (hN : N ≤ N') (G' : List NU) (hap : G'.Pairwise (fun p q => p.1 ≠ q.1))
    (hgb : ∀ q ∈ G', q.1.ok ∧ (now : Int) < q.2 ∧ q.2 ≤ 1099511627776) (hpart : ∀ j, j ≠ i → part now j G' = part now j G) (hm : Mp w' b N' (part now i G')) : Wh w' p now U G' b0 mb N' := by
  have hg := ht.grown
  have ne : ∀ k, k < w.heap.size → k ≠ b → w'.heap[k]? = w.heap[k]? := fun k hk e => hg.block k hk (fun e' => e (by simpa using e'))
  have hpb : p ≠ b := fun e => h.mp i hi (by rw [hb, e])
  have ep := ne p (h.lt (.inl rfl)) hpb
  refine ⟨(World.cell?_of_block ep).trans h.self, (World.cell?_of_block ep).trans h.nowc, (World.cell?_of_block ep).trans h.untilc, fun j hj => (World.cell?_of_block ep).trans (h.ringc j hj), fun j => (World.frozen?_of_block ep).trans (h.free j), h.small,
    (h.um.same (ne b0 h.um.lt (fun e => h.b0m i hi (by rw [hb, e])))).mono hN, fun j c hj hc => ?_, fun j hj e q hq hx => ?_, hgb, hap, h.inj, h.b0p, h.b0m, h.mp⟩
  · by_cases e : j = i
    · subst e
      have : c = b := by rw [hb] at hc; simpa using hc.symm
      rw [this]; exact hm
    · rw [hpart j e]
      exact ((h.gm j c hj hc).same (ne c (h.gm j c hj hc).lt (fun e' => e (h.inj j i c hj hi hc (by rw [hb, e']))))).mono hN
  · have hji : j ≠ i := fun e' => by rw [e', hb] at e; cases e
    have h1 : q ∈ part now j G := by rw [← hpart j hji]; exact mem_part.2 ⟨hq, hx⟩
    exact h.gn j hj e q (mem_part.1 h1).1 hx
/-- the map of all names is written -/
theorem Wh.turned0 {w w' : World} {p now : Nat} {U G : List NU} {b0 : Nat} {mb : Nat → Option Nat} {N : Nat} (h : Wh w p now U G b0 mb N) (ht : w.mapTurned w' b0) (N' : Nat) (hN : N ≤ N') (U' : List NU) (hm : Mp w' b0 N' U') : Wh w' p now U' G b0 mb N' := by
  have hg := ht.grown
  have ne : ∀ k, k < w.heap.size → k ≠ b0 → w'.heap[k]? = w.heap[k]? := fun k hk e => hg.block k hk (fun e' => e (by simpa using e'))
  have ep := ne p (h.lt (.inl rfl)) h.b0p.symm
  exact ⟨(World.cell?_of_block ep).trans h.self, (World.cell?_of_block ep).trans h.nowc, (World.cell?_of_block ep).trans h.untilc, fun j hj => (World.cell?_of_block ep).trans (h.ringc j hj), fun j => (World.frozen?_of_block ep).trans (h.free j), h.small,
    hm, fun j c hj hc => ((h.gm j c hj hc).same (ne c (h.gm j c hj hc).lt (fun e' => h.b0m j hj (by rw [hc, e'])))).mono hN, h.gn, h.gb, h.apart, h.inj, h.b0p, h.b0m, h.mp⟩
/-- the clock goes on: all that stands stays where it stands -/
theorem Wh.moved {w : World} {p now : Nat} {U G : List NU} {b0 : Nat} {mb : Nat → Option Nat} {N : Nat} (h : Wh w p now U G b0 mb N) (now' : Nat) (hn : now' ≤ 1099511627776) (hs : ∀ q ∈ G, (now' : Int) < q.2 ∧ ix now' q.2 = ix now q.2) :
    Wh (w.setCell ⟨p, 1, none⟩ (.int .i64 now')) p now' U G b0 mb N := by
  have hpart : ∀ i, part now' i G = part now i G := fun i => List.filter_congr (fun q hq => by rw [(hs q hq).2])
  refine ⟨?_, World.cell?_setCell_same _ _ _ h.nowc, ?_, fun j hj => ?_, fun j => ?_, hn, h.um.setCell h.b0p _, fun j b hj e => ?_, fun j hj e q hq => ?_, fun q hq => ⟨(h.gb q hq).1, (hs q hq).1, (h.gb q hq).2.2⟩, h.apart, h.inj, h.b0p, h.b0m, h.mp⟩
  · rw [World.cell?_setCell_other _ _ _ _ (by simp)]; exact h.self
  · rw [World.cell?_setCell_other _ _ _ _ (by simp)]; exact h.untilc
  · rw [World.cell?_setCell_other _ _ _ _ (by first | (simp; done) | (simp; omega))]; exact h.ringc j hj
  · rw [World.frozen?_setCell]; exact h.free j
  · rw [hpart]
    exact (h.gm j b hj e).setCell (fun eb => h.mp j hj (by rw [e, eb])) _
  · rw [(hs q hq).2]; exact h.gn j hj e q hq
end Go.Proofs.Ythcekkahkioibad
