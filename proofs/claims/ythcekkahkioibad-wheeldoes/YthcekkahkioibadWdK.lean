/-
  One call of both wheels: what it needs.
-/
import Derived.Test.YthcekkahkioibadWdJ
namespace Go.Proofs.Ythcekkahkioibad
open Go.RowKit
set_option linter.unusedSimpArgs false
set_option linter.unusedVariables false
set_option maxRecDepth 100000

def addD (D : List NU) (now : Nat) (y : Nm) (u : Int) : List NU := if addE now y u = 0 then insT (y, u) (strike y D) else D
def delD (D : List NU) (y : Nm) : List NU := if y.ok then strike y D else D
def unV (L : List NU) (y : Nm) : Int := if y.ok then ((L.find? (fun q => decide (q.1 = y))).map Prod.snd).getD 0 else 0
theorem find_mem {y : Nm} {u : Int} : ∀ {L : List NU}, L.Pairwise (fun p q => p.1 ≠ q.1) → (y, u) ∈ L → L.find? (fun q => decide (q.1 = y)) = some (y, u)
  | [], _, hm => by cases hm
  | x :: L, ha, hm => by
    obtain ⟨h1, h2⟩ := List.pairwise_cons.1 ha
    by_cases e : x.1 = y
    · rcases List.mem_cons.1 hm with rfl | hm
      · simp
      · exact absurd e (h1 _ hm)
    · rcases List.mem_cons.1 hm with rfl | hm
      · exact absurd rfl e
      · rw [List.find?_cons_of_neg (by simp [e])]
        exact find_mem h2 hm
theorem find_none {y : Nm} {L : List NU} (h : ∀ q ∈ L, q.1 ≠ y) : L.find? (fun q => decide (q.1 = y)) = none := List.find?_eq_none.2 (fun q hq => by simpa using h q hq)
theorem unV_mem {y : Nm} {u : Int} {L : List NU} (ho : y.ok) (ha : L.Pairwise (fun p q => p.1 ≠ q.1)) (hm : (y, u) ∈ L) : unV L y = u ∧ delE L y = 0 := by
  unfold unV delE
  rw [if_pos ho, if_pos ho, find_mem ha hm, if_neg (fun h => h _ hm rfl)]
  exact ⟨rfl, rfl⟩
theorem unV_none {y : Nm} {L : List NU} (ho : y.ok) (h : ∀ q ∈ L, q.1 ≠ y) : unV L y = 0 ∧ delE L y = 6 := by
  unfold unV delE
  rw [if_pos ho, if_pos ho, find_none h, if_pos h]
  exact ⟨rfl, rfl⟩
theorem unV_bad {y : Nm} {L : List NU} (ho : ¬ y.ok) : unV L y = 0 ∧ delE L y = 8 := by
  unfold unV delE
  rw [if_neg ho, if_neg ho]
  exact ⟨rfl, rfl⟩
theorem un_perm {D L : List NU} (hP : D.Perm L) (ha : L.Pairwise (fun p q => p.1 ≠ q.1)) (hd : D.Pairwise (fun p q => p.1 ≠ q.1)) (y : Nm) : unV D y = unV L y ∧ delE D y = delE L y := by
  by_cases ho : y.ok
  · by_cases h : ∀ q ∈ L, q.1 ≠ y
    · rw [(unV_none ho h).1, (unV_none ho h).2]
      exact unV_none ho (fun q hq => h q (hP.mem_iff.1 hq))
    · have : ∃ q ∈ L, q.1 = y := Classical.byContradiction fun hn => h (fun q hq e => hn ⟨q, hq, e⟩)
      obtain ⟨⟨x, u⟩, hq, rfl⟩ := this
      rw [(unV_mem ho ha hq).1, (unV_mem ho ha hq).2]
      exact unV_mem ho hd (hP.mem_iff.2 hq)
  · rw [(unV_bad (L := L) ho).1, (unV_bad (L := L) ho).2]
    exact unV_bad ho
theorem until_u (w : World) (p now : Nat) (L : List NU) (b0 : Nat) (mb : Nat → Option Nat) (N : Nat) (h : Wh w p now L L b0 mb N) (y : Nm) :
    Calls Try.prog 13 #[.pointer (some ⟨p, 0, none⟩), .agg #[.int .i64 y.tenant, .string y.key]] w fun e w' => e = .returned (.tuple #[.int .i64 (unV L y), .int .i64 (delE L y)]) ∧ Below w.heap.size w w' := by
  refine (until_any w p now L b0 mb N h y).mono ?_
  rintro e w' ⟨hb, ⟨ho, rfl⟩ | ⟨ho, hn, rfl⟩ | ⟨ho, u, hm, rfl⟩⟩
  · rw [(unV_bad (L := L) ho).1, (unV_bad (L := L) ho).2]; exact ⟨rfl, hb⟩
  · rw [(unV_none ho hn).1, (unV_none ho hn).2]; exact ⟨rfl, hb⟩
  · rw [(unV_mem ho h.apart hm).1, (unV_mem ho h.apart hm).2]; exact ⟨rfl, hb⟩
theorem wuntil_u (w : World) (now : Int) (ao : Option Addr) (D : List NU) (cap : Nat) (h : De w ao D cap) (hl : D.length ≤ 100000) (ha : D.Pairwise (fun p q => p.1 ≠ q.1)) (y : Nm) :
    Calls Try.prog 43 #[wv now ao D.length cap, .agg #[.int .i64 y.tenant, .string y.key]] w fun e w' => e = .returned (.tuple #[.int .i64 (unV D y), .int .i64 (delE D y)]) ∧ Below w.heap.size w w' := by
  refine (wuntil_any w now ao D cap h hl y).mono ?_
  rintro e w' ⟨hb, ⟨ho, rfl⟩ | ⟨ho, hn, rfl⟩ | ⟨ho, u, hm, rfl⟩⟩
  · rw [(unV_bad (L := D) ho).1, (unV_bad (L := D) ho).2]; exact ⟨rfl, hb⟩
  · rw [(unV_none ho hn).1, (unV_none ho hn).2]; exact ⟨rfl, hb⟩
  · rw [(unV_mem ho ha hm).1, (unV_mem ho ha hm).2]; exact ⟨rfl, hb⟩
theorem wadd_all (w : World) (now : Nat) (base : Nat) (ao : Option Addr) (D : List NU) (cap : Nat) (h : OwnE w base (.slice ao D.length cap) D) (hbs : base ≤ w.heap.size) (hl : D.length ≤ 100000) (ha : D.Pairwise (fun p q => p.1 ≠ q.1)) (y : Nm) (u : Int) :
    Calls Try.prog 45 #[wv now ao D.length cap, .agg #[.int .i64 y.tenant, .string y.key], .int .i64 u] w fun e w' => ∃ ro rc, e = .returned (.tuple #[wv now ro (addD D now y u).length rc, .int .i64 (addE now y u)]) ∧ OwnE w' base (.slice ro (addD D now y u).length rc) (addD D now y u) ∧ Below w.heap.size w w' := by
  unfold addD
  by_cases hE : addE now y u = 0
  · rw [if_pos hE, hE]
    refine (wadd_good w now ao D cap h.de' hl ha y u hE).mono ?_
    rintro e w' ⟨ro, rc, rfl, hO, hb⟩
    exact ⟨ro, rc, rfl, hO.down hbs, hb⟩
  · rw [if_neg hE]
    refine (wadd_bad w now ao D cap y u hE).mono ?_
    rintro e w' ⟨rfl, hb⟩
    exact ⟨ao, cap, rfl, h.below hb, hb⟩
theorem wdel_all (w : World) (now : Int) (base : Nat) (ao : Option Addr) (D : List NU) (cap : Nat) (h : OwnE w base (.slice ao D.length cap) D) (hbs : base ≤ w.heap.size) (hl : D.length ≤ 100000) (ha : D.Pairwise (fun p q => p.1 ≠ q.1)) (y : Nm) :
    Calls Try.prog 42 #[wv now ao D.length cap, .agg #[.int .i64 y.tenant, .string y.key]] w fun e w' => ∃ ro rc, e = .returned (.tuple #[wv now ro (delD D y).length rc, .int .i64 (delE D y)]) ∧ OwnE w' base (.slice ro (delD D y).length rc) (delD D y) ∧ Below w.heap.size w w' := by
  refine (wdel_any w now ao D cap h.de' hl ha y).mono ?_
  unfold delD
  rintro e w' ⟨hb, ⟨hn, rfl⟩ | ⟨⟨ho, u, hm⟩, ro, rc, rfl, hO⟩⟩
  · have e1 : (if y.ok then strike y D else D) = D := by
      by_cases ho : y.ok
      · rw [if_pos ho, strike_none (fun q hq e => hn ⟨ho, q.2, by rw [← e]; exact hq⟩)]
      · rw [if_neg ho]
    rw [e1]
    exact ⟨ao, cap, rfl, h.below hb, hb⟩
  · rw [if_pos ho, (unV_mem ho ha hm).2]
    exact ⟨ro, rc, rfl, hO.down hbs, hb⟩
theorem addD_perm {D L : List NU} (hP : D.Perm L) (now : Nat) (y : Nm) (u : Int) : (addD D now y u).Perm (addL L now y u) := by
  unfold addD addL
  split
  · exact (insT_perm _ _).trans ((strike_perm hP).cons _)
  · exact hP
theorem addD_rise {D : List NU} (hr : D.Pairwise tlt) (now : Nat) (y : Nm) (u : Int) : (addD D now y u).Pairwise tlt := by
  unfold addD
  split
  · exact insT_rise (hr.filter _) (fun x hx e => by subst e; exact (mem_strike.1 hx).2 rfl)
  · exact hr
theorem delD_perm {D L : List NU} (hP : D.Perm L) (y : Nm) : (delD D y).Perm (if y.ok then strike y L else L) := by
  unfold delD
  split
  · exact strike_perm hP
  · exact hP
theorem delD_rise {D : List NU} (hr : D.Pairwise tlt) (y : Nm) : (delD D y).Pairwise tlt := by
  unfold delD
  split
  · exact hr.filter _
  · exact hr
theorem perm_apart {D L : List NU} (hP : D.Perm L) (ha : L.Pairwise (fun p q => p.1 ≠ q.1)) : D.Pairwise (fun p q => p.1 ≠ q.1) := (hP.pairwise_iff (fun h => h.symm)).2 ha
/-- a wheel and the document's, side by side -/
structure Sd (w : World) (p base now : Nat) (L : List NU) (b0 : Nat) (mb : Nat → Option Nat) (N : Nat) (ao : Option Addr) (D : List NU) (cap : Nat) : Prop where
  wh : Wh w p now L L b0 mb N
  pb : p < base
  bs : base ≤ w.heap.size
  own : OwnE w base (.slice ao D.length cap) D
  perm : D.Perm L
  rise : D.Pairwise tlt
theorem Sd.below {w w' : World} {p base now : Nat} {L : List NU} {b0 : Nat} {mb : Nat → Option Nat} {N : Nat} {ao : Option Addr} {D : List NU} {cap : Nat} (h : Sd w p base now L b0 mb N ao D cap) (hb : Below w.heap.size w w') : Sd w' p base now L b0 mb N ao D cap :=
  ⟨h.wh.below hb, h.pb, Nat.le_trans h.bs hb.size, h.own.below hb, h.perm, h.rise⟩
theorem Sd.apart {w : World} {p base now : Nat} {L : List NU} {b0 : Nat} {mb : Nat → Option Nat} {N : Nat} {ao : Option Addr} {D : List NU} {cap : Nat} (h : Sd w p base now L b0 mb N ao D cap) : D.Pairwise (fun p q => p.1 ≠ q.1) := perm_apart h.perm h.wh.apart
/-- what one call of both leaves -/
def OneP (w : World) (p base : Nat) (L : List NU) (b0 : Nat) (mb : Nat → Option Nat) (N : Nat) (e : Ending) (w' : World) : Prop :=
  ∃ now' L' mb' ao' D' cap', e = .returned (.tuple #[wv (now' : Nat) ao' D'.length cap', .bool true]) ∧ Sd w' p base now' L' b0 mb' (N + 2 + 2 * L.length) ao' D' cap' ∧ L'.length ≤ L.length + 1 ∧ Kept (Foot p b0 mb) w w' ∧ ∀ k, Foot p b0 mb' k → Foot p b0 mb k ∨ w.heap.size ≤ k
/-- a world on the way of one: its three blocks -/
structure Ox (w W : World) (now : Int) (ao : Option Addr) (n cap : Nat) (k : Int) (y : Nm) (u : Int) : Prop where
  facts : W.cell? ⟨w.heap.size, 0, none⟩ = some (.int .i64 now) ∧ W.cell? ⟨w.heap.size, 1, none⟩ = some (.slice ao n cap) ∧ W.cell? ⟨w.heap.size + 1, 0, none⟩ = some (.int .u8 k) ∧ W.cell? ⟨w.heap.size + 1, 1, none⟩ = some (.int .i64 y.tenant) ∧ W.cell? ⟨w.heap.size + 1, 2, none⟩ = some (.string y.key) ∧ W.cell? ⟨w.heap.size + 1, 3, none⟩ = some (.int .i64 u) ∧ W.cell? ⟨w.heap.size + 1 + 1, 0, none⟩ = some (.int .i64 0) ∧ W.cell? ⟨w.heap.size + 1 + 1, 1, none⟩ = some (.slice none 0 0) ∧ W.frozen? ⟨w.heap.size + 1 + 1, 0, none⟩ = false ∧ W.frozen? ⟨w.heap.size + 1 + 1, 1, none⟩ = false ∧ w.heap.size + 1 + 1 < W.heap.size
  blk : ∃ cs m, W.heap[w.heap.size + 1 + 1]? = some (.cells cs 45 m)
theorem blk_new (w : World) (o : Obj) : (w.alloc o).heap[w.heap.size]? = some o := by unfold World.alloc; exact Array.getElem?_push_size
theorem Ox.begin (w : World) (now : Int) (ao : Option Addr) (n cap : Nat) (k : Int) (y : Nm) (u : Int) : Ox w (((w.alloc (Obj.cells #[.int .i64 now, .slice ao n cap] 45)).alloc (Obj.cells #[.int .u8 k, .int .i64 y.tenant, .string y.key, .int .i64 u] 49)).alloc (Obj.cells #[.int .i64 0, .slice none 0 0] 45)) now ao n cap k y u := by
  obtain ⟨w1, hw1⟩ : ∃ w1, w1 = (w.alloc (Obj.cells #[.int .i64 now, .slice ao n cap] 45)).alloc (Obj.cells #[.int .u8 k, .int .i64 y.tenant, .string y.key, .int .i64 u] 49) := ⟨_, rfl⟩
  rw [← hw1]
  obtain ⟨w0, hw0⟩ : ∃ w0, w0 = w1.alloc (Obj.cells #[.int .i64 0, .slice none 0 0] 45) := ⟨_, rfl⟩
  rw [← hw0]
  have hs1 : w1.heap.size = w.heap.size + 1 + 1 := by rw [hw1]; simp
  have hb1 : Below w1.heap.size w1 w0 := by rw [hw0]; exact (Below.refl _ _).alloc (Nat.le_refl _) _
  have x0 : w.heap.size + 1 + 1 < w0.heap.size := by rw [hw0, ← hs1]; simp
  have t0 : w0.cell? ⟨w1.heap.size, 0, none⟩ = some (.int .i64 0) ∧ w0.cell? ⟨w1.heap.size, 1, none⟩ = some (.slice none 0 0) ∧ w0.frozen? ⟨w1.heap.size, 0, none⟩ = false ∧ w0.frozen? ⟨w1.heap.size, 1, none⟩ = false := by rw [hw0]; simp
  rw [hs1] at t0
  exact ⟨⟨(bcl hb1 _ _ (by omega)).trans (by rw [hw1]; simp), (bcl hb1 _ _ (by omega)).trans (by rw [hw1]; simp), (bcl hb1 _ _ (by omega)).trans (by rw [hw1]; simp), (bcl hb1 _ _ (by omega)).trans (by rw [hw1]; simp), (bcl hb1 _ _ (by omega)).trans (by rw [hw1]; simp), (bcl hb1 _ _ (by omega)).trans (by rw [hw1]; simp), t0.1, t0.2.1, t0.2.2.1, t0.2.2.2, x0⟩, #[.int .i64 0, .slice none 0 0], (0, 0), by rw [hw0, ← hs1]; exact blk_new w1 _⟩
theorem Ox.step {w W W' : World} {now : Int} {ao : Option Addr} {n cap : Nat} {k : Int} {y : Nm} {u : Int} {F : Nat → Prop} (h : Ox w W now ao n cap k y u) (hk : Kept F W W') (hF : ∀ j, F j → j < w.heap.size ∨ w.heap.size + 1 + 1 < j) : Ox w W' now ao n cap k y u := by
  obtain ⟨k0, k1, k2, k3, k4, k5, k6, k7, k8, k9, kA⟩ := h.facts
  have h0 := hk.block w.heap.size (by omega) (fun e => by have := hF _ e; omega)
  have h1 := hk.block (w.heap.size + 1) (by omega) (fun e => by have := hF _ e; omega)
  have h2 := hk.block (w.heap.size + 1 + 1) (by omega) (fun e => by have := hF _ e; omega)
  obtain ⟨cs, m, hbk⟩ := h.blk
  exact ⟨⟨(World.cell?_of_block h0).trans k0, (World.cell?_of_block h0).trans k1, (World.cell?_of_block h1).trans k2, (World.cell?_of_block h1).trans k3, (World.cell?_of_block h1).trans k4, (World.cell?_of_block h1).trans k5, (World.cell?_of_block h2).trans k6, (World.cell?_of_block h2).trans k7, (World.frozen?_of_block h2).trans k8, (World.frozen?_of_block h2).trans k9, Nat.lt_of_lt_of_le kA hk.size⟩, cs, m, h2.trans hbk⟩
theorem Ox.below {w W W' : World} {now : Int} {ao : Option Addr} {n cap : Nat} {k : Int} {y : Nm} {u : Int} (h : Ox w W now ao n cap k y u) (hb : Below W.heap.size W W') : Ox w W' now ao n cap k y u :=
  h.step (F := fun _ => False) (Kept.below hb) (fun _ h => h.elim)
theorem kept_set2 (F : Nat → Prop) (w : World) (X : Nat) (a b : Value) (hX : F X) : Kept F w ((w.setCell ⟨X, 0, none⟩ a).setCell ⟨X, 1, none⟩ b) :=
  ⟨rfl, rfl, rfl, by simp, fun k hk hn => set2_heap w X a b (fun e => hn (by rw [e]; exact hX))⟩
theorem Sd.set2 {w : World} {p base now : Nat} {L : List NU} {b0 : Nat} {mb : Nat → Option Nat} {N : Nat} {ao : Option Addr} {D : List NU} {cap : Nat} (h : Sd w p base now L b0 mb N ao D cap) (X : Nat) (a b : Value) (hX : ¬ Foot p b0 mb X) (hX2 : ∀ g, (Value.slice ao D.length cap).ownBlock = some g → g ≠ X) : Sd ((w.setCell ⟨X, 0, none⟩ a).setCell ⟨X, 1, none⟩ b) p base now L b0 mb N ao D cap :=
  ⟨h.wh.kept (kept_set2 (fun k => k = X) w X a b rfl) (fun k hk e => hX (by rw [← e]; exact hk)), h.pb, by have := h.bs; simpa using this, h.own.same (fun g hg => set2_heap w X a b (hX2 g hg)), h.perm, h.rise⟩
theorem own_wheel_ne {w : World} {base X : Nat} {v : Value} {T : List NU} (h : OwnE w base v T) (hb : ∃ cs m, w.heap[X]? = some (.cells cs 45 m)) : ∀ g, v.ownBlock = some g → g ≠ X := by
  rintro g hg rfl
  obtain ⟨cs, m, hb⟩ := hb
  rcases h.2 with ⟨rfl, _⟩ | ⟨g1, c1, cur1, rfl, _, hg1, _⟩
  · cases hg
  cases hg
  rw [hg1] at hb
  have := Option.some.inj hb
  simp at this
theorem addL_len (L : List NU) (now : Nat) (y : Nm) (u : Int) : (addL L now y u).length ≤ L.length + 1 := by
  unfold addL
  split
  · have : (strike y L).length ≤ L.length := List.length_filter_le _ _
    simp; omega
  · omega
theorem delL_len (L : List NU) (y : Nm) : (if y.ok then strike y L else L).length ≤ L.length + 1 := by
  split
  · have : (strike y L).length ≤ L.length := List.length_filter_le _ _
    omega
  · omega
/-- the end of one -/
theorem one_fin {w w3 : World} {p base now : Nat} {L : List NU} {b0 : Nat} {mb : Nat → Option Nat} {N : Nat} {ao : Option Addr} {D : List NU} {cap : Nat} (h : Sd w p base now L b0 mb N ao D cap) (now' : Nat) (L' : List NU) (mb' : Nat → Option Nat) (ao' : Option Addr) (D' : List NU) (cap' : Nat)
    (hS : Sd w3 p base now' L' b0 mb' (N + 2 + 2 * L.length) ao' D' cap') {c : Int} {a0 : Option Addr} {n0 c0 : Nat} {k : Int} {y : Nm} {u : Int} (hO : Ox w w3 c a0 n0 c0 k y u) (hlen : L'.length ≤ L.length + 1) (hK : Kept (Foot p b0 mb) w w3) (hF : ∀ k, Foot p b0 mb' k → Foot p b0 mb k ∨ w.heap.size + 1 + 1 < k) (a b : Value) :
    OneP w p base L b0 mb N (.returned (.tuple #[wv (now' : Nat) ao' D'.length cap', .bool true])) ((w3.setCell ⟨w.heap.size + 1 + 1, 0, none⟩ a).setCell ⟨w.heap.size + 1 + 1, 1, none⟩ b) := by
  refine ⟨now', L', mb', ao', D', cap', rfl, hS.set2 _ a b (fun hf => ?_) (own_wheel_ne hS.own hO.blk), hlen, hK.trans (kept_set2 (fun k => k = w.heap.size + 1 + 1) w3 _ a b rfl) (fun k hk => .inr (by omega)), fun k hk => ?_⟩
  · rcases hF _ hf with g | g
    · have := h.wh.lt g; omega
    · omega
  · rcases hF k hk with g | g
    · exact .inl g
    · exact .inr (by omega)
theorem Sd.mono {w : World} {p base now : Nat} {L : List NU} {b0 : Nat} {mb : Nat → Option Nat} {N M : Nat} {ao : Option Addr} {D : List NU} {cap : Nat} (h : Sd w p base now L b0 mb N ao D cap) (hM : N ≤ M) : Sd w p base now L b0 mb M ao D cap :=
  ⟨h.wh.mono hM, h.pb, h.bs, h.own, h.perm, h.rise⟩
end Go.Proofs.Ythcekkahkioibad
