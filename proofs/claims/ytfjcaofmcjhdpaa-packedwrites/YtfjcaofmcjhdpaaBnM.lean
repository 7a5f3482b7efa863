/-
  Bytes in memory: b[k:], literals that a call made.
-/
import Derived.Test.YtfjcaofmcjhdpaaGy
namespace Go.Proofs.Ytfjcaofmcjhdpaa
open Go.Proofs.Ytfjcaofmcjhdpaa.It
open Go.RowKit
set_option linter.unusedSimpArgs false
set_option linter.unusedVariables false
set_option maxRecDepth 100000

theorem g_news {α : Type} {E : GEl α} (K : GOk E) (w : World) (l : List α) (cs : List Value) (hcs : cs = l.flatMap E.cells) (hl : l.length ≤ 1000) : GRd E (w.alloc (.cells cs.toArray E.e)) (some ⟨w.heap.size, 0, none⟩) l l.length := by
  subst hcs
  refine ⟨Nat.le_refl _, by omega, (by intro e; cases e), .inr ⟨w.heap.size, 0, rfl, by simp, fun i hi j hj => ?_⟩⟩
  have h1 := K.flat_get l i j hi hj
  simp only [Nat.zero_add]
  rw [← h1]
  simp
theorem GOwn.fresh {α : Type} {E : GEl α} (K : GOk E) (w : World) (l : List α) (cs : List Value) (hcs : cs = l.flatMap E.cells) (hl : l.length ≤ 1000) : GOwn E (w.alloc (.cells cs.toArray E.e)) w.heap.size (.slice (some ⟨w.heap.size, 0, none⟩) l.length l.length) l := by
  subst hcs
  have hn := K.flat_len l
  refine ⟨hn, .inr ⟨w.heap.size, l.length, (l.flatMap E.cells).toArray, rfl, Nat.le_refl _, ?_, Nat.le_refl _, ?_, ?_, ?_⟩⟩
  · show (w.heap.push _)[w.heap.size]? = _
    simp
  · have : maxLen = 9223372036854775807 := rfl
    omega
  · simpa using hn
  · rw [List.take_of_length_le (by show (l.flatMap E.cells).length ≤ _; omega)]

def restA (ao : Option Addr) (k cap : Nat) : Option Addr := if cap = k then ao else ao.map (·.add k)
theorem rest_rd {V : World} {ao : Option Addr} {L : List UInt8} {cap : Nat} (h : GRd EY V ao L cap) (k : Nat) (hk : k ≤ L.length) : GRd EY V (restA ao k cap) (L.drop k) (cap - k) := by
  have hl := h.hl
  refine ⟨by rw [List.length_drop]; omega, Nat.le_trans (Nat.sub_le _ _) h.hc, fun e => ?_, ?_⟩
  · unfold restA at e
    split at e
    · omega
    · cases ao with
      | none => have := h.hn rfl; omega
      | some a => cases e
  · by_cases hne : L.drop k = []
    · exact .inl hne
    · have hlt : k < L.length := by
        rcases Nat.lt_or_ge k L.length with h1 | h1
        · exact h1
        · exact absurd (List.drop_of_length_le h1) hne
      obtain ⟨b, off, rfl, hb, hc⟩ := h.lies (by intro e; rw [e] at hlt; simp at hlt)
      refine .inr ⟨b, off + k, ?_, hb, fun i hi j hj => ?_⟩
      · unfold restA
        rw [if_neg (by omega)]
        simp [g_add]
      · rw [List.length_drop] at hi
        have h2 := hc (k + i) (by omega) j hj
        have e : off + k + i * EY.sz + j = off + (k + i) * EY.sz + j := by show off + k + i * 1 + j = off + (k + i) * 1 + j; omega
        rw [e, h2, List.getElem_drop]
theorem sliced_l (ao : Option Addr) (k m cap : Nat) : sliced ao k m cap 1 = .slice (restA ao k cap) (m - k) (cap - k) := by
  unfold sliced restA
  rw [Nat.mul_one]
theorem wpl_slice_l {ops : Array Oper} {rest : List Oper} {o : Oper} {a : Act} {w : World} {Q : Exit → Act → World → Prop} (hgd : o.guard = none) (s x : Operand) (ho : o.op = .slice 22 s (some x) none none) (ao : Option Addr) (k m cap : Nat) (hs : a.eval s = .slice ao m cap) (hx : a.eval x = .int .i64 (k : Int)) (hk : k ≤ m)
    (h : wpList Try.prog ops Q rest (a.put o.dst (.slice (restA ao k cap) (m - k) (cap - k))) w) : wpList Try.prog ops Q (o :: rest) a w := by
  refine wpList_plain hgd fun K hK => ?_
  have he : Try.prog.elem 22 = 5 := by kernel_rfl
  have hu : Try.prog.underlying 22 = some (.slice (Try.prog.elem 22)) := by rw [he]; exact Try.underlying22
  have h1 : (Instr.sliceAt 22 (.slice ao m cap) (some (.int .i64 (k : Int))) none none).run Try.prog w = .ok (.slice (restA ao k cap) (m - k) (cap - k)) w := by
    rw [run_sliceAt_slice w 22 _ _ _ _ hu, run_slice_l w 22 ao m cap hu .i64 (k : Int) (by omega) (by omega), he, Try.sizeOf5]
    show Result.ok (sliced ao (k : Int).toNat m cap 1) w = _
    rw [Int.toNat_natCast, sliced_l]
  unfold Oper.wp execOp
  simp only [ho, hs, hx, Option.map_some, Option.map_none, Sem.run_bind, Sem.run_pure, Result.andThen_ok, h1]
  exact hK _ _ h
end Go.Proofs.Ytfjcaofmcjhdpaa
