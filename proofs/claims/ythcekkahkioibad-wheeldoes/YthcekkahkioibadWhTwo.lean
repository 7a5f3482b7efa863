/-
  Two wheels side by side: what each call leaves of both.
-/
import Derived.Test.YthcekkahkioibadWhRows
namespace Go.Proofs.Ythcekkahkioibad
open Go.RowKit
set_option linter.unusedSimpArgs false
set_option linter.unusedVariables false
set_option maxRecDepth 100000

/-- two wheels whose blocks are not one another's, and not of A -/
def Two (w : World) (A : Nat → Prop) (p now : Nat) (L : List NU) (N : Nat) (q th : Nat) (M : List NU) (K : Nat) : Prop :=
  ∃ b0 mb c0 mc, Wh w p now L L b0 mb N ∧ Wh w q th M M c0 mc K ∧ (∀ k, A k → k < w.heap.size ∧ ¬ Foot p b0 mb k ∧ ¬ Foot q c0 mc k) ∧ ∀ k, Foot p b0 mb k → ¬ Foot q c0 mc k
theorem Two.swap {w : World} {A : Nat → Prop} {p now : Nat} {L : List NU} {N q th : Nat} {M : List NU} {K : Nat} (h : Two w A p now L N q th M K) : Two w A q th M K p now L N := by
  obtain ⟨b0, mb, c0, mc, h1, h2, h3, h4⟩ := h
  exact ⟨c0, mc, b0, mb, h2, h1, fun k hk => ⟨(h3 k hk).1, (h3 k hk).2.2, (h3 k hk).2.1⟩, fun k a b => h4 k b a⟩
theorem Two.below {w w' : World} {A : Nat → Prop} {p now : Nat} {L : List NU} {N q th : Nat} {M : List NU} {K : Nat} (h : Two w A p now L N q th M K) (hb : Below w.heap.size w w') : Two w' A p now L N q th M K := by
  obtain ⟨b0, mb, c0, mc, h1, h2, h3, h4⟩ := h
  exact ⟨b0, mb, c0, mc, h1.below hb, h2.below hb, fun k hk => ⟨Nat.lt_of_lt_of_le (h3 k hk).1 hb.size, (h3 k hk).2⟩, h4⟩
theorem Two.apart {w : World} {A : Nat → Prop} {p now : Nat} {L : List NU} {N q th : Nat} {M : List NU} {K : Nat} (h : Two w A p now L N q th M K) : L.Pairwise (fun p q => p.1 ≠ q.1) := by
  obtain ⟨b0, mb, c0, mc, h1, h2, h3, h4⟩ := h
  exact h1.apart
theorem Two.gb {w : World} {A : Nat → Prop} {p now : Nat} {L : List NU} {N q th : Nat} {M : List NU} {K : Nat} (h : Two w A p now L N q th M K) : ∀ q ∈ L, q.1.ok ∧ (now : Int) < q.2 ∧ q.2 ≤ 1099511627776 := by
  obtain ⟨b0, mb, c0, mc, h1, h2, h3, h4⟩ := h
  exact h1.gb
theorem two_step {w w' : World} {A : Nat → Prop} {p now : Nat} {L : List NU} {N q th : Nat} {M : List NU} {K : Nat} {b0 c0 : Nat} {mb mc : Nat → Option Nat} (h2 : Wh w q th M M c0 mc K)
    (h3 : ∀ k, A k → k < w.heap.size ∧ ¬ Foot p b0 mb k ∧ ¬ Foot q c0 mc k) (h4 : ∀ k, Foot p b0 mb k → ¬ Foot q c0 mc k) {mb' : Nat → Option Nat} (h1' : Wh w' p now L L b0 mb' N) (hK : Kept (Foot p b0 mb) w w') (hF : ∀ k, Foot p b0 mb' k → Foot p b0 mb k ∨ w.heap.size ≤ k) :
    Two w' A p now L N q th M K ∧ Kept (fun k => ¬ A k) w w' := by
  refine ⟨⟨b0, mb', c0, mc, h1', h2.kept hK (fun k hk hp => h4 k hp hk), fun k hk => ⟨Nat.lt_of_lt_of_le (h3 k hk).1 hK.size, fun hf => ?_, (h3 k hk).2.2⟩, fun k hk hq => ?_⟩, ⟨hK.os, hK.tape, hK.output, hK.size, fun k hk hn => hK.block k hk (fun hf => hn (fun ha => (h3 k ha).2.1 hf))⟩⟩
  · rcases hF k hf with g | g
    · exact (h3 k hk).2.1 g
    · have := (h3 k hk).1; omega
  · rcases hF k hk with g | g
    · exact h4 k g hq
    · have := h2.lt hq; omega
theorem two_new {w0 w1 w2 : World} {A : Nat → Prop} {p q now mu nu : Nat} (hA : ∀ k, A k → k < w0.heap.size) (hp : w0.heap.size ≤ p) (hmu : w0.heap.size ≤ mu) (hb1 : Below w0.heap.size w0 w1) (h1 : Wh w1 p now [] [] mu (fun _ => none) 0)
    (hq : w1.heap.size ≤ q) (hnu : w1.heap.size ≤ nu) (hb2 : Below w1.heap.size w1 w2) (h2 : Wh w2 q now [] [] nu (fun _ => none) 0) : Two w2 A p now [] 0 q now [] 0 := by
  have f1 : ∀ k, Foot p mu (fun _ => none) k → w0.heap.size ≤ k ∧ k < w1.heap.size := fun k hk => by
    have := h1.lt hk
    rcases hk with rfl | rfl | ⟨i, _, e⟩
    · omega
    · omega
    · cases e
  have f2 : ∀ k, Foot q nu (fun _ => none) k → w1.heap.size ≤ k := fun k hk => by
    rcases hk with rfl | rfl | ⟨i, _, e⟩
    · omega
    · omega
    · cases e
  have s1 := hb1.size
  have s2 := hb2.size
  refine ⟨mu, _, nu, _, h1.below hb2, h2, fun k hk => ⟨?_, fun hf => ?_, fun hf => ?_⟩, fun k hk hq => ?_⟩
  · have := hA k hk; omega
  · have := hA k hk; have := f1 k hf; omega
  · have := hA k hk; have := f2 k hf; omega
  · have := f1 k hk; have := f2 k hq; omega
theorem add_two (w : World) (A : Nat → Prop) (p now : Nat) (L : List NU) (N q th : Nat) (M : List NU) (K : Nat) (h : Two w A p now L N q th M K) (hN : N < 100000000) (y : Nm) (u : Int) :
    Calls Try.prog 11 #[.pointer (some ⟨p, 0, none⟩), .agg #[.int .i64 y.tenant, .string y.key], .int .i64 u] w fun e w' => e = .returned (.int .i64 (addE now y u)) ∧ Two w' A p now (addL L now y u) (N + 2) q th M K ∧ Kept (fun k => ¬ A k) w w' := by
  obtain ⟨b0, mb, c0, mc, h1, h2, h3, h4⟩ := h
  refine (add_any w p now L b0 mb N h1 hN y u).mono ?_
  rintro e w' ⟨rfl, mb', g1, g2, g3⟩
  exact ⟨rfl, two_step h2 h3 h4 g1 g2 g3⟩
theorem addAll_two (w : World) (A : Nat → Prop) (p now : Nat) (q th : Nat) (M : List NU) (K : Nat) (h : Two w A p now [] 0 q th M K) (ao : Option Addr) (T : List NU) (cap : Nat) (hT : TAt w ao T) (hTA : T ≠ [] → ∀ b off, ao = some ⟨b, off, none⟩ → A b) (hm : T.length ≤ 200) :
    Calls Try.prog 20 #[.pointer (some ⟨p, 0, none⟩), .slice ao T.length cap] w fun e w' => (∃ v', e = .returned v') ∧ Two w' A p now (addedL now T) 400 q th M K ∧ Kept (fun k => ¬ A k) w w' := by
  obtain ⟨b0, mb, c0, mc, h1, h2, h3, h4⟩ := h
  refine (addAll_eq w p now b0 mb h1 ao T cap hT (fun hne b off e => (h3 b (hTA hne b off e)).2.1) hm).mono ?_
  rintro e w' ⟨v', rfl, H, _, _, mb', g1, g2, g3, rfl⟩
  exact ⟨⟨v', rfl⟩, two_step h2 h3 h4 g1 g2 g3⟩
theorem del_two (w : World) (A : Nat → Prop) (p now : Nat) (L : List NU) (N q th : Nat) (M : List NU) (K : Nat) (h : Two w A p now L N q th M K) (y : Nm) :
    Calls Try.prog 14 #[.pointer (some ⟨p, 0, none⟩), .agg #[.int .i64 y.tenant, .string y.key]] w fun e w' => e = .returned (.int .i64 (delE L y)) ∧ Two w' A p now (if y.ok then strike y L else L) N q th M K ∧ Kept (fun k => ¬ A k) w w' := by
  obtain ⟨b0, mb, c0, mc, h1, h2, h3, h4⟩ := h
  refine (del_any w p now L b0 mb N h1 y).mono ?_
  rintro e w' ⟨rfl, mb', g1, g2, g3⟩
  exact ⟨rfl, two_step h2 h3 h4 g1 g2 g3⟩
theorem Two.len {w : World} {A : Nat → Prop} {p now : Nat} {L : List NU} {N q th : Nat} {M : List NU} {K : Nat} (h : Two w A p now L N q th M K) : L.length ≤ N := by
  obtain ⟨b0, mb, c0, mc, h1, h2, h3, h4⟩ := h
  exact h1.um.len
theorem tickLen_two (w : World) (A : Nat → Prop) (p now : Nat) (L : List NU) (N q th : Nat) (M : List NU) (K : Nat) (h : Two w A p now L N q th M K) (hN : N ≤ 1000000) (t : Nat) (ht : now ≤ t) (ht2 : t ≤ 1099511627776) :
    Calls Try.prog 12 #[.pointer (some ⟨p, 0, none⟩), .int .i64 t] w fun e w' => ∃ (g : Nat) (S : List NU), e = .returned (.tuple #[.slice (some ⟨g, 0, none⟩) S.length S.length, .int .i64 0]) ∧ NmAt w' w.heap.size g (S.map Prod.fst) ∧ S.Perm (dueOf t L) ∧ S.Pairwise tlt ∧
      Two w' (fun k => A k ∨ k = g) p t (restOf t L) (N + 2 * L.length) q th M K ∧ Kept (fun k => ¬ A k) w w' := by
  obtain ⟨b0, mb, c0, mc, h1, h2, h3, h4⟩ := h
  refine (tick_len w p now L b0 mb N h1 hN t ht ht2).mono ?_
  rintro e w' ⟨g, S, rfl, k1, k2, k3, mb', g1, g2, g3, g4⟩
  obtain ⟨⟨b0', mb2, c0', mc', r1, r2, r3, r4⟩, r5⟩ := two_step h2 h3 h4 g1 g2 g3
  refine ⟨g, S, rfl, k1, k2, k3, ⟨b0, mb', c0, mc, g1, h2.kept g2 (fun k hk hp => h4 k hp hk), ?_, ?_⟩, r5⟩
  · rintro k (hk | rfl)
    · refine ⟨Nat.lt_of_lt_of_le (h3 k hk).1 g2.size, fun hf => ?_, (h3 k hk).2.2⟩
      rcases g3 k hf with g | g
      · exact (h3 k hk).2.1 g
      · have := (h3 k hk).1; omega
    · exact ⟨k1.lt, g4, fun hf => by have := h2.lt hf; have := k1.le; omega⟩
  · intro k hk hq
    rcases g3 k hk with g | g
    · exact h4 k g hq
    · have := h2.lt hq; omega
theorem tick_two (w : World) (A : Nat → Prop) (p now : Nat) (L : List NU) (N q th : Nat) (M : List NU) (K : Nat) (h : Two w A p now L N q th M K) (hN : N ≤ 1000000) (t : Nat) (ht : now ≤ t) (ht2 : t ≤ 1099511627776) :
    Calls Try.prog 12 #[.pointer (some ⟨p, 0, none⟩), .int .i64 t] w fun e w' => ∃ (g : Nat) (S : List NU), e = .returned (.tuple #[.slice (some ⟨g, 0, none⟩) S.length S.length, .int .i64 0]) ∧ NmAt w' w.heap.size g (S.map Prod.fst) ∧ S.Perm (dueOf t L) ∧ S.Pairwise tlt ∧
      Two w' (fun k => A k ∨ k = g) p t (restOf t L) (3 * N) q th M K ∧ Kept (fun k => ¬ A k) w w' := by
  have hlen := h.len
  refine (tickLen_two w A p now L N q th M K h hN t ht ht2).mono ?_
  rintro e w' ⟨g, S, h1, h2, h3, h4, ⟨b0, mb, c0, mc, r1, r2, r3⟩, h6⟩
  exact ⟨g, S, h1, h2, h3, h4, ⟨b0, mb, c0, mc, r1.mono (by omega), r2, r3⟩, h6⟩
theorem tickBad_two (w : World) (A : Nat → Prop) (p now : Nat) (L : List NU) (N q th : Nat) (M : List NU) (K : Nat) (h : Two w A p now L N q th M K) (t : Int) (ht : t < (now : Int) ∨ 1099511627776 < t) :
    Calls Try.prog 12 #[.pointer (some ⟨p, 0, none⟩), .int .i64 t] w fun e w' => e = .returned (.tuple #[.slice none 0 0, .int .i64 2]) ∧ w' = w := by
  obtain ⟨b0, mb, c0, mc, h1, h2, h3, h4⟩ := h
  exact tick_bad w p now L b0 mb N h1 t ht
theorem until_two (w : World) (A : Nat → Prop) (p now : Nat) (L : List NU) (N q th : Nat) (M : List NU) (K : Nat) (h : Two w A p now L N q th M K) (y : Nm) (hy : y.ok) (hn : ∀ q ∈ L, q.1 ≠ y) :
    Calls Try.prog 13 #[.pointer (some ⟨p, 0, none⟩), .agg #[.int .i64 y.tenant, .string y.key]] w fun e w' => e = .returned (.tuple #[.int .i64 0, .int .i64 6]) ∧ Below w.heap.size w w' := by
  obtain ⟨b0, mb, c0, mc, h1, h2, h3, h4⟩ := h
  refine (until_any w p now L b0 mb N h1 y).mono ?_
  rintro e w' ⟨hb, hc⟩
  rcases hc with ⟨g, _⟩ | ⟨_, _, rfl⟩ | ⟨_, u, hu, _⟩
  · exact absurd hy g
  · exact ⟨rfl, hb⟩
  · exact absurd rfl (hn _ hu)
theorem sameNames_nil (w : World) :
    Calls Try.prog 22 #[.slice none 0 0, .slice none 0 0] w fun e w' => e = .returned (.bool true) ∧ w' = w := by
  go_enter Try.func22, Try.ntmps22
  go_wp2
  go_loopw [5] (fun i wr => i = .int .i64 0 ∧ wr = w) (fun i _ => 0)
  case atStart => exact ⟨rfl, rfl⟩
  case round =>
    obtain ⟨rfl, rfl⟩ := hrel
    go_wp2
    go_ret
    exact ⟨rfl, rfl⟩
end Go.Proofs.Ythcekkahkioibad
