/-
  A wheel that a call made, and what its calls leave; SameNames; alive.
-/
import Derived.Test.YthcekkahkioibadWhTick
namespace Go.Proofs.Ythcekkahkioibad
open Go.RowKit Go.Sort
set_option linter.unusedSimpArgs false
set_option linter.unusedVariables false
set_option maxRecDepth 100000

theorem below_drewN {B : Nat} {w w' : World} (h : Below B w w') (n : Nat) : Below B w (w'.drewN n) := ⟨h.os, h.tape, h.output, h.size, h.block⟩
/-- a wheel whose blocks are all from B on -/
def Wl (w : World) (B p now : Nat) (L : List NU) (N : Nat) : Prop := ∃ b0 mb, Wh w p now L L b0 mb N ∧ ∀ k, Foot p b0 mb k → B ≤ k
theorem Wl.below {w w' : World} {B p now : Nat} {L : List NU} {N : Nat} (h : Wl w B p now L N) (hb : Below w.heap.size w w') : Wl w' B p now L N := by
  obtain ⟨b0, mb, h1, h2⟩ := h
  exact ⟨b0, mb, h1.below hb, h2⟩
theorem Wl.apart {w : World} {B p now : Nat} {L : List NU} {N : Nat} (h : Wl w B p now L N) : L.Pairwise (fun p q => p.1 ≠ q.1) := by
  obtain ⟨b0, mb, h1, h2⟩ := h
  exact h1.apart
theorem Wl.bound {w : World} {B p now : Nat} {L : List NU} {N : Nat} (h : Wl w B p now L N) : ∀ q ∈ L, q.1.ok ∧ (now : Int) < q.2 ∧ q.2 ≤ 1099511627776 := by
  obtain ⟨b0, mb, h1, h2⟩ := h
  exact h1.gb
theorem new_wl (w : World) (now : Nat) (hn : now ≤ 1099511627776) :
    Calls Try.prog 10 #[.int .i64 now] w fun e w' => ∃ p, e = .returned (.tuple #[.pointer (some ⟨p, 0, none⟩), .int .i64 0]) ∧ Wl w' w.heap.size p now [] 0 ∧ Below w.heap.size w w' := by
  refine (new_any w now hn).mono ?_
  rintro e w' ⟨p, rfl, hp, hb, b0, hW, hb0⟩
  refine ⟨p, rfl, ⟨b0, _, hW, fun k hk => ?_⟩, hb⟩
  rcases hk with rfl | rfl | ⟨i, _, e⟩
  · exact hp
  · exact hb0
  · cases e
theorem add_wl (w : World) (B p now : Nat) (L : List NU) (N : Nat) (h : Wl w B p now L N) (hB : B ≤ w.heap.size) (hN : N < 100000000) (y : Nm) (u : Int) :
    Calls Try.prog 11 #[.pointer (some ⟨p, 0, none⟩), .agg #[.int .i64 y.tenant, .string y.key], .int .i64 u] w fun e w' => e = .returned (.int .i64 (addE now y u)) ∧ Wl w' B p now (addL L now y u) (N + 2) ∧ Below B w w' := by
  obtain ⟨b0, mb, h1, h2⟩ := h
  refine (add_any w p now L b0 mb N h1 hN y u).mono ?_
  rintro e w' ⟨rfl, mb', hW, hK, hF⟩
  exact ⟨rfl, ⟨b0, mb', hW, fun k hk => (hF k hk).elim (h2 k) (fun g => by omega)⟩, hK.to_below hB h2⟩
theorem tick_wl (w : World) (B p now : Nat) (L : List NU) (N : Nat) (h : Wl w B p now L N) (hB : B ≤ w.heap.size) (hN : N ≤ 1000000) (t : Nat) (ht : now ≤ t) (ht2 : t ≤ 1099511627776) :
    Calls Try.prog 12 #[.pointer (some ⟨p, 0, none⟩), .int .i64 t] w fun e w' => ∃ (g : Nat) (S : List NU), e = .returned (.tuple #[.slice (some ⟨g, 0, none⟩) S.length S.length, .int .i64 0]) ∧ NmAt w' w.heap.size g (S.map Prod.fst) ∧ S.Perm (dueOf t L) ∧ S.Pairwise tlt ∧
      Wl w' B p t (restOf t L) (3 * N) ∧ Below B w w' := by
  obtain ⟨b0, mb, h1, h2⟩ := h
  refine (tick_any w p now L b0 mb N h1 hN t ht ht2).mono ?_
  rintro e w' ⟨g, S, rfl, hA, hP, hR, mb', hW, hK, hF, _⟩
  exact ⟨g, S, rfl, hA, hP, hR, ⟨b0, mb', hW, fun k hk => (hF k hk).elim (h2 k) (fun g => by omega)⟩, hK.to_below hB h2⟩
theorem tickBad_wl (w : World) (B p now : Nat) (L : List NU) (N : Nat) (h : Wl w B p now L N) (t : Int) (ht : t < (now : Int) ∨ 1099511627776 < t) :
    Calls Try.prog 12 #[.pointer (some ⟨p, 0, none⟩), .int .i64 t] w fun e w' => e = .returned (.tuple #[.slice none 0 0, .int .i64 2]) ∧ w' = w := by
  obtain ⟨b0, mb, h1, h2⟩ := h
  exact tick_bad w p now L b0 mb N h1 t ht
theorem until_wl (w : World) (B p now : Nat) (L : List NU) (N : Nat) (h : Wl w B p now L N) (y : Nm) :
    Calls Try.prog 13 #[.pointer (some ⟨p, 0, none⟩), .agg #[.int .i64 y.tenant, .string y.key]] w fun e w' => Below w.heap.size w w' ∧
      ((¬ y.ok ∧ e = .returned (.tuple #[.int .i64 0, .int .i64 8])) ∨ (y.ok ∧ (∀ q ∈ L, q.1 ≠ y) ∧ e = .returned (.tuple #[.int .i64 0, .int .i64 6])) ∨ (y.ok ∧ ∃ u, (y, u) ∈ L ∧ e = .returned (.tuple #[.int .i64 u, .int .i64 0]))) := by
  obtain ⟨b0, mb, h1, h2⟩ := h
  exact until_any w p now L b0 mb N h1 y
theorem len_wl (w : World) (B p now : Nat) (L : List NU) (N : Nat) (h : Wl w B p now L N) :
    Calls Try.prog 15 #[.pointer (some ⟨p, 0, none⟩)] w fun e w' => e = .returned (.tuple #[.int .i64 (L.length : Nat), .int .i64 0]) ∧ w' = w := by
  obtain ⟨b0, mb, h1, h2⟩ := h
  exact len_any w p now L b0 mb N h1

theorem rise_eq : ∀ {A B : List NU}, A.Perm B → A.Pairwise tlt → B.Pairwise tlt → A = B
  | [], B, h, _, _ => (List.nil_perm.1 h).symm
  | a :: A, [], h, _, _ => by have := h.length_eq; simp at this
  | a :: A, b :: B, h, ha, hb => by
    obtain ⟨a1, a2⟩ := List.pairwise_cons.1 ha
    obtain ⟨b1, b2⟩ := List.pairwise_cons.1 hb
    have e : a = b := by
      rcases List.mem_cons.1 (h.mem_iff.1 (List.mem_cons_self)) with e | hm
      · exact e
      · rcases List.mem_cons.1 (h.mem_iff.2 (List.mem_cons_self (a := b) (l := B))) with e | hm2
        · exact e.symm
        · exact absurd (tlt_trans (a1 b hm2) (b1 a hm)) (tlt_irrefl a)
    subst e
    rw [rise_eq ((List.perm_cons a).1 h) a2 b2]

/-- names lie in block b -/
def NsAt (w : World) (b : Nat) (ns : List Nm) : Prop := ∀ i (hi : i < ns.length), w.cell? ⟨b, i * 2, none⟩ = some (.int .i64 ns[i].tenant) ∧ w.cell? ⟨b, i * 2 + 1, none⟩ = some (.string ns[i].key)
theorem sameNames_any (w : World) (b b' : Nat) (ns : List Nm) (h : NsAt w b ns) (h' : NsAt w b' ns) (hm : ns.length ≤ 1000000000) :
    Calls Try.prog 22 #[.slice (some ⟨b, 0, none⟩) ns.length ns.length, .slice (some ⟨b', 0, none⟩) ns.length ns.length] w fun e w' => e = .returned (.bool true) ∧ ∃ n, w' = w.drewN n := by
  have HA := Hid.mk2 h
  have HB := Hid.mk2 h'
  clear h h'
  go_enter Try.func22, Try.ntmps22
  go_wp2
  go_loopw [5] (fun i wr => ∃ k n : Nat, k ≤ ns.length ∧ i = .int .i64 k ∧ wr = w.drewN n) (fun i _ => ns.length - (intOf i).toNat)
  case atStart => exact ⟨0, 0, Nat.zero_le _, rfl, rfl⟩
  case round =>
    obtain ⟨k, n, hk, rfl, rfl⟩ := hrel
    by_cases hlt : k < ns.length
    · have hlt2 : (k : Int) < (ns.length : Int) := by omega
      obtain ⟨q0, q1⟩ := HA.out k hlt
      obtain ⟨r0, r1⟩ := HB.out k hlt
      obtain ⟨y, hy⟩ : ∃ y, y = ns[k] := ⟨_, rfl⟩
      rw [← hy] at q0 q1 r0 r1
      clear hy
      go_wp2
      go_quiet (fail)
      go_wp2
      go_roundw
      case rel => exact ⟨k + 1, _, by omega, by go_num, rfl⟩
      case measure => simp [intOf]; omega
    · have hlt2 : ¬ (k : Int) < (ns.length : Int) := by omega
      go_wp2
      go_ret
      exact ⟨rfl, n, rfl⟩
def nmA : Nm := ⟨0, ⟨#[97]⟩⟩
def nmB : Nm := ⟨0, ⟨#[98]⟩⟩
theorem aliveL : addL (addL [] 10 nmA 20) 10 nmB 12 = [(nmB, 12), (nmA, 20)] := by decide +kernel
theorem aliveE : addE 10 nmA 20 = 0 ∧ addE 10 nmB 12 = 0 := by decide +kernel
theorem aliveR : restOf 11 [(nmB, 12), (nmA, 20)] = [(nmB, 12), (nmA, 20)] := by decide +kernel
theorem alive0 : dueOf 11 [(nmB, 12), (nmA, 20)] = [] := by decide +kernel
theorem aliveD : dueOf 20 [(nmB, 12), (nmA, 20)] = [(nmB, 12), (nmA, 20)] := by decide +kernel
theorem aliveS : [(nmB, (12 : Int)), (nmA, (20 : Int))].Pairwise tlt := by decide +kernel

set_option maxHeartbeats 1000000 in
theorem alive_any (w : World) : Calls Try.prog 9 #[] w fun e w' => e = .returned (.bool true) ∧ Below w.heap.size w w' := by
  have HN := Hid.mk2 (new_wl w 10 (by omega))
  go_enter Try.func9, Try.ntmps9
  go_upto_region 4 with (go_at_call 10; refine HN.out.mono ?_; rintro e w1 ⟨p, rfl, hW1, hb1⟩)
  have HA1 := Hid.mk2 (add_wl w1 w.heap.size p 10 [] 0 hW1 hb1.size (by omega) nmA 20)
  go_upto_region 5 with (go_at_call 11; refine HA1.out.mono ?_; rintro e w2 ⟨rfl, hW2, hb2⟩)
  have hb02 := hb1.trans hb2
  have HA2 := Hid.mk2 (add_wl w2 w.heap.size p 10 _ 2 hW2 hb02.size (by omega) nmB 12)
  go_upto_region 6 with (go_at_call 11; refine HA2.out.mono ?_; rintro e w3 ⟨rfl, hW3, hb3⟩)
  have hb03 := hb02.trans hb3
  rw [aliveL] at hW3
  have HT1 := Hid.mk2 (tick_wl w3 w.heap.size p 10 _ 4 hW3 hb03.size (by omega) 11 (by omega) (by omega))
  go_upto_region 7 with (go_at_call 12; refine HT1.out.mono ?_; rintro e w4 ⟨g4, S4, rfl, hA4, hP4, hR4, hW4, hb4⟩)
  have hb04 := hb03.trans hb4
  rw [alive0] at hP4
  rw [aliveR] at hW4
  obtain rfl : S4 = [] := List.perm_nil.1 hP4
  have HT2 := Hid.mk2 (tick_wl w4 w.heap.size p 11 _ 12 hW4 hb04.size (by omega) 20 (by omega) (by omega))
  go_upto_region 8 with (go_at_call 12; refine HT2.out.mono ?_; rintro e w5 ⟨g5, S5, rfl, hA5, hP5, hR5, hW5, hb5⟩)
  have hb05 := hb04.trans hb5
  rw [aliveD] at hP5
  obtain rfl : S5 = [(nmB, (12 : Int)), (nmA, (20 : Int))] := rise_eq hP5 hR5 aliveS
  have HC := Hid.mk2 hA5.cells
  have hgl := hA5.lt
  clear hA5 hA4 hW1 hW2 hW3 hW4 hW5 hb1 hb2 hb3 hb4 hb5 hb02 hb03 hb04
  have hn1 : NsAt (w5.alloc (.cells #[.int .i64 0, .string ⟨#[98]⟩, .int .i64 0, .string ⟨#[97]⟩] 24)) g5 [nmB, nmA] := fun i hi => by
    obtain ⟨c0, c1⟩ := HC.out i hi
    exact ⟨(World.cell?_alloc_lt _ _ _ (by exact hgl)).trans c0, (World.cell?_alloc_lt _ _ _ (by exact hgl)).trans c1⟩
  have hn2 : NsAt (w5.alloc (.cells #[.int .i64 0, .string ⟨#[98]⟩, .int .i64 0, .string ⟨#[97]⟩] 24)) w5.heap.size [nmB, nmA] := fun i hi => by
    have hm := World.cell?_alloc_mark w5 #[.int .i64 0, .string ⟨#[98]⟩, .int .i64 0, .string ⟨#[97]⟩] 24 (0, 0)
    match i, hi with
    | 0, _ => exact ⟨hm 0, hm 1⟩
    | 1, _ => exact ⟨hm 2, hm 3⟩
  have HSN := Hid.mk2 (sameNames_any _ g5 w5.heap.size [nmB, nmA] hn1 hn2 (by simp))
  clear hn1 hn2
  go_wp2_with (go_at_call 22; refine HSN.out.mono ?_; rintro e w6 ⟨rfl, n6, rfl⟩)
  go_ret
  exact ⟨rfl, below_drewN (hb05.alloc hb05.size _) _⟩
end Go.Proofs.Ythcekkahkioibad
