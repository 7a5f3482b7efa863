/-
  Tick: its contract.
-/
import Derived.Test.YthcekkahkioibadWhAdd
namespace Go.Proofs.Ythcekkahkioibad
open Go.RowKit Go.Sort
set_option linter.unusedSimpArgs false
set_option linter.unusedVariables false
set_option maxRecDepth 100000

theorem Try.infoName : (Try.prog.info? 24).map (fun i => (i.zero, i.size, i.bytes)) = some (some (.agg #[.int .i64 0, .string ⟨#[]⟩]), 2, 24) := by kernel_rfl
/-- names lie in block g, which is new, and may be written to -/
structure NmAt (w : World) (base g : Nat) (ns : List Nm) : Prop where
  le : base ≤ g
  lt : g < w.heap.size
  cells : ∀ i (hi : i < ns.length), w.cell? ⟨g, i * 2, none⟩ = some (.int .i64 ns[i].tenant) ∧ w.cell? ⟨g, i * 2 + 1, none⟩ = some (.string ns[i].key)
  free : ∀ j, w.frozen? ⟨g, j, none⟩ = false
theorem NmAt.same {w w' : World} {base g : Nat} {ns : List Nm} (h : NmAt w base g ns) (e : w'.heap[g]? = w.heap[g]?) (hs : g < w'.heap.size) : NmAt w' base g ns :=
  ⟨h.le, hs, fun i hi => ⟨(World.cell?_of_block e).trans (h.cells i hi).1, (World.cell?_of_block e).trans (h.cells i hi).2⟩, fun j => (World.frozen?_of_block e).trans (h.free j)⟩
theorem NmAt.kept {F : Nat → Prop} {w w' : World} {base g : Nat} {ns : List Nm} (h : NmAt w base g ns) (hk : Kept F w w') (hF : ¬ F g) : NmAt w' base g ns :=
  h.same (hk.block g h.lt hF) (Nat.lt_of_lt_of_le h.lt hk.size)
theorem NmAt.below {w w' : World} {base g : Nat} {ns : List Nm} (h : NmAt w base g ns) (hb : Below w.heap.size w w') : NmAt w' base g ns := h.same (hb.block g h.lt) (Nat.lt_of_lt_of_le h.lt hb.size)

theorem tick_bad (w : World) (p now : Nat) (L : List NU) (b0 : Nat) (mb : Nat → Option Nat) (N : Nat) (h : Wh w p now L L b0 mb N) (t : Int) (ht : t < (now : Int) ∨ 1099511627776 < t) :
    Calls Try.prog 12 #[.pointer (some ⟨p, 0, none⟩), .int .i64 t] w fun e w' => e = .returned (.tuple #[.slice none 0 0, .int .i64 2]) ∧ w' = w := by
  have h1 := isMade_any w p h.self
  have h2 := h.nowc
  clear h
  by_cases hc : t < (now : Int)
  · go_enter Try.func12, Try.ntmps12
    go_wp2_with (go_at_call 34; refine h1.mono ?_; rintro e w' ⟨rfl, rfl⟩)
    go_ret2
    exact ⟨rfl, rfl⟩
  · have hc1 : decide (t < (now : Int)) = false := by simpa using hc
    have hc2 : 1099511627776 < t := by omega
    go_enter Try.func12, Try.ntmps12
    go_wp2_with (go_at_call 34; refine h1.mono ?_; rintro e w' ⟨rfl, rfl⟩)
    go_ret2
    exact ⟨rfl, rfl⟩

set_option maxHeartbeats 2000000 in
theorem tick_len (w : World) (p now : Nat) (L : List NU) (b0 : Nat) (mb : Nat → Option Nat) (N : Nat) (h : Wh w p now L L b0 mb N) (hN : N ≤ 1000000) (t : Nat) (ht : now ≤ t) (ht2 : t ≤ 1099511627776) :
    Calls Try.prog 12 #[.pointer (some ⟨p, 0, none⟩), .int .i64 t] w fun e w' => ∃ (g : Nat) (S : List NU), e = .returned (.tuple #[.slice (some ⟨g, 0, none⟩) S.length S.length, .int .i64 0]) ∧ NmAt w' w.heap.size g (S.map Prod.fst) ∧ S.Perm (dueOf t L) ∧ S.Pairwise tlt ∧
      ∃ mb', Wh w' p t (restOf t L) (restOf t L) b0 mb' (N + 2 * L.length) ∧ Kept (Foot p b0 mb) w w' ∧ (∀ k, Foot p b0 mb' k → Foot p b0 mb k ∨ w.heap.size ≤ k) ∧ ¬ Foot p b0 mb' g := by
  have h1 := isMade_any w p h.self
  have h2 := h.nowc
  have hlt := h.lt (.inl rfl)
  have hlen := h.um.len
  have HTU := Hid.mk2 (turn_len w p now L b0 mb N h t ht ht2 hN)
  have HAP := Hid.mk2 h.apart
  have hc1 : ¬ (t : Int) < (now : Int) := by omega
  have hd1 : decide ((t : Int) < (now : Int)) = false := by simpa using hc1
  have hc2 : ¬ (1099511627776 : Int) < (t : Int) := by omega
  have hd2 : decide ((1099511627776 : Int) < (t : Int)) = false := by simpa using hc2
  clear h
  go_enter Try.func12, Try.ntmps12
  go_upto_region 6 with (first
    | (go_at_call 34; refine h1.mono ?_; rintro e w0 ⟨rfl, hw0⟩; obtain rfl : w = w0 := hw0.symm)
    | (go_at_call 39; refine HTU.out.mono ?_; rintro e w1 ⟨v1, rfl, D, hD, hDP, mb1, hW1, hK1, hF1⟩))
  have hDl : D.length ≤ N := by have := hDP.length_eq; have h3 : (dueOf t L).length ≤ L.length := List.length_filter_le _ _; omega
  have hDap : D.Pairwise (fun p q => p.1 ≠ q.1) := (hDP.symm.pairwise_iff (fun {_ _} hne => Ne.symm hne)).1 (HAP.out.filter _)
  have HSO := Hid.mk2 (sort_any w1 w.heap.size v1 D hD (by omega))
  have hSp := sortT_perm D
  have hSr := sortT_rise hDap
  have hSl : (sortT D).length ≤ N := by have := hSp.length_eq; omega
  obtain ⟨S, hS⟩ : ∃ S, S = sortT D := ⟨_, rfl⟩
  rw [← hS] at HSO hSp hSr hSl
  have HPE := Hid.mk2 (hSp.trans hDP)
  have HRI := Hid.mk2 hSr
  have HW1 := Hid.mk2 hW1
  have HK1 := Hid.mk2 hK1
  have HF1 := Hid.mk2 hF1
  have hs1 := hK1.size
  have HAW := Hid.mk2 (fun g hg => hD.away hW1 hlt g hg)
  have HGE := Hid.mk2 (fun g hg => (hD.lt g hg).1)
  clear hS hSp hSr hDP hDap hDl hW1 hK1 hF1
  go_upto_region 7 with (go_at_call 40; refine HSO.out.mono ?_; rintro e w2 ⟨rfl, hg2, ao, cap, rfl, hlc, hcm, hTA⟩)
  obtain ⟨i0, hi, hz0, hz1, hz2⟩ := info_parts Try.infoName
  have hW2 : Wh w2 p t (restOf t L) (restOf t L) b0 mb1 (N + 2 * L.length) := HW1.out.kept (Kept.grown (F := fun g => (Value.slice ao S.length cap).ownBlock = some g) hg2 (fun g hg => .inl hg)) (fun g hg e => HAW.out g e hg)
  have HK2 : Hid (Kept (Foot p b0 mb) w w2) := HK1.out.trans (Kept.grown (F := fun g => (Value.slice ao S.length cap).ownBlock = some g) hg2 (fun g hg => .inl hg)) (fun g hg => .inr (HGE.out g hg))
  have hs2 := hg2.size
  have hmx : S.length ≤ 9223372036854775807 := by omega
  have HW2 := Hid.mk2 hW2
  clear hg2 hW2
  go_wp2_with (at_make; refine wpList_make_full _ rfl (.tmp 29) (.tmp 29) 30 rfl w2.heap.size 24 i0 _ 2 Try.underlying30 hi hz0 hz1 .i64 .i64 _ _ S.length rfl rfl (by first | rfl | go_num) (by first | rfl | go_num) (by rw [hz2]; omega) (by unfold maxLen; omega) (Nat.le_refl _) ?_; intro w3 hrow3 hg3)
  have hml : (madeCells (Value.agg #[Value.int IntKind.i64 0, Value.string ⟨#[]⟩]).cells (S.length * 2)).toList.length = S.length * 2 := by simp [madeCells]
  have hex3 : ∀ j, j < S.length * 2 → ∃ v, w3.cell? ⟨w2.heap.size, j, none⟩ = some v := fun j hj => by
    have h5 := World.ownsRow.cells hrow3 (g := w2.heap.size) rfl j _ (List.getElem?_eq_getElem (by rw [hml]; exact hj))
    rw [addr_add, Nat.zero_add] at h5
    exact ⟨_, h5⟩
  have hfr3 : ∀ j, w3.frozen? ⟨w2.heap.size, j, none⟩ = false := fun j => by
    rcases hrow3.2 with ⟨e, _⟩ | ⟨g, cap', cur, e, _, hg, _⟩
    · cases e
    · cases e
      simp [World.frozen?, hg]
  have hlt3 : w2.heap.size < w3.heap.size := (hrow3.lt w2.heap.size rfl).2
  have hb23 : Below w2.heap.size w2 w3 := ⟨hg3.os, hg3.tape, hg3.output, hg3.size, fun k hk => hg3.block k hk (by simp)⟩
  have HTA : Hid (TAt w2 ao S) := hTA
  clear hrow3 hg3 hml hTA hi hz0 hz1 hz2
  obtain ⟨g, hg⟩ : ∃ g, g = w2.heap.size := ⟨_, rfl⟩
  rw [← hg] at hex3 hfr3 hlt3 hb23 ⊢
  have HGq := Hid.mk2 hg
  clear hg
  go_loopw [33] (fun i wr => ∃ k : Nat, k ≤ S.length ∧ i = .int .i64 k ∧ Below g w2 wr ∧ g < wr.heap.size ∧ Hid (∀ j, wr.frozen? ⟨g, j, none⟩ = false) ∧ Hid (∀ j, j < S.length * 2 → ∃ v, wr.cell? ⟨g, j, none⟩ = some v) ∧ Hid (∀ i (hi : i < S.length), i < k → wr.cell? ⟨g, i * 2, none⟩ = some (.int .i64 S[i].1.tenant) ∧ wr.cell? ⟨g, i * 2 + 1, none⟩ = some (.string S[i].1.key))) (fun i _ => S.length - (intOf i).toNat)
  case atStart => exact ⟨0, Nat.zero_le _, rfl, hb23, hlt3, hfr3, hex3, fun i hi h => absurd h (by omega)⟩
  case round =>
    obtain ⟨k, hk, rfl, hbr, hgr, HFR, HEX, HCE⟩ := hrel
    clear hex3 hfr3 hlt3 hb23
    by_cases hlk : k < S.length
    · have hlk2 : (k : Int) < (S.length : Int) := by omega
      rcases HTA.out with h0 | ⟨tb, off, rfl, htb, hcells⟩
      · rw [h0] at hlk; simp at hlk
      obtain ⟨c0, c1, c2⟩ := hcells k hlk
      have htg : tb < g := by have := HGq.out; omega
      have htr : tb < wr.heap.size := by omega
      obtain ⟨q, hq⟩ : ∃ q, q = S[k] := ⟨_, rfl⟩
      rw [← hq] at c0 c1 c2
      have d0 := (hbr.cell (p := ⟨tb, off + k * 3, none⟩) htg).trans c0
      have d1 := (hbr.cell (p := ⟨tb, off + k * 3 + 1, none⟩) htg).trans c1
      have d2 := (hbr.cell (p := ⟨tb, off + k * 3 + 2, none⟩) htg).trans c2
      obtain ⟨v0, e0⟩ := HEX.out (k * 2) (by omega)
      obtain ⟨v1, e1⟩ := HEX.out (k * 2 + 1) (by omega)
      have f0 := HFR.out (k * 2)
      have f1 := HFR.out (k * 2 + 1)
      have HQ := Hid.mk2 hq
      clear hcells c0 c1 c2 hq
      go_wp2
      go_roundw
      case rel =>
        obtain ⟨A, hA⟩ : ∃ A : Value, A = .int .i64 q.1.tenant := ⟨_, rfl⟩
        obtain ⟨C, hC⟩ : ∃ C : Value, C = .string q.1.key := ⟨_, rfl⟩
        rw [← hA, ← hC]
        have hcl : ∀ j, j ≠ k * 2 → j ≠ k * 2 + 1 → ∀ o, (((wr.setCell ⟨g, k * 2, none⟩ A).setCell ⟨g, k * 2 + 1, none⟩ C).alloc o).cell? ⟨g, j, none⟩ = wr.cell? ⟨g, j, none⟩ := fun j h1 h2 o => by
          rw [World.cell?_alloc_lt _ _ _ (by simp; exact hgr), World.cell?_setCell_other _ _ _ _ (fun e => by first | exact h2 (congrArg Addr.off e) | exact h2 (congrArg Addr.off e).symm), World.cell?_setCell_other _ _ _ _ (fun e => by first | exact h1 (congrArg Addr.off e) | exact h1 (congrArg Addr.off e).symm)]
        have hc1 : ∀ o, (((wr.setCell ⟨g, k * 2, none⟩ A).setCell ⟨g, k * 2 + 1, none⟩ C).alloc o).cell? ⟨g, k * 2 + 1, none⟩ = some C := fun o => by
          rw [World.cell?_alloc_lt _ _ _ (by simp; exact hgr)]
          refine World.cell?_setCell_same (u := v1) _ _ _ ?_
          rw [World.cell?_setCell_other _ _ _ _ (by simp)]
          exact e1
        have hc0 : ∀ o, (((wr.setCell ⟨g, k * 2, none⟩ A).setCell ⟨g, k * 2 + 1, none⟩ C).alloc o).cell? ⟨g, k * 2, none⟩ = some A := fun o => by
          rw [World.cell?_alloc_lt _ _ _ (by simp; exact hgr), World.cell?_setCell_other _ _ _ _ (by simp)]
          exact World.cell?_setCell_same _ _ _ e0
        refine ⟨k + 1, by omega, by go_num, ((hbr.setCell (Nat.le_refl _) _).setCell (Nat.le_refl _) _).alloc (by simp; omega) _, by simp; omega, fun j => ?_, fun j hj => ?_, fun i hi hik => ?_⟩
        · rw [World.frozen?_alloc_past _ _ _ (by simp; exact hgr), World.frozen?_setCell, World.frozen?_setCell]
          exact HFR.out j
        · by_cases n1 : j = k * 2
          · subst n1; exact ⟨_, hc0 _⟩
          · by_cases n2 : j = k * 2 + 1
            · subst n2; exact ⟨_, hc1 _⟩
            · rw [hcl j n1 n2]
              exact HEX.out j hj
        · by_cases n : i = k
          · subst n
            rw [hc0, hc1, hA, hC, HQ.out]
            exact ⟨rfl, rfl⟩
          · rw [hcl _ (by omega) (by omega), hcl _ (by omega) (by omega)]
            exact HCE.out i hi (by omega)
      case measure => simp [intOf]; omega
    · have hkS : k = S.length := by omega
      have hlk2 : ¬ (k : Int) < (S.length : Int) := by omega
      subst hkS
      go_wp2
      go_ret2
      have hsz2 := HK2.out.size
      have hbr2 : Below w2.heap.size w2 wr := by rw [← HGq.out]; exact hbr
      have hgq := HGq.out
      refine ⟨g, S, rfl, ⟨by omega, hgr, fun i hi => ?_, HFR.out⟩, HPE.out, HRI.out, mb1, HW2.out.below hbr2, HK2.out.trans (Kept.below (F := Foot p b0 mb) hbr2) (fun k hk => .inl hk), HF1.out, fun hf => ?_⟩
      · have hi' : i < S.length := by simpa using hi
        have := HCE.out i hi' hi'
        simpa using this
      · have := HW2.out.lt hf
        omega
theorem tick_any (w : World) (p now : Nat) (L : List NU) (b0 : Nat) (mb : Nat → Option Nat) (N : Nat) (h : Wh w p now L L b0 mb N) (hN : N ≤ 1000000) (t : Nat) (ht : now ≤ t) (ht2 : t ≤ 1099511627776) :
    Calls Try.prog 12 #[.pointer (some ⟨p, 0, none⟩), .int .i64 t] w fun e w' => ∃ (g : Nat) (S : List NU), e = .returned (.tuple #[.slice (some ⟨g, 0, none⟩) S.length S.length, .int .i64 0]) ∧ NmAt w' w.heap.size g (S.map Prod.fst) ∧ S.Perm (dueOf t L) ∧ S.Pairwise tlt ∧
      ∃ mb', Wh w' p t (restOf t L) (restOf t L) b0 mb' (3 * N) ∧ Kept (Foot p b0 mb) w w' ∧ (∀ k, Foot p b0 mb' k → Foot p b0 mb k ∨ w.heap.size ≤ k) ∧ ¬ Foot p b0 mb' g := by
  have hlen := h.um.len
  refine (tick_len w p now L b0 mb N h hN t ht ht2).mono ?_
  rintro e w' ⟨g, S, h1, h2, h3, h4, mb', h5, h6⟩
  exact ⟨g, S, h1, h2, h3, h4, mb', h5.mono (by omega), h6⟩
end Go.Proofs.Ythcekkahkioibad
