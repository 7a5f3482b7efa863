/-
  Contracts of the document's slab: its small functions, New, Check, Owned.
-/
import Derived.Test.YtkcgleahbhmggaaSbAll
import Derived.Test.YtkcgleahbhmggaaSbClass
namespace Go.Proofs.Ytkcgleahbhmggaa
open Go.RowKit
set_option linter.unusedSimpArgs false
set_option linter.unusedVariables false
set_option maxRecDepth 100000

theorem risTenant_any (t : Int) (w : World) :
    Calls Try.prog 40 #[.int .i64 t] w fun e w' => e = .returned (.bool (isT t)) ∧ w' = w := by
  by_cases h : 0 ≤ t
  · have h2 : decide (0 ≤ t) = true := by simp [h]
    go_enter Try.func40, Try.ntmps40
    go_wp2
    go_ret
    exact ⟨by simp [isT, h], rfl⟩
  · have h2 : decide (0 ≤ t) = false := by simp; omega
    go_enter Try.func40, Try.ntmps40
    go_wp2
    go_ret
    exact ⟨by simp [isT]; omega, rfl⟩
theorem risFree_any (p : Pg) (w : World) :
    Calls Try.prog 68 #[.agg #[.int .i64 p.t, .int .i64 p.c, .int .u16 (p.u : Int)]] w fun e w' => e = .returned (.bool (decide (p.u = 0))) ∧ Below w.heap.size w w' := by
  go_enter Try.func68, Try.ntmps68
  go_wp2
  go_ret
  refine ⟨?_, (Below.refl _ _).alloc (Nat.le_refl _) _⟩
  show Ending.returned (.bool ((p.u : Int) == 0)) = _
  congr 2
  rw [Bool.eq_iff_iff]
  simp
theorem rhas_any (p : Pg) (k : Int) (w : World) :
    Calls Try.prog 53 #[.agg #[.int .i64 p.t, .int .i64 p.c, .int .u16 (p.u : Int)], .int .i64 k] w fun e w' => e = .returned (.bool (hasK p k)) ∧ Below w.heap.size w w' := by
  by_cases h0 : 0 ≤ k
  · obtain ⟨K, rfl⟩ : ∃ K : Nat, k = (K : Int) := ⟨k.toNat, by omega⟩
    have h2 : decide ((0 : Int) ≤ (K : Int)) = true := by simp
    by_cases h1 : K < 16
    · have h3 : decide ((K : Int) < 16) = true := by simp; omega
      have h3n : decide (K < 16) = true := by simp; omega
      have e1 : ((p.u : Int) / 2 ^ K) = ((p.u / 2 ^ K : Nat) : Int) := by simp
      obtain ⟨D, hD⟩ : ∃ D, D = p.u / 2 ^ K := ⟨_, rfl⟩
      rw [← hD] at e1
      have HD := Hid.mk2 hD
      clear hD
      go_enter Try.func53, Try.ntmps53
      go_wp2
      go_ret
      refine ⟨?_, (Below.refl _ _).alloc (Nat.le_refl _) _⟩
      show Ending.returned (.bool ((D : Int) % 2 == 1)) = _
      congr 2
      unfold hasK
      rw [Int.toNat_natCast, testBit_div, ← HD.out, Bool.eq_iff_iff]
      simp
      omega
    · have h3 : decide ((K : Int) < 16) = false := by simp; omega
      have h3n : decide (K < 16) = false := by simp; omega
      go_enter Try.func53, Try.ntmps53
      go_wp2
      go_ret
      refine ⟨?_, (Below.refl _ _).alloc (Nat.le_refl _) _⟩
      have : hasK p (K : Int) = false := by unfold hasK; simp; omega
      rw [this]
      rfl
  · have h2 : decide (0 ≤ k) = false := by simp; omega
    go_enter Try.func53, Try.ntmps53
    go_wp2
    go_ret
    refine ⟨?_, (Below.refl _ _).alloc (Nat.le_refl _) _⟩
    have : hasK p k = false := by unfold hasK; simp; omega
    rw [this]
    rfl
theorem rnew_bad (n : Int) (w : World) (hn : ¬ (1 ≤ n ∧ n ≤ 16)) :
    Calls Try.prog 37 #[.int .i64 n] w fun e w' => e = .returned (.tuple #[.agg #[.slice none 0 0], .int .i64 2]) ∧ Below w.heap.size w w' := by
  by_cases h : n < 1
  · have h2 : decide (n < 1) = true := by simp [h]
    clear hn
    go_enter Try.func37, Try.ntmps37
    go_wp2
    try simp only [Exit.inBlock, Exit.then]
    refine bodyPost_ret (v := .tuple #[.agg #[.slice none 0 0], .int .i64 2]) (by simp [results, Try.results37, go_sem]) rfl ⟨rfl, (Below.refl _ _).alloc (Nat.le_refl _) _⟩
  · have h1 : decide (n < 1) = false := by simp; omega
    have h2 : decide (16 < n) = true := by simp; omega
    clear hn
    go_enter Try.func37, Try.ntmps37
    go_wp2
    try simp only [Exit.inBlock, Exit.then]
    refine bodyPost_ret (v := .tuple #[.agg #[.slice none 0 0], .int .i64 2]) (by simp [results, Try.results37, go_sem]) rfl ⟨rfl, (Below.refl _ _).alloc (Nat.le_refl _) _⟩
theorem rnew_any (n : Nat) (w : World) (hn : 1 ≤ n ∧ n ≤ 16) :
    Calls Try.prog 37 #[.int .i64 n] w fun e w' => ∃ g, e = .returned (.tuple #[.agg #[.slice (some ⟨g, 0, none⟩) n n], .int .i64 0]) ∧ w.heap.size ≤ g ∧ w'.heap[g]? = some (.cells ((List.replicate n pz).flatMap pcells).toArray 30 (0, 0)) ∧ Below w.heap.size w w' := by
  obtain ⟨i0, hi, hz0, hz1, hz2⟩ := info_parts Try.infoPage
  have h1 : decide ((n : Int) < 1) = false := by simp; omega
  have h2 : decide ((16 : Int) < n) = false := by simp; omega
  go_enter Try.func37, Try.ntmps37
  go_upto_region 3 with (fail)
  obtain ⟨w2, hw2⟩ : ∃ w2, w2 = w.alloc (Obj.cells #[Value.slice none 0 0] 33) := ⟨_, rfl⟩
  rw [← hw2]
  have hs2 : w2.heap.size = w.heap.size + 1 := by rw [hw2]; simp
  have hb2 : Below w.heap.size w w2 := by rw [hw2]; exact (Below.refl _ _).alloc (Nat.le_refl _) _
  have c1 : w2.cell? ⟨w.heap.size, 0, none⟩ = some (.slice none 0 0) := by rw [hw2]; simp
  have f1 : w2.frozen? ⟨w.heap.size, 0, none⟩ = false := by rw [hw2]; simp
  have x1 : w.heap.size < w2.heap.size := by omega
  have HB2 := Hid.mk2 hb2
  clear hw2 hs2 hb2
  go_wp2_with (at_make; refine wpList_make_full _ rfl (.tmp 11) (.tmp 11) 31 rfl w2.heap.size 30 i0 _ 3 Try.underlying31 hi hz0 hz1 .i64 .i64 _ _ n rfl rfl (by first | rfl | go_num) (by first | rfl | go_num) (by rw [hz2]; omega) (by unfold maxLen; omega) (Nat.le_refl _) ?_; intro w3 ho3 hg3; have hr3 := made_row ho3; have hb3 : Below w2.heap.size w2 w3 := (Below.refl _ _).grown hg3 (Nat.le_refl _) (fun k hk => by cases hk); have hs3 : w2.heap.size < w3.heap.size := (Array.getElem?_eq_some_iff.1 hr3).1; have d1 := (below_cells hb3 _ 0 x1).trans c1; have g1 := (below_frozen hb3 _ 0 x1).trans f1; have y1 : w.heap.size < w3.heap.size := Nat.lt_trans x1 hs3; have HR3 := Hid.mk2 hr3; have HB3 := Hid.mk2 (HB2.out.trans (hb3.mono (by omega))); clear hr3 hb3 ho3 hg3 c1 f1)
  have z0 : (w3.setCell ⟨w.heap.size, 0, none⟩ (.slice (some ⟨w2.heap.size, 0, none⟩) n n)).cell? ⟨w.heap.size, 0, none⟩ = some (.slice (some ⟨w2.heap.size, 0, none⟩) n n) := World.cell?_setCell_same _ _ _ d1
  try simp only [Exit.inBlock, Exit.then]
  refine bodyPost_ret (v := .tuple #[.agg #[.slice (some ⟨w2.heap.size, 0, none⟩) n n], .int .i64 0]) (by simp [results, Try.results37, go_sem, z0]) rfl ⟨w2.heap.size, rfl, by omega, ?_, HB3.out.setCell (by simp) _⟩
  exact (Below.heap_setCell w3 ⟨w.heap.size, 0, none⟩ _ w2.heap.size (by show w2.heap.size ≠ w.heap.size; omega)).trans HR3.out
theorem rowned_any (w : World) (ao : Option Addr) (ps : List Pg) (cap : Nat) (h : Sb w ao ps cap) (hl : ps.length ≤ 1000) (t : Int) :
    Calls Try.prog 41 #[.agg #[.slice ao ps.length cap], .int .i64 t] w fun e w' => e = .returned (.int .i64 (owned ps t)) ∧ Below w.heap.size w w' := by
  have HS := Hid.mk2 h
  have hcap := h.hl
  clear h
  obtain ⟨M, hM⟩ : ∃ M, M = owned ps t := ⟨_, rfl⟩
  rw [← hM]
  have HM := Hid.mk2 hM
  clear hM
  go_enter Try.func41, Try.ntmps41
  go_wp2
  go_loopw [5, 6] (fun m i wr => ∃ k m' : Nat, k ≤ ps.length ∧ i = .int .i64 k ∧ m = .int .i64 m' ∧ m' ≤ k ∧ Below w.heap.size w wr ∧ w.heap.size < wr.heap.size ∧ wr.cell? ⟨w.heap.size, 0, none⟩ = some (.slice ao ps.length cap) ∧ Hid (m' = owned (ps.take k) t)) (fun _ i _ => ps.length - (intOf i).toNat)
  case atStart => exact ⟨0, 0, Nat.zero_le _, rfl, rfl, Nat.le_refl _, (Below.refl _ _).alloc (Nat.le_refl _) _, by simp, by simp, rfl⟩
  case round =>
    obtain ⟨k, m', hk, rfl, rfl, hmk, hbr, hsz, c0, HOK⟩ := hrel
    by_cases hlt : k < ps.length
    · have hlt2 : (k : Int) < (ps.length : Int) := by omega
      have hne : ps ≠ [] := by intro e; rw [e] at hlt; simp at hlt
      obtain ⟨b, off, rfl, hbl, hcs⟩ := HS.out.lies hne
      obtain ⟨p, hpe⟩ : ∃ p, p = ps[k] := ⟨_, rfl⟩
      have hL := hcs k hlt
      have hO := owned_take t hlt
      rw [← hpe] at hL hO
      have HO := Hid.mk2 hO
      obtain ⟨r0, r1, r2⟩ := hL.below hbr hbl
      have hbl2 : b < wr.heap.size := by omega
      clear hpe hL hcs hne hO
      have hm := fun W => risFree_any p W
      by_cases ez : p.u = 0
      · rw [decide_eq_true ez] at hm
        have hn : isOf t p = false := by simp [isOf, ez]
        rw [hn] at HO
        have HEZ := Hid.mk2 ez
        clear ez hn
        go_wp2_with (go_at_call 68; refine (hm _).mono ?_; rintro e w2 ⟨rfl, hb2⟩; have c2 := (below_cells hb2 _ 0 hsz).trans c0; have z2 := Nat.lt_of_lt_of_le hsz hb2.size)
        go_roundw
        case rel => exact ⟨k + 1, m', by omega, by go_num, rfl, by omega, hbr.trans (hb2.mono (by omega)), z2, c2, by have := HO.out; simp at this; show _ = _; rw [this]; exact HOK.out⟩
        case measure => simp [intOf]; omega
      · rw [decide_eq_false ez] at hm
        have HEZ := Hid.mk2 ez
        clear ez
        by_cases et : p.t = t
        · have g1 : (p.t == t) = true := by simp [et]
          have hn : isOf t p = true := by simp [isOf, HEZ.out, et]
          rw [hn] at HO
          clear et hn
          go_wp2_with (go_at_call 68; refine (hm _).mono ?_; rintro e w2 ⟨rfl, hb2⟩; have c2 := (below_cells hb2 _ 0 hsz).trans c0; have z2 := Nat.lt_of_lt_of_le hsz hb2.size; have s0 := (below_cells hb2 _ _ hbl2).trans r0; have z3 := Nat.lt_of_lt_of_le hbl2 hb2.size)
          go_roundw
          case rel => exact ⟨k + 1, m' + 1, by omega, by go_num, by go_num, by omega, hbr.trans (hb2.mono (by omega)), z2, c2, by have := HO.out; simp at this; show _ = _; rw [this, HOK.out]⟩
          case measure => simp [intOf]; omega
        · have g1 : (p.t == t) = false := by simp [et]
          have hn : isOf t p = false := by simp [isOf, et]
          rw [hn] at HO
          clear et hn
          go_wp2_with (go_at_call 68; refine (hm _).mono ?_; rintro e w2 ⟨rfl, hb2⟩; have c2 := (below_cells hb2 _ 0 hsz).trans c0; have z2 := Nat.lt_of_lt_of_le hsz hb2.size; have s0 := (below_cells hb2 _ _ hbl2).trans r0; have z3 := Nat.lt_of_lt_of_le hbl2 hb2.size)
          go_roundw
          case rel => exact ⟨k + 1, m', by omega, by go_num, rfl, by omega, hbr.trans (hb2.mono (by omega)), z2, c2, by have := HO.out; simp at this; show _ = _; rw [this]; exact HOK.out⟩
          case measure => simp [intOf]; omega
    · have hlt2 : decide ((k : Int) < (ps.length : Int)) = false := by simp; omega
      have hM : M = m' := by
        rw [HM.out, HOK.out, List.take_of_length_le (by omega)]
      subst hM
      go_wp2
      go_ret
      exact ⟨rfl, hbr⟩
end Go.Proofs.Ytkcgleahbhmggaa
