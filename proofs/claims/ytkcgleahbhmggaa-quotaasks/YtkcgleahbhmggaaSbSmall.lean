/-
  Contracts of the slab's small functions: sizeOf, chunksOf, isTenant, isClass, isFree, isOf, isUsed, bit, mayBe.
-/
import Derived.Test.YtkcgleahbhmggaaSbMem
namespace Go.Proofs.Ytkcgleahbhmggaa
open Go.RowKit
set_option linter.unusedSimpArgs false
set_option linter.unusedVariables false
set_option maxRecDepth 100000

theorem ssize_any (c : Int) (w : World) (hc : isC c = true) :
    Calls Try.prog 65 #[.int .i64 c] w fun e w' => e = .returned (.int .i64 (16 * 2 ^ c.toNat)) ∧ w' = w := by
  rcases isC_cases hc with rfl | rfl | rfl | rfl | rfl <;>
  · go_enter Try.func65, Try.ntmps65
    go_wp2
    go_ret
    exact ⟨by rfl, rfl⟩
theorem chunksOf_any (c : Int) (w : World) (hc : isC c = true) :
    Calls Try.prog 62 #[.int .i64 c] w fun e w' => e = .returned (.int .i64 (chunks c)) ∧ w' = w := by
  rcases isC_cases hc with rfl | rfl | rfl | rfl | rfl <;>
  · go_enter Try.func62, Try.ntmps62
    go_wp2_with (go_at_call 65; refine (ssize_any _ _ hc).mono ?_; rintro e w1 ⟨rfl, rfl⟩)
    go_ret
    exact ⟨by rfl, rfl⟩
theorem isTenant_any (t : Int) (w : World) :
    Calls Try.prog 70 #[.int .i64 t] w fun e w' => e = .returned (.bool (isT t)) ∧ w' = w := by
  by_cases h : 0 ≤ t
  · have h2 : decide (0 ≤ t) = true := by simp [h]
    go_enter Try.func70, Try.ntmps70
    go_wp2
    go_ret
    exact ⟨by simp [isT, h], rfl⟩
  · have h2 : decide (0 ≤ t) = false := by simp; omega
    go_enter Try.func70, Try.ntmps70
    go_wp2
    go_ret
    exact ⟨by simp [isT]; omega, rfl⟩
theorem isClass_any (t : Int) (w : World) :
    Calls Try.prog 56 #[.int .i64 t] w fun e w' => e = .returned (.bool (isC t)) ∧ w' = w := by
  by_cases h : 0 ≤ t
  · have h2 : decide (0 ≤ t) = true := by simp [h]
    go_enter Try.func56, Try.ntmps56
    go_wp2
    go_ret
    exact ⟨by simp [isC, h], rfl⟩
  · have h2 : decide (0 ≤ t) = false := by simp; omega
    go_enter Try.func56, Try.ntmps56
    go_wp2
    go_ret
    exact ⟨by simp [isC]; omega, rfl⟩
theorem isFree_any (p : Pg) (w : World) :
    Calls Try.prog 64 #[.agg #[.int .i64 p.t, .int .i64 p.c, .int .u16 (p.u : Int)]] w fun e w' => e = .returned (.bool (decide (p.u = 0))) ∧ Below w.heap.size w w' := by
  go_enter Try.func64, Try.ntmps64
  go_wp2
  go_ret
  refine ⟨?_, (Below.refl _ _).alloc (Nat.le_refl _) _⟩
  show Ending.returned (.bool ((p.u : Int) == 0)) = _
  congr 2
  rw [Bool.eq_iff_iff]
  simp
theorem isOf_any (p : Pg) (t : Int) (w : World) :
    Calls Try.prog 61 #[.agg #[.int .i64 p.t, .int .i64 p.c, .int .u16 (p.u : Int)], .int .i64 t] w fun e w' => e = .returned (.bool (isOf t p)) ∧ Below w.heap.size w w' := by
  have hf := fun W => isFree_any p W
  by_cases h : p.u = 0
  · rw [decide_eq_true h] at hf
    have HU := Hid.mk2 h
    clear h
    go_enter Try.func61, Try.ntmps61
    go_wp2_with (go_at_call 64; refine (hf _).mono ?_; rintro e w1 ⟨rfl, hb1⟩; have hc1 := below_cells hb1)
    go_ret
    exact ⟨by simp [isOf, HU.out], below_alloc hb1⟩
  · rw [decide_eq_false h] at hf
    go_enter Try.func61, Try.ntmps61
    go_wp2_with (go_at_call 64; refine (hf _).mono ?_; rintro e w1 ⟨rfl, hb1⟩; have z : w1.cell? ⟨w.heap.size, 0, none⟩ = some (.int .i64 p.t) := (below_cells hb1 _ _ (by simp)).trans (by simp))
    go_ret
    refine ⟨?_, below_alloc hb1⟩
    show Ending.returned (.bool (p.t == t)) = _
    simp [isOf, h]
    rfl
theorem u16_and1 (x : Nat) (h : x < 65536) : bits BinOp.and IntKind.u16 (x : Int) 1 = ((x % 2 : Nat) : Int) := by
  have := u16_and_nat x 1 h (by decide)
  rw [nat_mask1] at this
  exact this
theorem div_lt16 {u k : Nat} (hu : u < 65536) : u / 2 ^ k < 65536 := Nat.lt_of_le_of_lt (Nat.div_le_self _ _) hu
theorem testBit_div (u k : Nat) : u.testBit k = decide (u / 2 ^ k % 2 = 1) := Nat.testBit_eq_decide_div_mod_eq
theorem isUsed_any (p : Pg) (k : Nat) (w : World) (hk : k < 16) :
    Calls Try.prog 63 #[.agg #[.int .i64 p.t, .int .i64 p.c, .int .u16 (p.u : Int)], .int .i64 k] w fun e w' => e = .returned (.bool (p.u.testBit k)) ∧ Below w.heap.size w w' := by
  go_enter Try.func63, Try.ntmps63
  go_wp2
  go_ret
  refine ⟨?_, (Below.refl _ _).alloc (Nat.le_refl _) _⟩
  show Ending.returned (.bool (bits BinOp.and IntKind.u16 ((p.u : Int) / 2 ^ k) 1 == 1)) = _
  have e : ((p.u : Int) / 2 ^ k) = ((p.u / 2 ^ k : Nat) : Int) := by simp
  rw [e, u16_and1 _ (div_lt16 p.hu), testBit_div]
  congr 2
  rw [Bool.eq_iff_iff]
  simp
  omega
theorem bit_any (k : Nat) (w : World) (hk : k < 16) :
    Calls Try.prog 60 #[.int .i64 k] w fun e w' => e = .returned (.int .u16 ((2 ^ k : Nat) : Int)) ∧ w' = w := by
  go_enter Try.func60, Try.ntmps60
  go_wp2
  go_ret
  refine ⟨?_, rfl⟩
  show Ending.returned (.int .u16 (IntKind.u16.wrap (2 ^ k))) = _
  have h := pow_lt16 hk
  rw [IntKind.wrap_u16]
  have e : (2 ^ k : Int) = ((2 ^ k : Nat) : Int) := by simp
  rw [e]
  obtain ⟨x, hx⟩ : ∃ x, x = 2 ^ k := ⟨_, rfl⟩
  rw [← hx] at h ⊢
  rw [Int.emod_eq_of_lt (by omega) (by omega)]
theorem pg_eql (p q : Pg) (w : World) :
    (binOp .eql 30 (.agg #[.int .i64 p.t, .int .i64 p.c, .int .u16 (p.u : Int)]) (.agg #[.int .i64 q.t, .int .i64 q.c, .int .u16 (q.u : Int)])).run Try.prog w = .ok (.bool (decide (p = q))) w := by
  by_cases h : p = q
  · subst h
    rw [decide_eq_true rfl]
    go_simp
  · rw [decide_eq_false h]
    go_simp
    intro h1 h2 h3
    exact h (Pg.eq h1 h2 (by omega))
theorem pg_neq (p q : Pg) (w : World) :
    (binOp .neq 30 (.agg #[.int .i64 p.t, .int .i64 p.c, .int .u16 (p.u : Int)]) (.agg #[.int .i64 q.t, .int .i64 q.c, .int .u16 (q.u : Int)])).run Try.prog w = .ok (.bool (!decide (p = q))) w := by
  by_cases h : p = q
  · subst h
    rw [decide_eq_true rfl]
    go_simp
  · rw [decide_eq_false h]
    go_simp
    intro h1 h2 h3
    exact h (Pg.eq h1 h2 (by omega))
/-- a page that has no chunk used -/
theorem mayBe_zero (p : Pg) (w : World) (h : p.u = 0) :
    Calls Try.prog 66 #[.agg #[.int .i64 p.t, .int .i64 p.c, .int .u16 (p.u : Int)]] w fun e w' => e = .returned (.bool (pOk p)) ∧ Below w.heap.size w w' := by
  have hf := fun W => isFree_any p W
  rw [decide_eq_true h] at hf
  have HU := Hid.mk2 h
  clear h
  have he : ∀ W, (binOp .eql 30 (.agg #[.int .i64 p.t, .int .i64 p.c, .int .u16 (p.u : Int)]) (.agg #[.int .i64 0, .int .i64 0, .int .u16 0])).run Try.prog W = .ok (.bool (decide (p = pz))) W := fun W => pg_eql p pz W
  go_enter Try.func66, Try.ntmps66
  go_wp2_with (go_at_call 64; refine (hf _).mono ?_; rintro e w1 ⟨rfl, hb1⟩; have z0 : w1.cell? ⟨w.heap.size, 0, none⟩ = some (.int .i64 p.t) := (below_cells hb1 _ _ (by simp)).trans (by simp); have z1 : w1.cell? ⟨w.heap.size, 1, none⟩ = some (.int .i64 p.c) := (below_cells hb1 _ _ (by simp)).trans (by simp); have z2 : w1.cell? ⟨w.heap.size, 2, none⟩ = some (.int .u16 p.u) := (below_cells hb1 _ _ (by simp)).trans (by simp); have hq := he w1)
  go_ret
  exact ⟨by simp [pOk, HU.out], below_alloc hb1⟩
theorem shr_zero {u k : Nat} : ((u : Int) / 2 ^ k == 0) = decide (u < 2 ^ k) := by
  have e : ((u : Int) / 2 ^ k) = ((u / 2 ^ k : Nat) : Int) := by simp
  have h2 : u / 2 ^ k = 0 ↔ u < 2 ^ k := by
    rw [Nat.div_eq_zero_iff]
    have := Nat.two_pow_pos k
    omega
  rw [e, Bool.eq_iff_iff, beq_iff_eq, decide_eq_true_eq, ← h2]
  omega
theorem mayBe_pos (p : Pg) (w : World) (h : p.u ≠ 0) :
    Calls Try.prog 66 #[.agg #[.int .i64 p.t, .int .i64 p.c, .int .u16 (p.u : Int)]] w fun e w' => e = .returned (.bool (pOk p)) ∧ Below w.heap.size w w' := by
  have hf := fun W => isFree_any p W
  rw [decide_eq_false h] at hf
  have ht := fun W => isTenant_any p.t W
  have hc := fun W => isClass_any p.c W
  go_enter Try.func66, Try.ntmps66
  go_upto_region 3 with (go_at_call 64; refine (hf _).mono ?_; rintro e w1 ⟨rfl, hb1⟩; have z0 : w1.cell? ⟨w.heap.size, 0, none⟩ = some (.int .i64 p.t) := (below_cells hb1 _ _ (by simp)).trans (by simp); have z1 : w1.cell? ⟨w.heap.size, 1, none⟩ = some (.int .i64 p.c) := (below_cells hb1 _ _ (by simp)).trans (by simp); have z2 : w1.cell? ⟨w.heap.size, 2, none⟩ = some (.int .u16 p.u) := (below_cells hb1 _ _ (by simp)).trans (by simp))
  have hlt : w.heap.size < w1.heap.size := by have := hb1.size; simp at this; omega
  clear hf
  cases eT : isT p.t
  · rw [eT] at ht
    go_big_quiet ((go_at_call 70; exact Calls.quiet_of_same (ht _)))
    go_wp2
    go_ret
    exact ⟨by simp [pOk, h, eT], below_drewN (below_alloc hb1) _⟩
  · rw [eT] at ht
    cases eC : isC p.c
    · rw [eC] at hc
      go_big_quiet (first
        | (go_at_call 70; exact Calls.quiet_of_same (ht _))
        | (go_at_call 56; exact Calls.quiet_of_same (hc _)))
      go_wp2
      go_ret
      exact ⟨by simp [pOk, h, eT, eC], below_drewN (below_alloc hb1) _⟩
    · rw [eC] at hc
      have hk := fun W => chunksOf_any p.c W eC
      have hkl := chunks_le eC
      obtain ⟨K, hK⟩ : ∃ K, K = chunks p.c := ⟨_, rfl⟩
      rw [← hK] at hk hkl
      have HK := Hid.mk2 hK
      clear hK
      go_big_quiet (first
        | (go_at_call 70; exact Calls.quiet_of_same (ht _))
        | (go_at_call 56; exact Calls.quiet_of_same (hc _))
        | (go_at_call 62; exact Calls.quiet_of_same (hk _)))
      go_wp2
      go_ret
      refine ⟨?_, below_drewN (below_alloc hb1) _⟩
      show Ending.returned (.bool ((p.u : Int) / 2 ^ K == 0)) = _
      rw [shr_zero, HK.out]
      simp [pOk, h, eT, eC]
theorem mayBe_any (p : Pg) (w : World) :
    Calls Try.prog 66 #[.agg #[.int .i64 p.t, .int .i64 p.c, .int .u16 (p.u : Int)]] w fun e w' => e = .returned (.bool (pOk p)) ∧ Below w.heap.size w w' := by
  by_cases h : p.u = 0
  · exact mayBe_zero p w h
  · exact mayBe_pos p w h
end Go.Proofs.Ytkcgleahbhmggaa
