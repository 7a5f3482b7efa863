/-
  Contracts of hasTenant, mostTo, whyMayBe, ownMayBe, changeMayBe.
-/
import Derived.Test.YtlhlleokehkolaaChg
namespace Go.Proofs.Ytlhlleokehkolaa
open Go.RowKit
set_option linter.unusedSimpArgs false
set_option linter.unusedVariables false
set_option maxRecDepth 100000

theorem kinds (k : Nat) : k = 1 ∨ k = 2 ∨ k = 3 ∨ k = 4 ∨ k = 5 ∨ k = 6 ∨ k = 7 ∨
    (((k : Int) == 1) = false ∧ ((k : Int) == 2) = false ∧ ((k : Int) == 3) = false ∧ ((k : Int) == 4) = false ∧ ((k : Int) == 5) = false ∧ ((k : Int) == 6) = false ∧ ((k : Int) == 7) = false) := by
  by_cases h1 : k = 1; · exact .inl h1
  by_cases h2 : k = 2; · exact .inr (.inl h2)
  by_cases h3 : k = 3; · exact .inr (.inr (.inl h3))
  by_cases h4 : k = 4; · exact .inr (.inr (.inr (.inl h4)))
  by_cases h5 : k = 5; · exact .inr (.inr (.inr (.inr (.inl h5))))
  by_cases h6 : k = 6; · exact .inr (.inr (.inr (.inr (.inr (.inl h6)))))
  by_cases h7 : k = 7; · exact .inr (.inr (.inr (.inr (.inr (.inr (.inl h7))))))
  refine .inr (.inr (.inr (.inr (.inr (.inr (.inr ⟨?_, ?_, ?_, ?_, ?_, ?_, ?_⟩)))))) <;> simp <;> omega
def hasTen (k : Nat) : Bool := k == 1 || k == 2 || k == 3 || k == 5
def mostTo (k : Nat) : Int := if k = 4 then 1099511627776 else if k = 5 then 16 else if k = 6 ∨ k = 7 then 2147483647 else 0
def whyOk (k : Nat) : Bool := k == 1 || k == 2

theorem hasTenant_any (k : Nat) (w : World) :
    Calls Try.prog 60 #[.int .u8 k] w fun e w' => e = .returned (.bool (hasTen k)) ∧ w = w' := by
  rcases kinds k with rfl | rfl | rfl | rfl | rfl | rfl | rfl | ⟨h1, h2, h3, h4, h5, h6, h7⟩
  all_goals
    go_enter Try.func60, Try.ntmps60
    go_wp2
    go_ret
    first
      | exact ⟨rfl, rfl⟩
      | (refine ⟨?_, rfl⟩
         simp at h1 h2 h3 h5
         simp [hasTen]; omega)

theorem mostTo_any (k : Nat) (w : World) :
    Calls Try.prog 61 #[.int .u8 k] w fun e w' => e = .returned (.int .i64 (mostTo k)) ∧ w = w' := by
  rcases kinds k with rfl | rfl | rfl | rfl | rfl | rfl | rfl | ⟨h1, h2, h3, h4, h5, h6, h7⟩
  all_goals
    go_enter Try.func61, Try.ntmps61
    go_wp2
    go_ret
    first
      | exact ⟨rfl, rfl⟩
      | (refine ⟨ret_int ?_, rfl⟩
         simp at h4 h5 h6 h7
         unfold mostTo
         rw [if_neg (by omega), if_neg (by omega), if_neg (by omega)])

theorem whyMayBe_any (k : Nat) (w : World) :
    Calls Try.prog 75 #[.int .u8 k] w fun e w' => e = .returned (.bool (whyOk k)) ∧ w = w' := by
  rcases kinds k with rfl | rfl | rfl | rfl | rfl | rfl | rfl | ⟨h1, h2, h3, h4, h5, h6, h7⟩
  all_goals
    go_enter Try.func75, Try.ntmps75
    go_wp2
    go_ret
    first
      | exact ⟨rfl, rfl⟩
      | (refine ⟨?_, rfl⟩
         simp at h1 h2
         simp [whyOk]; omega)

theorem beq_zero (y : Nat) : ((y : Int) == 0) = decide (y = 0) := by
  by_cases h : y = 0 <;> simp [h]
def noDrop (c : Chg) : Bool := decide (c.key.toList = []) && decide (c.why.toNat = 0)
/-- the fields that one kind alone has -/
def ownOk (c : Chg) : Bool :=
  if c.kind.toNat = 1 then itmOk c.item && noDrop c && !c.primary
  else if c.kind.toNat = 2 then noItm c.item && keyOk c.key && whyOk c.why.toNat && !c.primary
  else if c.kind.toNat = 6 then noItm c.item && noDrop c
  else if c.kind.toNat = 3 ∨ c.kind.toNat = 4 ∨ c.kind.toNat = 5 ∨ c.kind.toNat = 7 then noItm c.item && noDrop c && !c.primary
  else false

set_option maxHeartbeats 2000000 in
theorem ownMayBe_any (c : Chg) (w : World) :
    Calls Try.prog 62 #[c.val] w fun e w' => e = .returned (.bool (ownOk c)) ∧ Below w.heap.size w w' := by
  obtain ⟨kind, tenant, item, key, why, to, primary⟩ := c
  unfold Chg.val Chg.cells bcell ownOk noDrop
  simp only []
  obtain ⟨k, hk⟩ : ∃ k, k = kind.toNat := ⟨_, rfl⟩
  obtain ⟨y, hy⟩ : ∃ y, y = why.toNat := ⟨_, rfl⟩
  rw [← hk, ← hy]
  clear hk hy
  rcases kinds k with rfl | rfl | rfl | rfl | rfl | rfl | rfl | ⟨h1, h2, h3, h4, h5, h6, h7⟩
  rotate_right
  · have n1 : ¬ k = 1 := by intro e; subst e; cases h1
    have n2 : ¬ k = 2 := by intro e; subst e; cases h2
    have n3 : ¬ k = 3 := by intro e; subst e; cases h3
    have n4 : ¬ k = 4 := by intro e; subst e; cases h4
    have n5 : ¬ k = 5 := by intro e; subst e; cases h5
    have n6 : ¬ k = 6 := by intro e; subst e; cases h6
    have n7 : ¬ k = 7 := by intro e; subst e; cases h7
    rw [if_neg n1, if_neg n2, if_neg n6, if_neg (by omega)]
    go_enter Try.func62, Try.ntmps62
    go_wp2_with (first
      | (refine op_noItm rfl (.tmp 6) (.tmp 7) rfl item rfl rfl ?_))
    all_goals
      go_ret
      exact ⟨rfl, (Below.refl _ _).alloc (Nat.le_refl _) _⟩
  all_goals
    go_enter Try.func62, Try.ntmps62
    go_wp2_with (first
      | (refine op_noItm rfl (.tmp 6) (.tmp 7) rfl item rfl rfl ?_)
      | (go_at_call 74; refine (itemMayBe_any item _).mono ?_; rintro e w1 ⟨rfl, hb1⟩; have hc1 := below_cells hb1)
      | (go_at_call 35; refine (keyMayBe_any _ _).mono ?_; rintro e w' ⟨rfl, rfl⟩)
      | (go_at_call 75; refine (whyMayBe_any y _).mono ?_; rintro e w' ⟨rfl, rfl⟩))
    all_goals
      go_ret
      first
        | exact ⟨rfl, below_alloc hb1⟩
        | (refine ⟨?_, below_alloc hb1⟩; simp [*]; done)
        | exact ⟨rfl, (Below.refl _ _).alloc (Nat.le_refl _) _⟩
        | (refine ⟨?_, (Below.refl _ _).alloc (Nat.le_refl _) _⟩; simp [beq_zero, *]; done)

end Go.Proofs.Ytlhlleokehkolaa
