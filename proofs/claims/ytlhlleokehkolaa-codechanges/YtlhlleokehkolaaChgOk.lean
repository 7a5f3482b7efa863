/-
  Contract of changeMayBe.
-/
import Derived.Test.YtlhlleokehkolaaChgOwn
namespace Go.Proofs.Ytlhlleokehkolaa
open Go.RowKit
set_option linter.unusedSimpArgs false
set_option linter.unusedVariables false
set_option maxRecDepth 100000

/-- P1.3: may a change be? -/
def chgOk (c : Chg) : Bool := !(!decide (c.tenant = 0) && !(hasTen c.kind.toNat && tenOk c.tenant)) && (!(decide (c.to < 0) || decide (mostTo c.kind.toNat < c.to)) && ownOk c)

set_option maxHeartbeats 1000000 in
theorem changeMayBe_any (c : Chg) (w : World) :
    Calls Try.prog 40 #[c.val] w fun e w' => e = .returned (.bool (chgOk c)) ∧ Below w.heap.size w w' := by
  have hown := ownMayBe_any c
  unfold chgOk
  obtain ⟨ow, how⟩ : ∃ ow, ow = ownOk c := ⟨_, rfl⟩
  rw [← how] at hown ⊢
  clear how
  obtain ⟨kind, tenant, item, key, why, to, primary⟩ := c
  unfold Chg.val Chg.cells bcell at hown
  unfold Chg.val Chg.cells bcell
  simp only [] at hown ⊢
  obtain ⟨k, hk⟩ : ∃ k, k = kind.toNat := ⟨_, rfl⟩
  rw [← hk] at hown ⊢
  clear hk
  obtain ⟨m, hm⟩ : ∃ m, m = mostTo k := ⟨_, rfl⟩
  have hmost := mostTo_any k
  rw [← hm] at hmost ⊢
  clear hm
  have hmq : ∀ w, Calls Try.prog 61 #[.int .u8 k] w fun e w' => e = .returned (.int .i64 m) ∧ w' = w := fun w => (hmost w).mono (fun e w' h => ⟨h.1, h.2.symm⟩)
  have hcase : ((tenant != 0) = false ∧ decide (tenant = 0) = true) ∨ ((tenant != 0) = true ∧ decide (tenant = 0) = false) := by
    by_cases h : tenant = 0
    · exact .inl ⟨by simp [h], by simp [h]⟩
    · exact .inr ⟨by simp [h], by simp [h]⟩
  have hgood : ∀ (_ : ((tenant != 0) = false ∧ decide (tenant = 0) = true) ∨ ((tenant != 0) = true ∧ decide (tenant = 0) = false ∧ hasTen k = true ∧ tenOk tenant = true)),
      Calls Try.prog 40 #[.agg #[.int .u8 k, .int .i64 tenant, .string item.key, .string item.value, .int .u32 item.flags, .int .i64 item.til, .int .u64 item.unique, .string key, .int .u8 why.toNat, .int .i64 to, .bool primary]] w
        fun e w' => e = .returned (.bool (!(decide (to < 0) || decide (m < to)) && ow)) ∧ Below w.heap.size w w' := by
    intro hT
    by_cases h0 : to < 0
    · have d0 : decide (to < 0) = true := by simp [h0]
      rcases hT with ⟨t1, t2⟩ | ⟨t1, t2, t3, t4⟩
      all_goals
        go_enter Try.func40, Try.ntmps40
        go_wp2_with (first
          | (go_at_call 60; refine (hasTenant_any k _).mono ?_; rintro e w' ⟨rfl, rfl⟩)
          | (go_at_call 34; refine (tenantMayBe_any _ _).mono ?_; rintro e w' ⟨rfl, rfl⟩))
        go_quiet (fail)
        go_wp2
        go_ret
        exact ⟨by simp [d0], below_drewN ((Below.refl _ _).alloc (Nat.le_refl _) _) _⟩
    · have d0 : decide (to < 0) = false := by simp; omega
      by_cases h1 : m < to
      · have d1 : decide (m < to) = true := by simp [h1]
        rcases hT with ⟨t1, t2⟩ | ⟨t1, t2, t3, t4⟩
        all_goals
          go_enter Try.func40, Try.ntmps40
          go_wp2_with (first
            | (go_at_call 60; refine (hasTenant_any k _).mono ?_; rintro e w' ⟨rfl, rfl⟩)
            | (go_at_call 34; refine (tenantMayBe_any _ _).mono ?_; rintro e w' ⟨rfl, rfl⟩))
          go_quiet ((go_at_call 61; exact Calls.quiet_of_same (hmq _)))
          go_wp2
          go_ret
          exact ⟨by simp [d1], below_drewN ((Below.refl _ _).alloc (Nat.le_refl _) _) _⟩
      · have d1 : decide (m < to) = false := by simp; omega
        rcases hT with ⟨t1, t2⟩ | ⟨t1, t2, t3, t4⟩
        all_goals
          go_enter Try.func40, Try.ntmps40
          go_wp2_with (first
            | (go_at_call 60; refine (hasTenant_any k _).mono ?_; rintro e w' ⟨rfl, rfl⟩)
            | (go_at_call 34; refine (tenantMayBe_any _ _).mono ?_; rintro e w' ⟨rfl, rfl⟩))
          go_quiet ((go_at_call 61; exact Calls.quiet_of_same (hmq _)))
          go_wp2_with (go_at_call 62; refine (hown _).mono ?_; rintro e w1 ⟨rfl, hb1⟩)
          go_ret
          exact ⟨by simp [d0, d1], (below_drewN ((Below.refl _ _).alloc (Nat.le_refl _) _) _).trans (hb1.mono (by simp))⟩
  rcases hcase with ⟨t1, t2⟩ | ⟨t1, t2⟩
  · refine (hgood (.inl ⟨t1, t2⟩)).mono fun e w' h => ⟨?_, h.2⟩
    rw [h.1, t2]; rfl
  · by_cases h3 : hasTen k = true
    · by_cases h4 : tenOk tenant = true
      · refine (hgood (.inr ⟨t1, t2, h3, h4⟩)).mono fun e w' h => ⟨?_, h.2⟩
        rw [h.1, t2, h3, h4]; rfl
      · have h4' : tenOk tenant = false := by simpa using h4
        clear h4 hgood
        go_enter Try.func40, Try.ntmps40
        go_wp2_with (first
          | (go_at_call 60; refine (hasTenant_any k _).mono ?_; rintro e w' ⟨rfl, rfl⟩)
          | (go_at_call 34; refine (tenantMayBe_any _ _).mono ?_; rintro e w' ⟨rfl, rfl⟩))
        go_ret
        exact ⟨by simp [t2, h4'], (Below.refl _ _).alloc (Nat.le_refl _) _⟩
    · have h3' : hasTen k = false := by simpa using h3
      clear h3 hgood
      go_enter Try.func40, Try.ntmps40
      go_wp2_with (first
        | (go_at_call 60; refine (hasTenant_any k _).mono ?_; rintro e w' ⟨rfl, rfl⟩))
      go_ret
      exact ⟨by simp [t2, h3'], (Below.refl _ _).alloc (Nat.le_refl _) _⟩
end Go.Proofs.Ytlhlleokehkolaa
