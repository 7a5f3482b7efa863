/-
  The document's items (cloakroomref09): contracts of Moment, Check, Bytes, Size, Due, After and Until.
-/
import Derived.Test.YtpjlcffpeadohaaItFn
namespace Go.Proofs.Ytpjlcffpeadohaa
open Go.RowKit
set_option linter.unusedSimpArgs false
set_option linter.unusedVariables false
set_option maxRecDepth 100000

theorem rmoment_any (n : Int) (w : World) :
    Calls Try.prog 14 #[.int .i64 n] w fun e w' => e = .returned (.bool (mom n)) ∧ w' = w := by
  unfold mom
  by_cases h : 0 ≤ n
  · have h' : decide (0 ≤ n) = true := by simpa using h
    go_enter Try.func14, Try.ntmps14
    go_wp2
    go_ret
    exact ⟨by simp [h], rfl⟩
  · have h' : decide (0 ≤ n) = false := by simpa using h
    go_enter Try.func14, Try.ntmps14
    go_wp2
    go_ret
    exact ⟨by simp [h], rfl⟩

theorem rcheck9_any (x : It) (w : World) :
    Calls Try.prog 9 #[x.v] w fun e w' => e = .returned (.int .i64 (ckE x)) ∧ w' = w.alloc x.obj := by
  obtain ⟨key, value, flags, till, unique⟩ := x
  unfold ckE It.v It.obj
  dsimp only
  by_cases h1 : key.size < 1
  · have h1' : decide ((key.size : Int) < 1) = true := by simp; omega
    rw [if_pos (Or.inl h1)]
    clear h1
    go_enter Try.func9, Try.ntmps9
    go_wp2
    go_ret
    exact ⟨rfl, rfl⟩
  have h1' : decide ((key.size : Int) < 1) = false := by simp; omega
  by_cases h2 : 32 < key.size
  · have h2' : decide ((32 : Int) < (key.size : Int)) = true := by simp; omega
    rw [if_pos (Or.inr (Or.inl h2))]
    clear h1 h2
    go_enter Try.func9, Try.ntmps9
    go_wp2
    go_ret
    exact ⟨rfl, rfl⟩
  have h2' : decide ((32 : Int) < (key.size : Int)) = false := by simp; omega
  by_cases h3 : 512 < value.size
  · have h3' : decide ((512 : Int) < (value.size : Int)) = true := by simp; omega
    rw [if_pos (Or.inr (Or.inr h3))]
    clear h1 h2 h3
    go_enter Try.func9, Try.ntmps9
    go_wp2
    go_ret
    exact ⟨rfl, rfl⟩
  have h3' : decide ((512 : Int) < (value.size : Int)) = false := by simp; omega
  rw [if_neg (by omega)]
  clear h1 h2 h3
  cases hm : mom till
  · go_enter Try.func9, Try.ntmps9
    go_wp2_with (go_at_call 14; refine (rmoment_any _ _).mono ?_; rintro e w1 ⟨rfl, rfl⟩)
    all_goals go_ret
    all_goals first | exact ⟨rfl, rfl⟩ | simp_all
  · go_enter Try.func9, Try.ntmps9
    go_wp2_with (go_at_call 14; refine (rmoment_any _ _).mono ?_; rintro e w1 ⟨rfl, rfl⟩)
    all_goals go_ret
    all_goals first | exact ⟨rfl, rfl⟩ | simp_all

theorem rbytes_any (x : It) (h1 : x.key.size ≤ 32) (h2 : x.value.size ≤ 512) (w : World) :
    Calls Try.prog 12 #[x.v] w fun e w' => e = .returned (.int .i64 (8 + x.key.size + x.value.size)) ∧ w' = w.alloc x.obj := by
  obtain ⟨key, value, flags, till, unique⟩ := x
  unfold It.v It.obj
  dsimp only at *
  have hk1 : (key.size : Int) ≤ 32 := by omega
  have hk2 : (value.size : Int) ≤ 512 := by omega
  clear h1 h2
  go_enter Try.func12, Try.ntmps12
  go_wp2
  go_ret
  exact ⟨rfl, rfl⟩

theorem rsize9_any (x : It) (w : World) :
    Calls Try.prog 5 #[x.v] w fun e w' => e = .returned (.tuple #[.int .i64 (szV x), .int .i64 (ckE x)]) ∧ Below w.heap.size w w' := by
  have HC := Hid.mk2 (rcheck9_any x)
  obtain ⟨E, hE⟩ : ∃ E, E = ckE x := ⟨_, rfl⟩
  rw [← hE] at HC
  unfold szV
  rw [← hE]
  by_cases h0 : E = 0
  · subst h0
    have hs : x.key.size ≤ 32 ∧ x.value.size ≤ 512 := by
      unfold ckE at hE
      split at hE
      · exact absurd hE (by decide)
      · omega
    have HBY := Hid.mk2 (rbytes_any x hs.1 hs.2)
    obtain ⟨key, value, flags, till, unique⟩ := x
    unfold It.v It.obj at *
    dsimp only at *
    clear hE hs
    go_enter Try.func5, Try.ntmps5
    go_wp2_with (first
      | (go_at_call 9; refine (HC.out _).mono ?_; rintro e w1 ⟨rfl, rfl⟩)
      | (go_at_call 12; refine (HBY.out _).mono ?_; rintro e w1 ⟨rfl, rfl⟩))
    all_goals go_ret2
    all_goals exact ⟨rfl, (((Below.refl _ _).alloc (Nat.le_refl _) _).alloc (by simp) _).alloc (by simp; omega) _⟩
  · have h0' : (E == 0) = false := by simpa using h0
    have h0'' : (E != 0) = true := by simpa using h0
    rw [if_neg h0]
    obtain ⟨key, value, flags, till, unique⟩ := x
    unfold It.v It.obj at *
    dsimp only at *
    clear hE h0
    go_enter Try.func5, Try.ntmps5
    go_wp2_with (go_at_call 9; refine (HC.out _).mono ?_; rintro e w1 ⟨rfl, rfl⟩)
    all_goals go_ret2
    all_goals exact ⟨rfl, ((Below.refl _ _).alloc (Nat.le_refl _) _).alloc (by simp) _⟩

theorem rdue9_any (x : It) (now : Int) (w : World) :
    Calls Try.prog 11 #[x.v, .int .i64 now] w fun e w' => e = .returned (.bool (dueV x now)) ∧ w' = w.alloc x.obj := by
  obtain ⟨key, value, flags, till, unique⟩ := x
  unfold dueV It.v It.obj
  dsimp only
  by_cases h : till = 0
  · subst h
    go_enter Try.func11, Try.ntmps11
    go_wp2
    go_ret
    exact ⟨by simp, rfl⟩
  · have h' : (till == 0) = false := by simpa using h
    have h'' : (till != 0) = true := by simpa using h
    go_enter Try.func11, Try.ntmps11
    go_wp2
    go_ret
    exact ⟨by simp [h], rfl⟩

theorem rafter_any (now many : Int) (b11 : 0 ≤ now) (b12 : now ≤ 1099511627776) (b21 : 0 ≤ many) (b22 : many ≤ 1099511627776) (w : World) :
    Calls Try.prog 15 #[.int .i64 now, .int .i64 many] w fun e w' => e = .returned (.int .i64 (if many ≠ 0 ∧ now + many ≤ 1099511627776 then now + many else 0)) ∧ w' = w := by
  by_cases h3 : many = 0
  · subst h3
    go_enter Try.func15, Try.ntmps15
    go_wp2
    go_ret
    exact ⟨rfl, rfl⟩
  · have h3' : (many == 0) = false := by simpa using h3
    by_cases h4 : now + many ≤ 1099511627776
    · have h4' : decide ((1099511627776 : Int) < now + many) = false := by simp; omega
      rw [if_pos ⟨h3, h4⟩]
      clear h3
      go_enter Try.func15, Try.ntmps15
      go_wp2
      go_ret
      exact ⟨rfl, rfl⟩
    · have h4' : decide ((1099511627776 : Int) < now + many) = true := by simp; omega
      rw [if_neg (by intro h; exact h4 h.2)]
      clear h3 h4
      go_enter Try.func15, Try.ntmps15
      go_wp2
      go_ret
      exact ⟨rfl, rfl⟩

theorem runtil_any (now many : Int) (w : World) :
    Calls Try.prog 7 #[.int .i64 now, .int .i64 many] w fun e w' => e = .returned (.tuple #[.int .i64 (unV now many), .int .i64 (unE now many)]) ∧ w' = w := by
  cases h1 : mom now
  · have e1 : unV now many = 0 := by unfold unV; rw [if_neg (by simp [h1])]
    have e2 : unE now many = 2 := by unfold unE; rw [if_neg (by simp [h1])]
    rw [e1, e2]
    clear e1 e2
    go_enter Try.func7, Try.ntmps7
    go_wp2_with (go_at_call 14; refine (rmoment_any _ _).mono ?_; rintro e w1 ⟨rfl, rfl⟩)
    all_goals go_ret2
    all_goals first | exact ⟨rfl, rfl⟩ | simp_all
  cases h2 : mom many
  · have e1 : unV now many = 0 := by unfold unV; rw [if_neg (by simp [h2])]
    have e2 : unE now many = 2 := by unfold unE; rw [if_neg (by simp [h2])]
    rw [e1, e2]
    clear e1 e2
    go_enter Try.func7, Try.ntmps7
    go_wp2_with (go_at_call 14; refine (rmoment_any _ _).mono ?_; rintro e w1 ⟨rfl, rfl⟩)
    all_goals go_ret2
    all_goals first | exact ⟨rfl, rfl⟩ | simp_all
  have e2 : unE now many = 0 := by unfold unE; rw [if_pos ⟨h1, h2⟩]
  have e1 : unV now many = if many ≠ 0 ∧ now + many ≤ 1099511627776 then now + many else 0 := by unfold unV; simp [h1, h2]
  have b1 : 0 ≤ now ∧ now ≤ 1099511627776 := by simpa [mom] using h1
  have b2 : 0 ≤ many ∧ many ≤ 1099511627776 := by simpa [mom] using h2
  have HA := Hid.mk2 (rafter_any now many b1.1 b1.2 b2.1 b2.2)
  rw [← e1] at HA
  rw [e2]
  clear e1 e2 b1 b2
  go_enter Try.func7, Try.ntmps7
  go_wp2_with (first
    | (go_at_call 14; refine (rmoment_any _ _).mono ?_; rintro e w1 ⟨rfl, rfl⟩)
    | (go_at_call 15; refine (HA.out _).mono ?_; rintro e w1 ⟨rfl, rfl⟩))
  all_goals go_ret2
  all_goals first | exact ⟨rfl, rfl⟩ | simp_all
end Go.Proofs.Ytpjlcffpeadohaa
