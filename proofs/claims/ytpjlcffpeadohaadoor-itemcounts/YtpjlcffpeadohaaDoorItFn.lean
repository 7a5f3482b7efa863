/-
  Items as data, and contracts of isMoment, Check, Size, Due and Until of package item.
-/
import Derived.Test.YtpjlcffpeadohaaDoorRows
import Derived.WalkKit
import Derived.ProofKit
import Derived.Lib.Hide
import Derived.BigCall
import Derived.BigGuard
import Derived.BigQuiet
import Derived.Laws.Runes
import Derived.Laws.RangeString
namespace Go.Proofs.YtpjlcffpeadohaaDoor
open Go.RowKit
set_option linter.unusedSimpArgs false
set_option linter.unusedVariables false
set_option maxRecDepth 100000

theorem Hid.mk2 {p : Prop} (h : p) : Hid p := h

/-- an item -/
structure It where
  key : ByteArray
  value : ByteArray
  flags : Int
  till : Int
  unique : Int
def It.v (x : It) : Value := .agg #[.string x.key, .string x.value, .int .u32 x.flags, .int .i64 x.till, .int .u64 x.unique]
def It.obj (x : It) : Obj := .cells #[.string x.key, .string x.value, .int .u32 x.flags, .int .i64 x.till, .int .u64 x.unique] 33
def mom (n : Int) : Bool := decide (0 ≤ n) && decide (n ≤ 1099511627776)
/-- P9.1: which error an item has -/
def ckE (x : It) : Int := if x.key.size < 1 ∨ 32 < x.key.size ∨ 512 < x.value.size then 3 else if mom x.till = true then 0 else 2
def szV (x : It) : Int := if ckE x = 0 then 8 + x.key.size + x.value.size else 0
def dueV (x : It) (now : Int) : Bool := decide (x.till ≠ 0) && decide (x.till ≤ now)
/-- P9.2 -/
def unE (now many : Int) : Int := if mom now = true ∧ mom many = true then 0 else 2
def unV (now many : Int) : Int := if mom now = true ∧ mom many = true ∧ many ≠ 0 ∧ now + many ≤ 1099511627776 then now + many else 0

theorem isMoment_any (n : Int) (w : World) :
    Calls Tryd.prog 19 #[.int .i64 n] w fun e w' => e = .returned (.bool (mom n)) ∧ w' = w := by
  unfold mom
  by_cases h : 0 ≤ n
  · have h' : decide (0 ≤ n) = true := by simpa using h
    go_enter Tryd.func19, Tryd.ntmps19
    go_wp2
    go_ret
    exact ⟨by simp [h], rfl⟩
  · have h' : decide (0 ≤ n) = false := by simpa using h
    go_enter Tryd.func19, Tryd.ntmps19
    go_wp2
    go_ret
    exact ⟨by simp [h], rfl⟩

theorem icheck_any (x : It) (w : World) :
    Calls Tryd.prog 10 #[x.v] w fun e w' => e = .returned (.int .i64 (ckE x)) ∧ w' = w.alloc x.obj := by
  obtain ⟨key, value, flags, till, unique⟩ := x
  unfold ckE It.v It.obj
  dsimp only
  by_cases h1 : key.size < 1
  · have h1' : decide ((key.size : Int) < 1) = true := by simp; omega
    rw [if_pos (Or.inl h1)]
    clear h1
    go_enter Tryd.func10, Tryd.ntmps10
    go_wp2
    go_ret
    exact ⟨rfl, rfl⟩
  have h1' : decide ((key.size : Int) < 1) = false := by simp; omega
  by_cases h2 : 32 < key.size
  · have h2' : decide ((32 : Int) < (key.size : Int)) = true := by simp; omega
    rw [if_pos (Or.inr (Or.inl h2))]
    clear h1 h2
    go_enter Tryd.func10, Tryd.ntmps10
    go_wp2
    go_ret
    exact ⟨rfl, rfl⟩
  have h2' : decide ((32 : Int) < (key.size : Int)) = false := by simp; omega
  by_cases h3 : 512 < value.size
  · have h3' : decide ((512 : Int) < (value.size : Int)) = true := by simp; omega
    rw [if_pos (Or.inr (Or.inr h3))]
    clear h1 h2 h3
    go_enter Tryd.func10, Tryd.ntmps10
    go_wp2
    go_ret
    exact ⟨rfl, rfl⟩
  have h3' : decide ((512 : Int) < (value.size : Int)) = false := by simp; omega
  rw [if_neg (by omega)]
  clear h1 h2 h3
  cases hm : mom till
  · go_enter Tryd.func10, Tryd.ntmps10
    go_wp2_with (go_at_call 19; refine (isMoment_any _ _).mono ?_; rintro e w1 ⟨rfl, rfl⟩)
    all_goals go_ret
    all_goals first | exact ⟨rfl, rfl⟩ | simp_all
  · go_enter Tryd.func10, Tryd.ntmps10
    go_wp2_with (go_at_call 19; refine (isMoment_any _ _).mono ?_; rintro e w1 ⟨rfl, rfl⟩)
    all_goals go_ret
    all_goals first | exact ⟨rfl, rfl⟩ | simp_all

theorem isize_any (x : It) (w : World) :
    Calls Tryd.prog 20 #[x.v] w fun e w' => e = .returned (.tuple #[.int .i64 (szV x), .int .i64 (ckE x)]) ∧ w' = (w.alloc x.obj).alloc x.obj := by
  have HC := Hid.mk2 (icheck_any x)
  obtain ⟨E, hE⟩ : ∃ E, E = ckE x := ⟨_, rfl⟩
  rw [← hE] at HC
  unfold szV
  rw [← hE]
  by_cases h0 : E = 0
  · subst h0
    have hs : x.key.size ≤ 32 ∧ x.value.size ≤ 512 := by
      unfold ckE at hE
      split at hE
      · exact absurd hE (by decide)
      · omega
    obtain ⟨key, value, flags, till, unique⟩ := x
    unfold It.v It.obj at *
    dsimp only at *
    have hk1 : (key.size : Int) ≤ 32 := by omega
    have hk2 : (value.size : Int) ≤ 512 := by omega
    clear hE hs
    go_enter Tryd.func20, Tryd.ntmps20
    go_wp2_with (go_at_call 10; refine (HC.out _).mono ?_; rintro e w1 ⟨rfl, rfl⟩)
    all_goals go_ret2
    all_goals exact ⟨rfl, rfl⟩
  · have h0' : (E == 0) = false := by simpa using h0
    have h0'' : (E != 0) = true := by simpa using h0
    rw [if_neg h0]
    obtain ⟨key, value, flags, till, unique⟩ := x
    unfold It.v It.obj at *
    dsimp only at *
    clear hE h0
    go_enter Tryd.func20, Tryd.ntmps20
    go_wp2_with (go_at_call 10; refine (HC.out _).mono ?_; rintro e w1 ⟨rfl, rfl⟩)
    all_goals go_ret2
    all_goals exact ⟨rfl, rfl⟩

theorem idue_any (x : It) (now : Int) (w : World) :
    Calls Tryd.prog 18 #[x.v, .int .i64 now] w fun e w' => e = .returned (.bool (dueV x now)) ∧ w' = w.alloc x.obj := by
  obtain ⟨key, value, flags, till, unique⟩ := x
  unfold dueV It.v It.obj
  dsimp only
  by_cases h : till = 0
  · subst h
    go_enter Tryd.func18, Tryd.ntmps18
    go_wp2
    go_ret
    exact ⟨by simp, rfl⟩
  · have h' : (till == 0) = false := by simpa using h
    have h'' : (till != 0) = true := by simpa using h
    go_enter Tryd.func18, Tryd.ntmps18
    go_wp2
    go_ret
    exact ⟨by simp [h], rfl⟩

theorem iuntil_any (now many : Int) (w : World) :
    Calls Tryd.prog 7 #[.int .i64 now, .int .i64 many] w fun e w' => e = .returned (.tuple #[.int .i64 (unV now many), .int .i64 (unE now many)]) ∧ w' = w := by
  cases h1 : mom now
  · have e1 : unV now many = 0 := by unfold unV; rw [if_neg (by simp [h1])]
    have e2 : unE now many = 2 := by unfold unE; rw [if_neg (by simp [h1])]
    rw [e1, e2]
    clear e1 e2
    go_enter Tryd.func7, Tryd.ntmps7
    go_wp2_with (go_at_call 19; refine (isMoment_any _ _).mono ?_; rintro e w1 ⟨rfl, rfl⟩)
    all_goals go_ret2
    all_goals first | exact ⟨rfl, rfl⟩ | simp_all
  cases h2 : mom many
  · have e1 : unV now many = 0 := by unfold unV; rw [if_neg (by simp [h2])]
    have e2 : unE now many = 2 := by unfold unE; rw [if_neg (by simp [h2])]
    rw [e1, e2]
    clear e1 e2
    go_enter Tryd.func7, Tryd.ntmps7
    go_wp2_with (go_at_call 19; refine (isMoment_any _ _).mono ?_; rintro e w1 ⟨rfl, rfl⟩)
    all_goals go_ret2
    all_goals first | exact ⟨rfl, rfl⟩ | simp_all
  have e2 : unE now many = 0 := by unfold unE; rw [if_pos ⟨h1, h2⟩]
  have e1 : unV now many = if many ≠ 0 ∧ now + many ≤ 1099511627776 then now + many else 0 := by unfold unV; simp [h1, h2]
  have b1 : 0 ≤ now ∧ now ≤ 1099511627776 := by simpa [mom] using h1
  have b2 : 0 ≤ many ∧ many ≤ 1099511627776 := by simpa [mom] using h2
  obtain ⟨b11, b12⟩ := b1
  obtain ⟨b21, b22⟩ := b2
  rw [e2, e1]
  clear e1 e2
  by_cases h3 : many = 0
  · subst h3
    go_enter Tryd.func7, Tryd.ntmps7
    go_wp2_with (go_at_call 19; refine (isMoment_any _ _).mono ?_; rintro e w1 ⟨rfl, rfl⟩)
    all_goals go_ret2
    all_goals first | exact ⟨rfl, rfl⟩ | simp_all
  · have h3' : (many == 0) = false := by simpa using h3
    by_cases h4 : now + many ≤ 1099511627776
    · have h4' : decide ((1099511627776 : Int) < now + many) = false := by simp; omega
      rw [if_pos ⟨h3, h4⟩]
      clear h3
      go_enter Tryd.func7, Tryd.ntmps7
      go_wp2_with (go_at_call 19; refine (isMoment_any _ _).mono ?_; rintro e w1 ⟨rfl, rfl⟩)
      all_goals go_ret2
      all_goals first | exact ⟨rfl, rfl⟩ | simp_all
    · have h4' : decide ((1099511627776 : Int) < now + many) = true := by simp; omega
      rw [if_neg (by intro h; exact h4 h.2)]
      clear h3 h4
      go_enter Tryd.func7, Tryd.ntmps7
      go_wp2_with (go_at_call 19; refine (isMoment_any _ _).mono ?_; rintro e w1 ⟨rfl, rfl⟩)
      all_goals go_ret2
      all_goals first | exact ⟨rfl, rfl⟩ | simp_all
end Go.Proofs.YtpjlcffpeadohaaDoor
