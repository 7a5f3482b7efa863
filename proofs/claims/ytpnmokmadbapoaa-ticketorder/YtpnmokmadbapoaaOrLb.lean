/-
  The shard of a key in package order: home, and what Part and needs ask of a key.
-/
import Derived.Test.YtpnmokmadbapoaaOrRefS
import Derived.Test.YtpnmokmadbapoaaOrLa
namespace Go.Proofs.Ytpnmokmadbapoaa
open Go.RowKit Go.Sort Go.Shelf
set_option linter.unusedSimpArgs false
set_option linter.unusedVariables false
set_option maxRecDepth 100000

/-- code.Shard, of a tenant and a key that may be: it lays one block -/
theorem pshard_g (t : Int) (s : ByteArray) (n : Int) (w : World) (ht : tenOk t = true) (hk : keyOk s = true) (hn0 : 1 ≤ n) (hn1 : n ≤ 4) :
    Calls Try.prog 86 #[.int .i64 t, .string s, .int .i64 n] w fun e w' =>
      e = .returned (.tuple #[.int .i64 (shardOf t s n).1, .int .i64 (shardOf t s n).2]) ∧ ∃ q os', w' = grow (w.drewN q) os' := by
  have hcv := fun w => conv_one t w
  have hk2 : s.size ≤ maxLen := by have : 1 ≤ s.size ∧ s.size ≤ 32 := by simpa [keyOk] using hk
                                   unfold maxLen
                                   omega
  have hnd : decide (n < 1) = false := by simp; omega
  have hnd2 : decide (4 < n) = false := by simp; omega
  have ht2 : 0 ≤ t ∧ t < 4 := by simpa [tenOk] using ht
  obtain ⟨ht0, ht1⟩ := ht2
  go_enter Try.func86, Try.ntmps86
  go_wp2_with (first
    | (go_at_call 97; refine (tenantMayBe_any _ _).mono ?_; rintro e w' ⟨rfl, rfl⟩)
    | (go_at_call 98; refine (keyMayBe_any _ _).mono ?_; rintro e w' ⟨rfl, rfl⟩)
    | (go_at_call 100; refine (hash_any _ _ (by rw [tenantText_size]; decide)).mono ?_; rintro e w' ⟨rfl, rfl⟩)
    | (go_at_call 99; refine (hashOn_any _ _ _ hk2).mono ?_; rintro e w' ⟨rfl, rfl⟩))
  go_ret2
  refine ⟨?_, 0, _, alloc_eq_grow _ _⟩
  rw [show hashL (hash0 (tenantText t).data.toList) s.data.toList = hash0 ((tenantText t).data.toList ++ s.data.toList) from (hashL_append _ _ _).symm, mod_form _ _ (hash0_bounds _).1 hn0 hn1]
  have e : ¬ (n < 1 ∨ 4 < n) := by omega
  simp [shardOf, ht, hk, e]
theorem home_g (t : Int) (s : ByteArray) (n : Int) (w : World) (ht : tenOk t = true) (hk : keyOk s = true) (hn0 : 1 ≤ n) (hn1 : n ≤ 4) :
    Calls Try.prog 59 #[.int .i64 t, .string s, .int .i64 n] w fun e w' => e = .returned (.int .i64 (shardOf t s n).1) ∧ ∃ q os', w' = grow (w.drewN q) os' := by
  have HS := Hid.mk2 (fun W => pshard_g t s n W ht hk hn0 hn1)
  obtain ⟨S, hS⟩ : ∃ S, S = (shardOf t s n).1 := ⟨_, rfl⟩
  obtain ⟨T, hT⟩ : ∃ T, T = (shardOf t s n).2 := ⟨_, rfl⟩
  rw [← hS, ← hT] at HS
  rw [← hS]
  clear hS hT ht hk hn0 hn1
  go_enter Try.func59, Try.ntmps59
  go_wp2_with (go_at_call 86; refine (HS.out _).mono ?_; rintro e w1 ⟨rfl, q, os, hw1⟩)
  go_ret
  exact ⟨rfl, q, os, rfl⟩
/-- what a command's needs asks of a key: is the shard its own? -/
theorem needs1_g (t : Int) (s : ByteArray) (n sh : Int) (bc bn bs : Nat) (w : World) (ht : tenOk t = true) (hk : keyOk s = true) (hn0 : 1 ≤ n) (hn1 : n ≤ 4)
    (lc : bc < w.heap.size) (ln : bn < w.heap.size) (ls : bs < w.heap.size) (cc : w.cell? ⟨bc, 1, none⟩ = some (.int .i64 t)) (cn : w.cell? ⟨bn, 0, none⟩ = some (.int .i64 n)) (cs : w.cell? ⟨bs, 0, none⟩ = some (.int .i64 sh)) :
    Calls Try.prog 80 #[.string s, .pointer (some ⟨bc, 0, none⟩), .pointer (some ⟨bn, 0, none⟩), .pointer (some ⟨bs, 0, none⟩)] w fun e w' => e = .returned (.bool ((shardOf t s n).1 == sh)) ∧ ∃ q os', w' = grow (w.drewN q) os' := by
  have mixed : Try.prog.follows .mixedOrders = true := by kernel_rfl
  have HS := Hid.mk2 (fun W => home_g t s n W ht hk hn0 hn1)
  obtain ⟨S, hS⟩ : ∃ S, S = (shardOf t s n).1 := ⟨_, rfl⟩
  rw [← hS] at HS ⊢
  clear hS ht hk hn0 hn1
  have d0 : ∀ n os, (grow (w.drewN n) os).cell? ⟨bc, 1, none⟩ = _ := cell_grown lc cc
  have d1 : ∀ n os, (grow (w.drewN n) os).cell? ⟨bn, 0, none⟩ = _ := cell_grown ln cn
  have d2 : ∀ n os, (grow (w.drewN n) os).cell? ⟨bs, 0, none⟩ = _ := cell_grown ls cs
  clear cc cn cs
  go_enter Try.func80, Try.ntmps80
  go_upto_region 1 with (fail)
  go_quiet_grown ((go_at_call 59; exact Calls.grown_of (HS.out _)))
  go_wp2
  go_ret
  exact ⟨rfl, _, _, rfl⟩
theorem part1_g (t : Int) (s : ByteArray) (n sh : Int) (bc bn bs : Nat) (w : World) (ht : tenOk t = true) (hk : keyOk s = true) (hn0 : 1 ≤ n) (hn1 : n ≤ 4)
    (lc : bc < w.heap.size) (ln : bn < w.heap.size) (ls : bs < w.heap.size) (cc : w.cell? ⟨bc, 1, none⟩ = some (.int .i64 t)) (cn : w.cell? ⟨bn, 0, none⟩ = some (.int .i64 n)) (cs : w.cell? ⟨bs, 0, none⟩ = some (.int .i64 sh)) :
    Calls Try.prog 58 #[.string s, .pointer (some ⟨bc, 0, none⟩), .pointer (some ⟨bn, 0, none⟩), .pointer (some ⟨bs, 0, none⟩)] w fun e w' => e = .returned (.bool ((shardOf t s n).1 != sh)) ∧ ∃ q os', w' = grow (w.drewN q) os' := by
  have mixed : Try.prog.follows .mixedOrders = true := by kernel_rfl
  have HS := Hid.mk2 (fun W => home_g t s n W ht hk hn0 hn1)
  obtain ⟨S, hS⟩ : ∃ S, S = (shardOf t s n).1 := ⟨_, rfl⟩
  rw [← hS] at HS ⊢
  clear hS ht hk hn0 hn1
  have d0 : ∀ n os, (grow (w.drewN n) os).cell? ⟨bc, 1, none⟩ = _ := cell_grown lc cc
  have d1 : ∀ n os, (grow (w.drewN n) os).cell? ⟨bn, 0, none⟩ = _ := cell_grown ln cn
  have d2 : ∀ n os, (grow (w.drewN n) os).cell? ⟨bs, 0, none⟩ = _ := cell_grown ls cs
  clear cc cn cs
  go_enter Try.func58, Try.ntmps58
  go_upto_region 1 with (fail)
  go_quiet_grown ((go_at_call 59; exact Calls.grown_of (HS.out _)))
  go_wp2
  go_ret
  exact ⟨rfl, _, _, rfl⟩
end Go.Proofs.Ytpnmokmadbapoaa
