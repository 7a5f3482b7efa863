/-
  (shaken)
-/
import Derived.Test.YtjmcgpdimhgegaaOrRefM
namespace Go.Proofs.Ytjmcgpdimhgegaa
open Go.RowKit
set_option linter.unusedSimpArgs false
set_option linter.unusedVariables false
set_option maxRecDepth 100000

def manyN (n : Nat) : Nat := if n = 0 then 1 else if n = 1 then 2 else 4
def mayN (kind : Int) : Nat :=
  if kind = 1 ∨ kind = 10 then 6 else if kind = 2 ∨ kind = 3 ∨ kind = 4 then 58 else if kind = 5 then 122 else if kind = 6 ∨ kind = 7 then 130 else if kind = 8 then 10 else if kind = 9 then 34 else if kind = 11 then 1 else 0
def orIf (b : Bool) (x m : Nat) : Nat := if b = true then x ||| m else x
theorem orIf_t (x m : Nat) : orIf true x m = x ||| m := rfl
theorem orIf_lt {b : Bool} {x m : Nat} (hx : x < 256) (hm : m < 256) : orIf b x m < 256 := by
  unfold orIf
  split
  · exact Nat.or_lt_two_pow (n := 8) hx hm
  · exact hx
def Cm.hasN (c : Cm) : Nat := orIf (!decide (c.by_ = 0)) (orIf (!decide (c.unique = 0)) (orIf (!decide (c.life = 0)) (orIf (!decide (c.flags = 0)) (orIf (!decide (c.value.size = 0)) (manyN c.keys.length) 8) 16) 32) 64) 128

theorem bor_all : ∀ x : Fin 256, bits BinOp.or IntKind.u64 ((x.val : Nat) : Int) 8 = ((x.val ||| 8 : Nat) : Int) ∧ bits BinOp.or IntKind.u64 ((x.val : Nat) : Int) 16 = ((x.val ||| 16 : Nat) : Int) ∧ bits BinOp.or IntKind.u64 ((x.val : Nat) : Int) 32 = ((x.val ||| 32 : Nat) : Int) ∧ bits BinOp.or IntKind.u64 ((x.val : Nat) : Int) 64 = ((x.val ||| 64 : Nat) : Int) ∧ bits BinOp.or IntKind.u64 ((x.val : Nat) : Int) 128 = ((x.val ||| 128 : Nat) : Int) := by decide +kernel
theorem bor8 {x : Nat} (h : x < 256) : bits BinOp.or IntKind.u64 (x : Int) 8 = ((x ||| 8 : Nat) : Int) := (bor_all ⟨x, h⟩).1
theorem bor16 {x : Nat} (h : x < 256) : bits BinOp.or IntKind.u64 (x : Int) 16 = ((x ||| 16 : Nat) : Int) := (bor_all ⟨x, h⟩).2.1
theorem bor32 {x : Nat} (h : x < 256) : bits BinOp.or IntKind.u64 (x : Int) 32 = ((x ||| 32 : Nat) : Int) := (bor_all ⟨x, h⟩).2.2.1
theorem bor64 {x : Nat} (h : x < 256) : bits BinOp.or IntKind.u64 (x : Int) 64 = ((x ||| 64 : Nat) : Int) := (bor_all ⟨x, h⟩).2.2.2.1
theorem bor128 {x : Nat} (h : x < 256) : bits BinOp.or IntKind.u64 (x : Int) 128 = ((x ||| 128 : Nat) : Int) := (bor_all ⟨x, h⟩).2.2.2.2
theorem manyKeys_any (n : Nat) (w : World) : Calls Try.prog 44 #[.int .i64 n] w fun e w' => e = .returned (.int .u64 (manyN n : Nat)) ∧ w' = w := by
  by_cases h0 : n = 0
  · subst h0
    go_enter Try.func44, Try.ntmps44
    go_wp2
    go_ret
    exact ⟨rfl, rfl⟩
  by_cases h1 : n = 1
  · subst h1
    go_enter Try.func44, Try.ntmps44
    go_wp2
    go_ret
    exact ⟨rfl, rfl⟩
  have e : manyN n = 4 := by unfold manyN; rw [if_neg h0, if_neg h1]
  rw [e]
  have a0 : ((n : Int) == 0) = false := beq_eq_false_iff_ne.2 (by omega)
  have a1 : ((n : Int) == 1) = false := beq_eq_false_iff_ne.2 (by omega)
  clear e
  go_enter Try.func44, Try.ntmps44
  go_wp2
  go_ret
  exact ⟨rfl, rfl⟩
theorem mayHave_any (kind : Int) (w : World) : Calls Try.prog 38 #[.int .u8 kind] w fun e w' => e = .returned (.int .u64 (mayN kind : Nat)) ∧ w' = w := by
  by_cases h1 : kind = 1
  · subst h1
    go_enter Try.func38, Try.ntmps38
    go_wp2
    go_ret
    exact ⟨rfl, rfl⟩
  by_cases h2 : kind = 2
  · subst h2
    go_enter Try.func38, Try.ntmps38
    go_wp2
    go_ret
    exact ⟨rfl, rfl⟩
  by_cases h3 : kind = 3
  · subst h3
    go_enter Try.func38, Try.ntmps38
    go_wp2
    go_ret
    exact ⟨rfl, rfl⟩
  by_cases h4 : kind = 4
  · subst h4
    go_enter Try.func38, Try.ntmps38
    go_wp2
    go_ret
    exact ⟨rfl, rfl⟩
  by_cases h5 : kind = 5
  · subst h5
    go_enter Try.func38, Try.ntmps38
    go_wp2
    go_ret
    exact ⟨rfl, rfl⟩
  by_cases h6 : kind = 6
  · subst h6
    go_enter Try.func38, Try.ntmps38
    go_wp2
    go_ret
    exact ⟨rfl, rfl⟩
  by_cases h7 : kind = 7
  · subst h7
    go_enter Try.func38, Try.ntmps38
    go_wp2
    go_ret
    exact ⟨rfl, rfl⟩
  by_cases h8 : kind = 8
  · subst h8
    go_enter Try.func38, Try.ntmps38
    go_wp2
    go_ret
    exact ⟨rfl, rfl⟩
  by_cases h9 : kind = 9
  · subst h9
    go_enter Try.func38, Try.ntmps38
    go_wp2
    go_ret
    exact ⟨rfl, rfl⟩
  by_cases h10 : kind = 10
  · subst h10
    go_enter Try.func38, Try.ntmps38
    go_wp2
    go_ret
    exact ⟨rfl, rfl⟩
  by_cases h11 : kind = 11
  · subst h11
    go_enter Try.func38, Try.ntmps38
    go_wp2
    go_ret
    exact ⟨rfl, rfl⟩
  have e : mayN kind = 0 := by unfold mayN; simp [h1, h2, h3, h4, h5, h6, h7, h8, h9, h10, h11]
  rw [e]
  have a1 : (kind == 1) = false := beq_eq_false_iff_ne.2 h1
  have a2 : (kind == 2) = false := beq_eq_false_iff_ne.2 h2
  have a3 : (kind == 3) = false := beq_eq_false_iff_ne.2 h3
  have a4 : (kind == 4) = false := beq_eq_false_iff_ne.2 h4
  have a5 : (kind == 5) = false := beq_eq_false_iff_ne.2 h5
  have a6 : (kind == 6) = false := beq_eq_false_iff_ne.2 h6
  have a7 : (kind == 7) = false := beq_eq_false_iff_ne.2 h7
  have a8 : (kind == 8) = false := beq_eq_false_iff_ne.2 h8
  have a9 : (kind == 9) = false := beq_eq_false_iff_ne.2 h9
  have a10 : (kind == 10) = false := beq_eq_false_iff_ne.2 h10
  have a11 : (kind == 11) = false := beq_eq_false_iff_ne.2 h11
  clear e h1 h2 h3 h4 h5 h6 h7 h8 h9 h10 h11
  go_enter Try.func38, Try.ntmps38
  go_wp2
  go_ret
  exact ⟨rfl, rfl⟩

set_option maxHeartbeats 1000000 in
theorem has_any (c : Cm) (ko : Option Addr) (kc : Nat) (w : World) :
    Calls Try.prog 37 #[.agg (c.arr (.slice ko c.keys.length kc))] w fun e w' => e = .returned (.int .u64 (c.hasN : Nat)) ∧ w' = w.alloc (.cells (c.arr (.slice ko c.keys.length kc)) 26) := by
  have HM := Hid.mk2 (Cm.At.made c (.slice ko c.keys.length kc) w)
  have HMK := Hid.mk2 (fun W => manyKeys_any c.keys.length W)
  obtain ⟨X0, hX0⟩ : ∃ X0, X0 = manyN c.keys.length := ⟨_, rfl⟩
  have hx0 : X0 < 256 := by rw [hX0]; unfold manyN; split <;> first | decide | (split <;> decide)
  obtain ⟨B0, hB0⟩ : ∃ B : Bool, B = !decide (c.value.size = 0) := ⟨_, rfl⟩
  obtain ⟨X1, hX1⟩ : ∃ X, X = orIf B0 X0 8 := ⟨_, rfl⟩
  have hx1 : X1 < 256 := by rw [hX1]; exact orIf_lt hx0 (by decide)
  obtain ⟨B1, hB1⟩ : ∃ B : Bool, B = !decide (c.flags = 0) := ⟨_, rfl⟩
  obtain ⟨X2, hX2⟩ : ∃ X, X = orIf B1 X1 16 := ⟨_, rfl⟩
  have hx2 : X2 < 256 := by rw [hX2]; exact orIf_lt hx1 (by decide)
  obtain ⟨B2, hB2⟩ : ∃ B : Bool, B = !decide (c.life = 0) := ⟨_, rfl⟩
  obtain ⟨X3, hX3⟩ : ∃ X, X = orIf B2 X2 32 := ⟨_, rfl⟩
  have hx3 : X3 < 256 := by rw [hX3]; exact orIf_lt hx2 (by decide)
  obtain ⟨B3, hB3⟩ : ∃ B : Bool, B = !decide (c.unique = 0) := ⟨_, rfl⟩
  obtain ⟨X4, hX4⟩ : ∃ X, X = orIf B3 X3 64 := ⟨_, rfl⟩
  have hx4 : X4 < 256 := by rw [hX4]; exact orIf_lt hx3 (by decide)
  obtain ⟨B4, hB4⟩ : ∃ B : Bool, B = !decide (c.by_ = 0) := ⟨_, rfl⟩
  obtain ⟨X5, hX5⟩ : ∃ X, X = orIf B4 X4 128 := ⟨_, rfl⟩
  have hx5 : X5 < 256 := by rw [hX5]; exact orIf_lt hx4 (by decide)
  have e : c.hasN = X5 := by rw [hX5, hX4, hX3, hX2, hX1, hX0, hB4, hB3, hB2, hB1, hB0]; rfl
  rw [e]
  rw [← hX0] at HMK
  have HX1 := Hid.mk2 hX1
  have HB0 := Hid.mk2 hB0
  have HX2 := Hid.mk2 hX2
  have HB1 := Hid.mk2 hB1
  have HX3 := Hid.mk2 hX3
  have HB2 := Hid.mk2 hB2
  have HX4 := Hid.mk2 hX4
  have HB3 := Hid.mk2 hB3
  have HX5 := Hid.mk2 hX5
  have HB4 := Hid.mk2 hB4
  clear e hX0 hX1 hX2 hX3 hX4 hX5 hB0 hB1 hB2 hB3 hB4
  obtain ⟨kind, tenant, keys, value, flags, life, unique, by_⟩ := c
  unfold Cm.arr at *
  dsimp only at *
  obtain ⟨W, hW⟩ : ∃ W, W = w.alloc (.cells #[.int .u8 kind, .int .i64 tenant, .slice ko keys.length kc, .string value, .int .u32 flags, .int .i64 life, .int .u64 unique, .int .u64 by_] 26) := ⟨_, rfl⟩
  rw [← hW] at HM ⊢
  obtain ⟨hlt, c0, c1, c2, c3, c4, c5, c6, c7⟩ := HM.out
  dsimp only at c0 c1 c2 c3 c4 c5 c6 c7
  have b0 : value.toList.isEmpty = !B0 := by
    rw [HB0.out, Bool.not_not]
    by_cases e : value.size = 0
    · rw [ba_empty e]; simp [e]
    · rw [ba_full e]; simp [e]
  have b1 : (flags != 0) = B1 := by rw [HB1.out]; by_cases e : flags = 0 <;> simp [e]
  have b2 : (life != 0) = B2 := by rw [HB2.out]; by_cases e : life = 0 <;> simp [e]
  have b3 : (unique != 0) = B3 := by rw [HB3.out]; by_cases e : unique = 0 <;> simp [e]
  have b4 : (by_ != 0) = B4 := by rw [HB4.out]; by_cases e : by_ = 0 <;> simp [e]
  clear HB0 HB1 HB2 HB3 HB4
  go_enter Try.func37, Try.ntmps37
  go_upto_region 1 with (fail)
  rw [← hW]
  clear hW
  go_upto_if 10 with (go_at_call 44; refine (HMK.out _).mono ?_; rintro e w1 ⟨rfl, hw1⟩; have hw1 := hw1.symm; subst hw1)
  go_cut [3] from 4 (fun s3 wx => s3 = .int .u64 (X1 : Nat) ∧ wx = W)
  case first =>
    cases B0
    · go_wp2
      go_meet
      case rel => exact ⟨by rw [HX1.out]; rfl, rfl⟩
    · go_wp2
      go_meet
      case rel => exact ⟨by rw [HX1.out, orIf_t, ← bor8 hx0], rfl⟩
  case rest =>
  obtain ⟨rfl, hwc⟩ := hcut
  have hwc := hwc.symm
  subst hwc
  go_upto_if 15 with (fail)
  go_cut [3] from 4 (fun s3 wx => s3 = .int .u64 (X2 : Nat) ∧ wx = W)
  case first =>
    cases B1
    · go_wp2
      go_meet
      case rel => exact ⟨by rw [HX2.out]; rfl, rfl⟩
    · go_wp2
      go_meet
      case rel => exact ⟨by rw [HX2.out, orIf_t, ← bor16 hx1], rfl⟩
  case rest =>
  obtain ⟨rfl, hwc⟩ := hcut
  have hwc := hwc.symm
  subst hwc
  go_upto_if 20 with (fail)
  go_cut [3] from 4 (fun s3 wx => s3 = .int .u64 (X3 : Nat) ∧ wx = W)
  case first =>
    cases B2
    · go_wp2
      go_meet
      case rel => exact ⟨by rw [HX3.out]; rfl, rfl⟩
    · go_wp2
      go_meet
      case rel => exact ⟨by rw [HX3.out, orIf_t, ← bor32 hx2], rfl⟩
  case rest =>
  obtain ⟨rfl, hwc⟩ := hcut
  have hwc := hwc.symm
  subst hwc
  go_upto_if 25 with (fail)
  go_cut [3] from 4 (fun s3 wx => s3 = .int .u64 (X4 : Nat) ∧ wx = W)
  case first =>
    cases B3
    · go_wp2
      go_meet
      case rel => exact ⟨by rw [HX4.out]; rfl, rfl⟩
    · go_wp2
      go_meet
      case rel => exact ⟨by rw [HX4.out, orIf_t, ← bor64 hx3], rfl⟩
  case rest =>
  obtain ⟨rfl, hwc⟩ := hcut
  have hwc := hwc.symm
  subst hwc
  go_upto_if 30 with (fail)
  go_cut [3] from 4 (fun s3 wx => s3 = .int .u64 (X5 : Nat) ∧ wx = W)
  case first =>
    cases B4
    · go_wp2
      go_meet
      case rel => exact ⟨by rw [HX5.out]; rfl, rfl⟩
    · go_wp2
      go_meet
      case rel => exact ⟨by rw [HX5.out, orIf_t, ← bor128 hx4], rfl⟩
  case rest =>
  obtain ⟨rfl, hwc⟩ := hcut
  have hwc := hwc.symm
  subst hwc
  go_wp2
  go_ret
  exact ⟨rfl, rfl⟩
end Go.Proofs.Ytjmcgpdimhgegaa
