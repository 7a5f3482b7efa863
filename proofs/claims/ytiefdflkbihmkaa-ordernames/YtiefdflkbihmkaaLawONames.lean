/-
  OrderNames: the limits' numbers, and the chapter's examples. No conditions.
-/
import Derived.Test.YtiefdflkbihmkaaOrNa
import Derived.Test.YtiefdflkbihmkaaOrMb
import Derived.Test.YtiefdflkbihmkaaOrAlive
namespace Go.Proofs.Ytiefdflkbihmkaa
open Go.RowKit
set_option linter.unusedSimpArgs false
set_option linter.unusedVariables false
set_option maxRecDepth 100000

def delC : Cm := ⟨10, 0, [⟨#[121]⟩, ⟨#[122]⟩], ⟨#[]⟩, 0, 0, 0, 0⟩
theorem delC_ok : delC.shE 2 = 0 ∧ delC.shL 2 = [0, 1] ∧ delC.shE 5 = 2 := by decide +kernel
theorem getA_ok : (getC ⟨#[97]⟩).shE 1 = 0 ∧ (getC ⟨#[97]⟩).shL 1 = [0] := by decide +kernel
theorem sum_ok : sumR [⟨1, none, 0, [], 1⟩, ⟨2, none, 0, [], 0⟩] = 1 ∧ sumR [⟨2, none, 0, [], 0⟩, ⟨2, none, 0, [], 0⟩] = 0 ∧ List.any [(⟨1, none, 0, [], 1⟩ : Rr), ⟨2, none, 0, [], 0⟩] Rr.ref = false ∧ List.any [(⟨2, none, 0, [], 0⟩ : Rr), ⟨2, none, 0, [], 0⟩] Rr.ref = false := by decide +kernel
/-- two results without items in a new block of their own -/
theorem g_litR (w : World) (k1 n1 k2 n2 : Int) : GRd ER (w.alloc (.cells #[.int .u8 k1, .slice none 0 0, .int .u64 n1, .int .u8 k2, .slice none 0 0, .int .u64 n2] 36)) (some ⟨w.heap.size, 0, none⟩) [⟨k1, none, 0, [], n1⟩, ⟨k2, none, 0, [], n2⟩] 2 := by
  refine ⟨by simp, by simp, (by intro e; cases e), .inr ⟨w.heap.size, 0, rfl, by simp, fun i hi j hj => ?_⟩⟩
  have hj3 : j < 3 := hj
  have hi2 : i < 2 := by simpa using hi
  rcases (show i = 0 ∨ i = 1 by omega) with rfl | rfl <;> rcases (show j = 0 ∨ j = 1 ∨ j = 2 by omega) with rfl | rfl | rfl <;> simp [ER]

set_option maxHeartbeats 2000000 in
theorem orderNames_any (w : World) : Calls Try.prog 3 #[] w fun e w' => e = .returned (.bool true) ∧ Below w.heap.size w w' := by
  have HD1 : Hid (∀ (W : World) (ao : Option Addr) (cp : Nat), GRd ES W ao [⟨#[97]⟩, ⟨#[97]⟩] cp → Calls Try.prog 7 #[.agg #[.int .u8 1, .int .i64 0, .slice ao 2 cp, .string ⟨#[]⟩, .int .u32 0, .int .i64 0, .int .u64 0, .int .u64 0]] W fun e w' => e = .returned (.bool true) ∧ Below W.heap.size W w') := by
    intro W ao cp hg
    have := bad_any ⟨1, 0, [⟨#[97]⟩, ⟨#[97]⟩], ⟨#[]⟩, 0, 0, 0, 0⟩ ao cp W hg
    rw [show Cm.chkE ⟨1, 0, [⟨#[97]⟩, ⟨#[97]⟩], ⟨#[]⟩, 0, 0, 0, 0⟩ = 100 by decide +kernel] at this
    exact this
  have HD2 : Hid (∀ (W : World) (ao : Option Addr) (cp : Nat), GRd ES W ao [⟨#[97]⟩, ⟨#[98]⟩, ⟨#[99]⟩, ⟨#[100]⟩, ⟨#[101]⟩, ⟨#[102]⟩, ⟨#[103]⟩, ⟨#[104]⟩, ⟨#[105]⟩] cp → Calls Try.prog 7 #[.agg #[.int .u8 1, .int .i64 0, .slice ao 9 cp, .string ⟨#[]⟩, .int .u32 0, .int .i64 0, .int .u64 0, .int .u64 0]] W fun e w' => e = .returned (.bool true) ∧ Below W.heap.size W w') := by
    intro W ao cp hg
    have := bad_any ⟨1, 0, [⟨#[97]⟩, ⟨#[98]⟩, ⟨#[99]⟩, ⟨#[100]⟩, ⟨#[101]⟩, ⟨#[102]⟩, ⟨#[103]⟩, ⟨#[104]⟩, ⟨#[105]⟩], ⟨#[]⟩, 0, 0, 0, 0⟩ ao cp W hg
    rw [show Cm.chkE ⟨1, 0, [⟨#[97]⟩, ⟨#[98]⟩, ⟨#[99]⟩, ⟨#[100]⟩, ⟨#[101]⟩, ⟨#[102]⟩, ⟨#[103]⟩, ⟨#[104]⟩, ⟨#[105]⟩], ⟨#[]⟩, 0, 0, 0, 0⟩ = 100 by decide +kernel] at this
    exact this
  have HD3 : Hid (∀ (W : World) (ao : Option Addr) (cp : Nat), GRd ES W ao [⟨#[97]⟩] cp → Calls Try.prog 7 #[.agg #[.int .u8 11, .int .i64 0, .slice ao 1 cp, .string ⟨#[]⟩, .int .u32 0, .int .i64 0, .int .u64 0, .int .u64 0]] W fun e w' => e = .returned (.bool true) ∧ Below W.heap.size W w') := by
    intro W ao cp hg
    have := bad_any ⟨11, 0, [⟨#[97]⟩], ⟨#[]⟩, 0, 0, 0, 0⟩ ao cp W hg
    rw [show Cm.chkE ⟨11, 0, [⟨#[97]⟩], ⟨#[]⟩, 0, 0, 0, 0⟩ = 100 by decide +kernel] at this
    exact this
  have HD4 : Hid (∀ (W : World) (ao : Option Addr) (cp : Nat), GRd ES W ao [] cp → Calls Try.prog 7 #[.agg #[.int .u8 12, .int .i64 0, .slice ao 0 cp, .string ⟨#[]⟩, .int .u32 0, .int .i64 0, .int .u64 0, .int .u64 0]] W fun e w' => e = .returned (.bool true) ∧ Below W.heap.size W w') := by
    intro W ao cp hg
    have := bad_any ⟨12, 0, [], ⟨#[]⟩, 0, 0, 0, 0⟩ ao cp W hg
    rw [show Cm.chkE ⟨12, 0, [], ⟨#[]⟩, 0, 0, 0, 0⟩ = 100 by decide +kernel] at this
    exact this
  have HD5 : Hid (∀ (W : World) (ao : Option Addr) (cp : Nat), GRd ES W ao [⟨#[97]⟩] cp → Calls Try.prog 7 #[.agg #[.int .u8 1, .int .i64 4, .slice ao 1 cp, .string ⟨#[]⟩, .int .u32 0, .int .i64 0, .int .u64 0, .int .u64 0]] W fun e w' => e = .returned (.bool true) ∧ Below W.heap.size W w') := by
    intro W ao cp hg
    have := bad_any ⟨1, 4, [⟨#[97]⟩], ⟨#[]⟩, 0, 0, 0, 0⟩ ao cp W hg
    rw [show Cm.chkE ⟨1, 4, [⟨#[97]⟩], ⟨#[]⟩, 0, 0, 0, 0⟩ = 100 by decide +kernel] at this
    exact this
  have HD6 : Hid (∀ (W : World) (ao : Option Addr) (cp : Nat), GRd ES W ao [⟨#[97]⟩] cp → Calls Try.prog 7 #[.agg #[.int .u8 1, .int .i64 0, .slice ao 1 cp, .string ⟨#[]⟩, .int .u32 0, .int .i64 0, .int .u64 0, .int .u64 1]] W fun e w' => e = .returned (.bool true) ∧ Below W.heap.size W w') := by
    intro W ao cp hg
    have := bad_any ⟨1, 0, [⟨#[97]⟩], ⟨#[]⟩, 0, 0, 0, 1⟩ ao cp W hg
    rw [show Cm.chkE ⟨1, 0, [⟨#[97]⟩], ⟨#[]⟩, 0, 0, 0, 1⟩ = 100 by decide +kernel] at this
    exact this
  have HD7 : Hid (∀ (W : World) (ao : Option Addr) (cp : Nat), GRd ES W ao [⟨#[97]⟩] cp → Calls Try.prog 7 #[.agg #[.int .u8 9, .int .i64 0, .slice ao 1 cp, .string ⟨#[]⟩, .int .u32 1, .int .i64 0, .int .u64 0, .int .u64 0]] W fun e w' => e = .returned (.bool true) ∧ Below W.heap.size W w') := by
    intro W ao cp hg
    have := bad_any ⟨9, 0, [⟨#[97]⟩], ⟨#[]⟩, 1, 0, 0, 0⟩ ao cp W hg
    rw [show Cm.chkE ⟨9, 0, [⟨#[97]⟩], ⟨#[]⟩, 1, 0, 0, 0⟩ = 100 by decide +kernel] at this
    exact this
  have HD8 : Hid (∀ (W : World) (ao : Option Addr) (cp : Nat), GRd ES W ao [⟨#[97]⟩] cp → Calls Try.prog 7 #[.agg #[.int .u8 8, .int .i64 0, .slice ao 1 cp, .string ⟨#[]⟩, .int .u32 0, .int .i64 1, .int .u64 0, .int .u64 0]] W fun e w' => e = .returned (.bool true) ∧ Below W.heap.size W w') := by
    intro W ao cp hg
    have := bad_any ⟨8, 0, [⟨#[97]⟩], ⟨#[]⟩, 0, 1, 0, 0⟩ ao cp W hg
    rw [show Cm.chkE ⟨8, 0, [⟨#[97]⟩], ⟨#[]⟩, 0, 1, 0, 0⟩ = 100 by decide +kernel] at this
    exact this
  have HS1 : Hid (∀ (W : World) (ao : Option Addr) (cp : Nat), GRd ES W ao [⟨#[97]⟩] cp → Calls Try.prog 8 #[.agg ((getC ⟨#[97]⟩).arr (.slice ao 1 cp)), .int .i64 1] W fun e w' => ∃ v, e = .returned (.tuple #[v, .int .i64 0]) ∧ GOwn EI w' W.heap.size v [0] ∧ Below W.heap.size W w') := by
    intro W ao cp hg
    have := pshards_any (getC ⟨#[97]⟩) ao cp 1 W hg
    rw [getA_ok.1, getA_ok.2] at this
    exact this
  have HS5 : Hid (∀ (W : World) (ao : Option Addr) (cp : Nat), GRd ES W ao [⟨#[121]⟩, ⟨#[122]⟩] cp → Calls Try.prog 8 #[.agg #[.int .u8 10, .int .i64 0, .slice ao 2 cp, .string ⟨#[]⟩, .int .u32 0, .int .i64 0, .int .u64 0, .int .u64 0], .int .i64 5] W fun e w' => ∃ v, e = .returned (.tuple #[v, .int .i64 2]) ∧ Below W.heap.size W w') := by
    intro W ao cp hg
    have := pshards_any delC ao cp 5 W hg
    rw [delC_ok.2.2] at this
    refine this.mono ?_
    rintro e w' ⟨v, rfl, _, hb⟩
    exact ⟨v, rfl, hb⟩
  have HM1 : Hid (∀ (W : World) (ao : Option Addr) (cp : Nat) (lo : Option Addr) (lc : Nat), GRd ES W ao [⟨#[121]⟩, ⟨#[122]⟩] cp → GRd ER W lo [⟨1, none, 0, [], 1⟩, ⟨2, none, 0, [], 0⟩] lc → Calls Try.prog 10 #[.agg #[.int .u8 10, .int .i64 0, .slice ao 2 cp, .string ⟨#[]⟩, .int .u32 0, .int .i64 0, .int .u64 0, .int .u64 0], .int .i64 2, .slice lo 2 lc] W fun e w' => e = .returned (.tuple #[.agg #[.int .u8 1, .slice none 0 0, .int .u64 1], .int .i64 0]) ∧ Below W.heap.size W w') := by
    intro W ao cp lo lc hg hr
    have := pmerge_del delC ao cp 2 _ lo lc W hg hr delC_ok.1 (by rw [delC_ok.2.1]; rfl) (by simp) rfl sum_ok.2.2.1
    rw [sum_ok.1, if_neg (by decide)] at this
    exact this
  have HM2 : Hid (∀ (W : World) (ao : Option Addr) (cp : Nat) (lo : Option Addr) (lc : Nat), GRd ES W ao [⟨#[121]⟩, ⟨#[122]⟩] cp → GRd ER W lo [⟨2, none, 0, [], 0⟩, ⟨2, none, 0, [], 0⟩] lc → Calls Try.prog 10 #[.agg #[.int .u8 10, .int .i64 0, .slice ao 2 cp, .string ⟨#[]⟩, .int .u32 0, .int .i64 0, .int .u64 0, .int .u64 0], .int .i64 2, .slice lo 2 lc] W fun e w' => e = .returned (.tuple #[.agg #[.int .u8 2, .slice none 0 0, .int .u64 0], .int .i64 0]) ∧ Below W.heap.size W w') := by
    intro W ao cp lo lc hg hr
    have := pmerge_del delC ao cp 2 _ lo lc W hg hr delC_ok.1 (by rw [delC_ok.2.1]; rfl) (by simp) rfl sum_ok.2.2.2
    rw [sum_ok.2.1, if_pos rfl] at this
    exact this
  have HM3 : Hid (∀ (W : World) (ao : Option Addr) (cp : Nat), GRd ES W ao [⟨#[121]⟩, ⟨#[122]⟩] cp → Calls Try.prog 10 #[.agg #[.int .u8 10, .int .i64 0, .slice ao 2 cp, .string ⟨#[]⟩, .int .u32 0, .int .i64 0, .int .u64 0, .int .u64 0], .int .i64 2, .slice none 0 0] W fun e w' => e = .returned (.tuple #[.agg #[.int .u8 0, .slice none 0 0, .int .u64 0], .int .i64 4]) ∧ Below W.heap.size W w') := by
    intro W ao cp hg
    exact pmerge_many delC ao cp 2 [] none 0 W hg (GRd.nil _) delC_ok.1 (by rw [delC_ok.2.1]; simp)
  have HAP := Hid.mk2 apart_any
  have HAL := Hid.mk2 alive10_any
  have HB := Hid.mk2 (Below.refl w.heap.size w)
  unfold getC Cm.arr at HS1
  dsimp only at HS1
  go_enter Try.func3, Try.ntmps3
  go_upto_region 3 with (first
    | (go_at_call 7; have hq := MK7; clear hq; refine (HD8.out _ _ _ (g_lit wb7 [⟨#[97]⟩] 1 rfl (by simp) (by simp))).mono ?_; rintro e wb8 ⟨rfl, hb9⟩; have HB9 := Hid.mk2 (g_on HB.out (g_behind hb9)); clear HB hb9; have HB := HB9; clear HB9; have MK8 := Hid.mk2 True.intro)
    | (go_at_call 7; have hq := MK6; clear hq; refine (HD7.out _ _ _ (g_lit wb6 [⟨#[97]⟩] 1 rfl (by simp) (by simp))).mono ?_; rintro e wb7 ⟨rfl, hb9⟩; have HB9 := Hid.mk2 (g_on HB.out (g_behind hb9)); clear HB hb9; have HB := HB9; clear HB9; have MK7 := Hid.mk2 True.intro)
    | (go_at_call 7; have hq := MK5; clear hq; refine (HD6.out _ _ _ (g_lit wb5 [⟨#[97]⟩] 1 rfl (by simp) (by simp))).mono ?_; rintro e wb6 ⟨rfl, hb9⟩; have HB9 := Hid.mk2 (g_on HB.out (g_behind hb9)); clear HB hb9; have HB := HB9; clear HB9; have MK6 := Hid.mk2 True.intro)
    | (go_at_call 7; have hq := MK4; clear hq; refine (HD5.out _ _ _ (g_lit wb4 [⟨#[97]⟩] 1 rfl (by simp) (by simp))).mono ?_; rintro e wb5 ⟨rfl, hb9⟩; have HB9 := Hid.mk2 (g_on HB.out (g_behind hb9)); clear HB hb9; have HB := HB9; clear HB9; have MK5 := Hid.mk2 True.intro)
    | (go_at_call 7; have hq := MK3; clear hq; refine (HD4.out _ _ _ (GRd.nil _)).mono ?_; rintro e wb4 ⟨rfl, hb9⟩; have HB9 := Hid.mk2 (g_on HB.out hb9); clear HB hb9; have HB := HB9; clear HB9; have MK4 := Hid.mk2 True.intro)
    | (go_at_call 7; have hq := MK2; clear hq; refine (HD3.out _ _ _ (g_lit wb2 [⟨#[97]⟩] 1 rfl (by simp) (by simp))).mono ?_; rintro e wb3 ⟨rfl, hb9⟩; have HB9 := Hid.mk2 (g_on HB.out (g_behind hb9)); clear HB hb9; have HB := HB9; clear HB9; have MK3 := Hid.mk2 True.intro)
    | (go_at_call 7; have hq := MK1; clear hq; refine (HD2.out _ _ _ (g_lit wb1 [⟨#[97]⟩, ⟨#[98]⟩, ⟨#[99]⟩, ⟨#[100]⟩, ⟨#[101]⟩, ⟨#[102]⟩, ⟨#[103]⟩, ⟨#[104]⟩, ⟨#[105]⟩] 9 rfl (by simp) (by simp))).mono ?_; rintro e wb2 ⟨rfl, hb9⟩; have HB9 := Hid.mk2 (g_on HB.out (g_behind hb9)); clear HB hb9; have HB := HB9; clear HB9; have MK2 := Hid.mk2 True.intro)
    | (go_at_call 7; refine (HD1.out _ _ _ (g_lit w [⟨#[97]⟩, ⟨#[97]⟩] 2 rfl (by simp) (by simp))).mono ?_; rintro e wb1 ⟨rfl, hb9⟩; have HB9 := Hid.mk2 (g_on HB.out (g_behind hb9)); clear HB hb9; have HB := HB9; clear HB9; have MK1 := Hid.mk2 True.intro))
  clear MK1 MK2 MK3 MK4 MK5 MK6 MK7 MK8 HD1 HD2 HD3 HD4 HD5 HD6 HD7 HD8
  obtain ⟨w1, hw1⟩ : ∃ w1, w1 = wb8 := ⟨_, rfl⟩
  rw [← hw1] at HB ⊢
  clear hw1
  go_cut [3, 4] from 16 (fun s3 s4 wx => ∃ (la : Option Addr) (lc : Nat), s3 = .slice la 1 lc ∧ s4 = .int .i64 0 ∧ Hid (Below w1.heap.size w1 wx) ∧ Hid (GRd EI wx la [0] lc))
  case first =>
    go_wp2_with (go_at_call 8; refine (HS1.out _ _ _ (g_lit w1 [⟨#[97]⟩] 1 rfl (by simp) (by simp))).mono ?_; rintro e w9 ⟨v9, rfl, hO9, hb9⟩; obtain ⟨la, lc, hv9, hr9⟩ := hO9.rd okI; subst hv9; have HR9 := Hid.mk2 hr9; have HQ9 := Hid.mk2 (g_behind hb9); clear hO9 hb9 hr9)
    go_meet
    case rel => exact ⟨la, lc, rfl, rfl, HQ9, HR9⟩
  case rest =>
  obtain ⟨la, lc, rfl, rfl, HBC, HLR⟩ := hcut
  obtain ⟨w2, hw2⟩ : ∃ w2, w2 = wc := ⟨_, rfl⟩
  rw [← hw2] at HBC HLR ⊢
  clear hw2
  have HB9 := Hid.mk2 (g_on HB.out HBC.out)
  clear HB
  have HB := HB9
  clear HB9 
  clear HBC HS1
  go_upto_region 4 with (fail)
  go_cut [5, 6] from 16 (fun s5 s6 wx => s5 = .string ⟨#[121]⟩ ∧ s6 = .string ⟨#[122]⟩ ∧ Hid (Below w2.heap.size w2 wx))
  case first =>
    go_wp2_with (go_at_call 9; refine (HAP.out _).mono ?_; rintro e w9 ⟨rfl, hb9⟩)
    go_meet
    case rel => exact ⟨rfl, rfl, hb9⟩
  case rest =>
  obtain ⟨rfl, rfl, HBC⟩ := hcut
  obtain ⟨w3, hw3⟩ : ∃ w3, w3 = wc := ⟨_, rfl⟩
  rw [← hw3] at HBC ⊢
  clear hw3
  have HB9 := Hid.mk2 (g_on HB.out HBC.out)
  have HLR9 := Hid.mk2 (HLR.out.below HBC.out)
  clear HB HLR
  have HB := HB9
  have HLR := HLR9
  clear HB9 HLR9
  clear HBC HAP
  go_upto_region 5 with (fail)
  go_cut [7] from 16 (fun s7 wx => ∃ (B g : Nat), s7 = .pointer (some ⟨B, 0, none⟩) ∧ Hid (Below w3.heap.size w3 wx) ∧ Hid (GBx wx B [.int .u8 10, .int .i64 0, .slice (some ⟨g, 0, none⟩) 2 2, .string ⟨#[]⟩, .int .u32 0, .int .i64 0, .int .u64 0, .int .u64 0]) ∧ Hid (GRd ES wx (some ⟨g, 0, none⟩) [⟨#[121]⟩, ⟨#[122]⟩] 2))
  case first =>
    have HGL := Hid.mk2 (g_lit w3 [⟨#[121]⟩, ⟨#[122]⟩] 2 rfl (by simp) (by simp))
    go_wp2
    go_meet
    case rel => exact ⟨w3.heap.size + 1, w3.heap.size, rfl, g_on (g_alloc _ _) (g_alloc _ _), by
      have := GBx.made (w3.alloc (.cells #[.string ⟨#[121]⟩, .string ⟨#[122]⟩] 9)) [.int .u8 10, .int .i64 0, .slice (some ⟨w3.heap.size, 0, none⟩) 2 2, .string ⟨#[]⟩, .int .u32 0, .int .i64 0, .int .u64 0, .int .u64 0] 27
      rw [show (w3.alloc (.cells #[.string ⟨#[121]⟩, .string ⟨#[122]⟩] 9)).heap.size = w3.heap.size + 1 by simp] at this
      exact this, HGL.out.alloc _⟩
  case rest =>
  obtain ⟨B, g, rfl, HBC, HX, HKY⟩ := hcut
  obtain ⟨w4, hw4⟩ : ∃ w4, w4 = wc := ⟨_, rfl⟩
  rw [← hw4] at HBC HX HKY ⊢
  clear hw4
  have HB9 := Hid.mk2 (g_on HB.out HBC.out)
  have HLR9 := Hid.mk2 (HLR.out.below HBC.out)
  clear HB HLR
  have HB := HB9
  have HLR := HLR9
  clear HB9 HLR9
  clear HBC
  have c0 := HX.out.c 0 (by simp)
  have c1 := HX.out.c 1 (by simp)
  have c2 := HX.out.c 2 (by simp)
  have c3 := HX.out.c 3 (by simp)
  have c4 := HX.out.c 4 (by simp)
  have c5 := HX.out.c 5 (by simp)
  have c6 := HX.out.c 6 (by simp)
  have c7 := HX.out.c 7 (by simp)
  simp only [List.getElem_cons_zero, List.getElem_cons_succ] at c0 c1 c2 c3 c4 c5 c6 c7
  have hlt := HX.out.lt
  go_upto_region 6 with (fail)
  go_cut [8, 9] from 16 (fun sa sb wx => ∃ (bb : Nat), sa = .pointer (some ⟨bb, 0, none⟩) ∧ sb = .int .i64 0 ∧ Hid (Below w4.heap.size w4 wx) ∧ Hid (GBx wx bb [.int .u8 1, .slice none 0 0, .int .u64 1]))
  case first =>
    go_wp2_with (go_at_call 10; refine (HM1.out _ _ _ _ _ (HKY.out.alloc _) (g_litR w4 1 1 2 0)).mono ?_; rintro e w9 ⟨rfl, hb9⟩; have HQ9 : Hid (Below w4.heap.size w4 w9) := (by first | exact g_behind hb9 | exact hb9); clear hb9)
    go_meet
    case rel => exact ⟨w9.heap.size, rfl, rfl, g_on HQ9.out (g_alloc _ _), GBx.made w9 [.int .u8 1, .slice none 0 0, .int .u64 1] 36⟩
  case rest =>
  obtain ⟨ba, rfl, rfl, HBC, BAX⟩ := hcut
  obtain ⟨w5, hw5⟩ : ∃ w5, w5 = wc := ⟨_, rfl⟩
  rw [← hw5] at HBC BAX ⊢
  clear hw5
  clear c0 c1 c2 c3 c4 c5 c6 c7 hlt
  have HB9 := Hid.mk2 (g_on HB.out HBC.out)
  have HLR9 := Hid.mk2 (HLR.out.below HBC.out)
  have HX9 := Hid.mk2 (HX.out.below HBC.out)
  have HKY9 := Hid.mk2 (HKY.out.below HBC.out)
  clear HB HLR HX HKY
  have HB := HB9
  have HLR := HLR9
  have HX := HX9
  have HKY := HKY9
  clear HB9 HLR9 HX9 HKY9
  clear HBC
  have c0 := HX.out.c 0 (by simp)
  have c1 := HX.out.c 1 (by simp)
  have c2 := HX.out.c 2 (by simp)
  have c3 := HX.out.c 3 (by simp)
  have c4 := HX.out.c 4 (by simp)
  have c5 := HX.out.c 5 (by simp)
  have c6 := HX.out.c 6 (by simp)
  have c7 := HX.out.c 7 (by simp)
  simp only [List.getElem_cons_zero, List.getElem_cons_succ] at c0 c1 c2 c3 c4 c5 c6 c7
  have hlt := HX.out.lt
  go_upto_region 7 with (fail)
  go_cut [10, 11] from 16 (fun sa sb wx => ∃ (bb : Nat), sa = .pointer (some ⟨bb, 0, none⟩) ∧ sb = .int .i64 0 ∧ Hid (Below w5.heap.size w5 wx) ∧ Hid (GBx wx bb [.int .u8 2, .slice none 0 0, .int .u64 0]))
  case first =>
    go_wp2_with (go_at_call 10; refine (HM2.out _ _ _ _ _ (HKY.out.alloc _) (g_litR w5 2 0 2 0)).mono ?_; rintro e w9 ⟨rfl, hb9⟩; have HQ9 : Hid (Below w5.heap.size w5 w9) := (by first | exact g_behind hb9 | exact hb9); clear hb9)
    go_meet
    case rel => exact ⟨w9.heap.size, rfl, rfl, g_on HQ9.out (g_alloc _ _), GBx.made w9 [.int .u8 2, .slice none 0 0, .int .u64 0] 36⟩
  case rest =>
  obtain ⟨bb2, rfl, rfl, HBC, BB2X⟩ := hcut
  obtain ⟨w6, hw6⟩ : ∃ w6, w6 = wc := ⟨_, rfl⟩
  rw [← hw6] at HBC BB2X ⊢
  clear hw6
  clear c0 c1 c2 c3 c4 c5 c6 c7 hlt
  have HB9 := Hid.mk2 (g_on HB.out HBC.out)
  have HLR9 := Hid.mk2 (HLR.out.below HBC.out)
  have HX9 := Hid.mk2 (HX.out.below HBC.out)
  have HKY9 := Hid.mk2 (HKY.out.below HBC.out)
  have BAX9 := Hid.mk2 (BAX.out.below HBC.out)
  clear HB HLR HX HKY BAX
  have HB := HB9
  have HLR := HLR9
  have HX := HX9
  have HKY := HKY9
  have BAX := BAX9
  clear HB9 HLR9 HX9 HKY9 BAX9
  clear HBC
  have c0 := HX.out.c 0 (by simp)
  have c1 := HX.out.c 1 (by simp)
  have c2 := HX.out.c 2 (by simp)
  have c3 := HX.out.c 3 (by simp)
  have c4 := HX.out.c 4 (by simp)
  have c5 := HX.out.c 5 (by simp)
  have c6 := HX.out.c 6 (by simp)
  have c7 := HX.out.c 7 (by simp)
  simp only [List.getElem_cons_zero, List.getElem_cons_succ] at c0 c1 c2 c3 c4 c5 c6 c7
  have hlt := HX.out.lt
  go_upto_region 8 with (fail)
  go_cut [12, 13] from 16 (fun sa sb wx => ∃ (bb : Nat), sa = .pointer (some ⟨bb, 0, none⟩) ∧ sb = .int .i64 4 ∧ Hid (Below w6.heap.size w6 wx) ∧ Hid (GBx wx bb [.int .u8 0, .slice none 0 0, .int .u64 0]))
  case first =>
    go_wp2_with (go_at_call 10; refine (HM3.out _ _ _ HKY.out).mono ?_; rintro e w9 ⟨rfl, hb9⟩; have HQ9 : Hid (Below w6.heap.size w6 w9) := (by first | exact g_behind hb9 | exact hb9); clear hb9)
    go_meet
    case rel => exact ⟨w9.heap.size, rfl, rfl, g_on HQ9.out (g_alloc _ _), GBx.made w9 [.int .u8 0, .slice none 0 0, .int .u64 0] 36⟩
  case rest =>
  obtain ⟨bc2, rfl, rfl, HBC, BC2X⟩ := hcut
  obtain ⟨w7, hw7⟩ : ∃ w7, w7 = wc := ⟨_, rfl⟩
  rw [← hw7] at HBC BC2X ⊢
  clear hw7
  clear c0 c1 c2 c3 c4 c5 c6 c7 hlt
  have HB9 := Hid.mk2 (g_on HB.out HBC.out)
  have HLR9 := Hid.mk2 (HLR.out.below HBC.out)
  have HX9 := Hid.mk2 (HX.out.below HBC.out)
  have HKY9 := Hid.mk2 (HKY.out.below HBC.out)
  have BAX9 := Hid.mk2 (BAX.out.below HBC.out)
  have BB2X9 := Hid.mk2 (BB2X.out.below HBC.out)
  clear HB HLR HX HKY BAX BB2X
  have HB := HB9
  have HLR := HLR9
  have HX := HX9
  have HKY := HKY9
  have BAX := BAX9
  have BB2X := BB2X9
  clear HB9 HLR9 HX9 HKY9 BAX9 BB2X9
  clear HBC
  have c0 := HX.out.c 0 (by simp)
  have c1 := HX.out.c 1 (by simp)
  have c2 := HX.out.c 2 (by simp)
  have c3 := HX.out.c 3 (by simp)
  have c4 := HX.out.c 4 (by simp)
  have c5 := HX.out.c 5 (by simp)
  have c6 := HX.out.c 6 (by simp)
  have c7 := HX.out.c 7 (by simp)
  simp only [List.getElem_cons_zero, List.getElem_cons_succ] at c0 c1 c2 c3 c4 c5 c6 c7
  have hlt := HX.out.lt
  go_upto_region 9 with (fail)
  go_cut [14, 15] from 16 (fun sa sb wx => ∃ v, sa = v ∧ sb = .int .i64 2 ∧ Hid (Below w7.heap.size w7 wx))
  case first =>
    go_wp2_with (go_at_call 8; refine (HS5.out _ _ _ HKY.out).mono ?_; rintro e w9 ⟨v9, rfl, hb9⟩)
    go_meet
    case rel => exact ⟨_, rfl, rfl, hb9⟩
  case rest =>
  obtain ⟨v14, rfl, rfl, HBC⟩ := hcut
  obtain ⟨w8, hw8⟩ : ∃ w8, w8 = wc := ⟨_, rfl⟩
  rw [← hw8] at HBC ⊢
  clear hw8
  clear c0 c1 c2 c3 c4 c5 c6 c7 hlt
  have HB9 := Hid.mk2 (g_on HB.out HBC.out)
  have HLR9 := Hid.mk2 (HLR.out.below HBC.out)
  have BAX9 := Hid.mk2 (BAX.out.below HBC.out)
  have BB2X9 := Hid.mk2 (BB2X.out.below HBC.out)
  clear HB HLR BAX BB2X
  have HB := HB9
  have HLR := HLR9
  have BAX := BAX9
  have BB2X := BB2X9
  clear HB9 HLR9 BAX9 BB2X9
  clear HBC HX HKY
  obtain ⟨lb, loff, hla, hll, hlc⟩ := HLR.out.int (by simp)
  subst hla
  have hl0 := hlc 0 (by simp)
  simp only [List.getElem_cons_zero, Nat.add_zero] at hl0
  have HL0 := Hid.mk2 hl0
  clear hlc hl0
  go_wp2_with (go_at_call 11; refine (HAL.out _).mono ?_; rintro e w9 ⟨rfl, hb9⟩; have HA9 := Hid.mk2 (BAX.out.below hb9); have HC9 := Hid.mk2 (BB2X.out.below hb9); have r0 := (hb9.cell (p := ⟨lb, loff, none⟩) hll).trans HL0.out; have x0 := HA9.out.c 0 (by simp); have x1 := HA9.out.c 1 (by simp); have x2 := HA9.out.c 2 (by simp); simp only [List.getElem_cons_zero, List.getElem_cons_succ] at x0 x1 x2; have y0 := HC9.out.c 0 (by simp); have y1 := HC9.out.c 1 (by simp); have y2 := HC9.out.c 2 (by simp); simp only [List.getElem_cons_zero, List.getElem_cons_succ] at y0 y1 y2)
  go_ret
  exact ⟨by simp, g_on HB.out hb9⟩
end Go.Proofs.Ytiefdflkbihmkaa
