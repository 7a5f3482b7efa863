/-
  CodeNames is true: the limits, kinds and errors have their numbers, and the chapter's examples are so; no condition.
-/
import Derived.Test.YtgfhjkphdmkmoaaCmd7
import Derived.Test.YtgfhjkphdmkmoaaCut
import Derived.Deep.Cut
namespace Go.Proofs.Ytgfhjkphdmkmoaa
open Go.ChangeShapes Go.WideShapes Go.ChangeAt Go.RowKit
open Go.ChangeMaps (open_string shut_string)
set_option linter.unusedSimpArgs false
set_option linter.unusedVariables false
set_option maxRecDepth 100000

theorem al1 (W : World) (o : Obj) : Below W.heap.size W (W.alloc o) := (Below.refl _ _).alloc (Nat.le_refl _) o
theorem bs_lit (W : World) (l : List UInt8) : BsAt (W.alloc (.cells (l.map bcell).toArray 5)) (W.alloc (.cells (l.map bcell).toArray 5)).heap.size (some ⟨W.heap.size, 0, none⟩) l := by
  refine .inr ⟨W.heap.size, 0, rfl, by simp, fun j hj => ?_⟩
  rw [World.cell?_alloc_at _ _ _ _ rfl]
  simp [hj]
theorem tl_lit (W : World) (ks : List ByteArray) (n : Nat) (hn : ks.length = n) (hs : n ≤ 1000) : Tl (W.alloc (.cells (ks.map Value.string).toArray 9)) (some ⟨W.heap.size, 0, none⟩) ks n := by
  subst hn
  refine ⟨Nat.le_refl _, by omega, (by intro e; cases e), .inr ⟨W.heap.size, 0, rfl, by simp, fun j hj => ?_⟩⟩
  rw [World.cell?_alloc_at _ _ _ _ rfl]
  simp [hj]
/-- string(b) of an owned row, in whatever later world, at its length as a number -/
theorem Own.sl {w : World} {base : Nat} {v : Value} {l : List UInt8} (h : Own w base v l) (n : Nat) (hn : l.length = n) : ∃ ao cap, v = .slice ao n cap ∧ ∀ W, Below w.heap.size w W → (convert 26 9 (.slice ao n cap)).run Try.prog W = .ok (.string ⟨l.toArray⟩) W := by
  subst hn
  have hc := h.conv
  obtain ⟨ao, cap, rfl, -, -, -, -⟩ := h.at
  exact ⟨ao, cap, rfl, hc⟩
def exCmd : Cmd := ⟨1, 1, [⟨#[97]⟩, ⟨#[98]⟩], ⟨#[]⟩, 0, 0, 0, 0⟩
def exChg : List Chg := [⟨4, 1, zItm, ⟨#[]⟩, 0, 0, false⟩]
theorem exCmd_good : exCmd.Good := ⟨by simp [exCmd], by unfold Fits; simp [exCmd], by unfold Fits; simp [exCmd]⟩
theorem exChg_good : ∀ c ∈ exChg, c.Good := by
  intro c hc
  simp [exChg] at hc
  subst hc
  exact ⟨by simp [zItm], by unfold Fits; simp [zItm]⟩
theorem nR1 : readN [172, 2, 9] = 300 ∧ readK [172, 2, 9] = 2 ∧ readE [172, 2, 9] = 0 := by decide +kernel
theorem nR2 : readN [128, 0] = 0 ∧ readK [128, 0] = 0 ∧ readE [128, 0] = 8 := by decide +kernel
theorem nC3 : cutT [2, 97, 98, 7] = [97, 98] ∧ cutR [2, 97, 98, 7] = [7] ∧ cutE [2, 97, 98, 7] = 0 := by decide +kernel
theorem nS4 : shardOf 0 ⟨#[107]⟩ 1 = (0, 0) := by kernel_rfl
theorem nS5 : shardOf 4 ⟨#[107]⟩ 1 = (0, 2) := by kernel_rfl
theorem nS6 : shardOf 0 ⟨#[]⟩ 1 = (0, 3) := by kernel_rfl
theorem nS7 : shardOf 0 ⟨#[107]⟩ 5 = (0, 2) := by kernel_rfl
theorem nC8 : cmdE exCmd = 0 ∧ cmdBB exCmd = [1, 1, 2, 1, 97, 1, 98, 0, 0, 0, 0, 0] := ⟨by decide +kernel, by decide +kernel⟩
theorem nC9 : chsE exChg = 8 := by decide +kernel
theorem nO10 : ofChs [] = ([], 8) := by kernel_rfl
theorem nO11 : ofCmdE [] = 8 ∧ ofCmd [] = zeroC := ⟨by kernel_rfl, by kernel_rfl⟩
theorem nSm : small 300 = [172, 2] := by decide +kernel
theorem nTx : text [97, 98] = [2, 97, 98] := by decide +kernel
theorem nH0 : hash0 [] = 14695981039346656037 := by kernel_rfl
theorem nH1 : hash0 [97] = 12638187200555641996 := by kernel_rfl

set_option maxHeartbeats 600000 in
theorem codeNames_walk (w : World) :
    Calls Try.prog 3 #[] w fun e w' => e = .returned (.bool true) ∧ Below w.heap.size w w' := by
  have R1 : Hid (∀ W : World, Calls Try.prog 9 #[.slice (some ⟨W.heap.size, 0, none⟩) 3 3] (W.alloc (Obj.cells #[Value.int IntKind.u8 172, Value.int IntKind.u8 2, Value.int IntKind.u8 9] 5)) fun e w' => e = .returned (.tuple #[.int .u64 300, .int .i64 2, .int .i64 0]) ∧ (W.alloc (Obj.cells #[Value.int IntKind.u8 172, Value.int IntKind.u8 2, Value.int IntKind.u8 9] 5)) = w') := by
    intro W
    have hx := read_any (W.alloc (Obj.cells #[Value.int IntKind.u8 172, Value.int IntKind.u8 2, Value.int IntKind.u8 9] 5)) _ (some ⟨W.heap.size, 0, none⟩) [172, 2, 9] 3 (by simp) (by simp [maxLen]) (bs_lit W [172, 2, 9])
    rw [nR1.1, nR1.2.1, nR1.2.2] at hx; exact hx
  have R2 : Hid (∀ W : World, Calls Try.prog 9 #[.slice (some ⟨W.heap.size, 0, none⟩) 2 2] (W.alloc (Obj.cells #[Value.int IntKind.u8 128, Value.int IntKind.u8 0] 5)) fun e w' => e = .returned (.tuple #[.int .u64 0, .int .i64 0, .int .i64 8]) ∧ (W.alloc (Obj.cells #[Value.int IntKind.u8 128, Value.int IntKind.u8 0] 5)) = w') := by
    intro W
    have hx := read_any (W.alloc (Obj.cells #[Value.int IntKind.u8 128, Value.int IntKind.u8 0] 5)) _ (some ⟨W.heap.size, 0, none⟩) [128, 0] 2 (by simp) (by simp [maxLen]) (bs_lit W [128, 0])
    rw [nR2.1, nR2.2.1, nR2.2.2] at hx; exact hx
  have C3 : Hid (∀ W : World, Calls Try.prog 10 #[.slice (some ⟨W.heap.size, 0, none⟩) 4 4] (W.alloc (Obj.cells #[Value.int IntKind.u8 2, Value.int IntKind.u8 97, Value.int IntKind.u8 98, Value.int IntKind.u8 7] 5)) fun e w' => ∃ ro rc, e = .returned (.tuple #[.string ⟨#[97, 98]⟩, .slice ro 1 rc, .int .i64 0]) ∧ (∀ V, Below w'.heap.size w' V → (convert 26 9 (.slice ro 1 rc)).run Try.prog V = .ok (.string ⟨#[7]⟩) V) ∧ Below W.heap.size W w') := by
    intro W
    have hx := cut_any (W.alloc (Obj.cells #[Value.int IntKind.u8 2, Value.int IntKind.u8 97, Value.int IntKind.u8 98, Value.int IntKind.u8 7] 5)) _ (some ⟨W.heap.size, 0, none⟩) [2, 97, 98, 7] 4 (bs_lit W [2, 97, 98, 7]) (by simp) (by simp [maxLen]) (by intro e; cases e) (Nat.le_refl _) (by simp)
    rw [nC3.1, nC3.2.1, nC3.2.2] at hx
    refine hx.mono ?_
    rintro e w' ⟨v', rfl, ho, hb⟩
    obtain ⟨ao, cap, rfl, hc⟩ := ho.sl 1 rfl
    exact ⟨ao, cap, rfl, hc, below_alloc hb⟩
  have S4 : Hid (∀ W : World, Calls Try.prog 11 #[.int .i64 0, .string ⟨#[107]⟩, .int .i64 1] W fun e w' => e = .returned (.tuple #[.int .i64 0, .int .i64 0]) ∧ Below W.heap.size W w') := fun W => by have hx := shard_any 0 ⟨#[107]⟩ 1 W (by decide); rw [nS4] at hx; exact hx
  have S5 : Hid (∀ W : World, Calls Try.prog 11 #[.int .i64 4, .string ⟨#[107]⟩, .int .i64 1] W fun e w' => e = .returned (.tuple #[.int .i64 0, .int .i64 2]) ∧ Below W.heap.size W w') := fun W => by have hx := shard_any 4 ⟨#[107]⟩ 1 W (by decide); rw [nS5] at hx; exact hx
  have S6 : Hid (∀ W : World, Calls Try.prog 11 #[.int .i64 0, .string ⟨#[]⟩, .int .i64 1] W fun e w' => e = .returned (.tuple #[.int .i64 0, .int .i64 3]) ∧ Below W.heap.size W w') := fun W => by have hx := shard_any 0 ⟨#[]⟩ 1 W (by decide); rw [nS6] at hx; exact hx
  have S7 : Hid (∀ W : World, Calls Try.prog 11 #[.int .i64 0, .string ⟨#[107]⟩, .int .i64 5] W fun e w' => e = .returned (.tuple #[.int .i64 0, .int .i64 2]) ∧ Below W.heap.size W w') := fun W => by have hx := shard_any 0 ⟨#[107]⟩ 5 W (by decide); rw [nS7] at hx; exact hx
  have C8 : Hid (∀ W : World, Calls Try.prog 12 #[.agg #[.int .u8 1, .int .i64 1, .slice (some ⟨W.heap.size, 0, none⟩) 2 2, .string ⟨#[]⟩, .int .u32 0, .int .i64 0, .int .u64 0, .int .u64 0]] (W.alloc (Obj.cells #[Value.string ⟨#[97]⟩, Value.string ⟨#[98]⟩] 9)) fun e w' => ∃ ro rc, e = .returned (.tuple #[.slice ro 12 rc, .int .i64 0]) ∧ (∀ V, Below w'.heap.size w' V → (convert 26 9 (.slice ro 12 rc)).run Try.prog V = .ok (.string ⟨#[1, 1, 2, 1, 97, 1, 98, 0, 0, 0, 0, 0]⟩) V) ∧ Below W.heap.size W w') := by
    intro W
    have hx := command_any exCmd (W.alloc (Obj.cells #[Value.string ⟨#[97]⟩, Value.string ⟨#[98]⟩] 9)) (some ⟨W.heap.size, 0, none⟩) 2 (tl_lit W [⟨#[97]⟩, ⟨#[98]⟩] 2 rfl (by omega)) exCmd_good
    rw [nC8.1, nC8.2] at hx
    refine hx.mono ?_
    rintro e w' ⟨v', rfl, ho, hb⟩
    obtain ⟨ao, cap, rfl, hc⟩ := ho.sl 12 rfl
    exact ⟨ao, cap, rfl, hc, below_alloc hb⟩
  have C9 : Hid (∀ W : World, Calls Try.prog 13 #[.slice (some ⟨W.heap.size, 0, none⟩) 1 1] (W.alloc (Obj.cells #[Value.int IntKind.u8 4, Value.int IntKind.i64 1, Value.string ⟨#[]⟩, Value.string ⟨#[]⟩, Value.int IntKind.u32 0, Value.int IntKind.i64 0, Value.int IntKind.u64 0, Value.string ⟨#[]⟩, Value.int IntKind.u8 0, Value.int IntKind.i64 0, Value.bool false] 41)) fun e w' => ∃ v', e = .returned (.tuple #[v', .int .i64 8]) ∧ Below W.heap.size W w') := by
    intro W
    have hx := changes_any (W.alloc (Obj.cells #[Value.int IntKind.u8 4, Value.int IntKind.i64 1, Value.string ⟨#[]⟩, Value.string ⟨#[]⟩, Value.int IntKind.u32 0, Value.int IntKind.i64 0, Value.int IntKind.u64 0, Value.string ⟨#[]⟩, Value.int IntKind.u8 0, Value.int IntKind.i64 0, Value.bool false] 41)) (W.heap.size + 1) (some ⟨W.heap.size, 0, none⟩) exChg 1 (chAt_made W exChg 41) (by simp) (by simp [exChg, maxLen]) exChg_good
    rw [nC9] at hx
    refine hx.mono ?_
    rintro e w' ⟨v', rfl, ho, hb⟩
    exact ⟨v', rfl, below_alloc hb⟩
  have O10 : Hid (∀ W : World, Calls Try.prog 14 #[.slice none 0 0] W fun e w' => ∃ v', e = .returned (.tuple #[v', .int .i64 8]) ∧ Below W.heap.size W w') := by
    intro W
    have hx := ofChanges_any W W.heap.size none [] 0 (.inl rfl) (by simp) (by simp [maxLen]) (fun _ => rfl) (Nat.le_refl _)
    rw [nO10] at hx
    refine hx.mono ?_
    rintro e w' ⟨v', rfl, ho, hb⟩
    exact ⟨v', rfl, hb⟩
  have O11 : Hid (∀ W : World, Calls Try.prog 15 #[.slice none 0 0] W fun e w' => ∃ ko kc, e = .returned (.tuple #[.agg #[.int .u8 0, .int .i64 0, .slice ko 0 kc, .string ⟨#[]⟩, .int .u32 0, .int .i64 0, .int .u64 0, .int .u64 0], .int .i64 8]) ∧ Below W.heap.size W w') := by
    intro W
    have hx := ofCommand_any W none [] 0 (.inl rfl) (by simp) (by simp [maxLen]) (fun _ => rfl)
    rw [nO11.1, nO11.2] at hx
    refine hx.mono ?_
    rintro e w' ⟨ko, kc, rfl, ho, hb⟩
    exact ⟨ko, kc, rfl, hb⟩
  have M12 : Hid (∀ W : World, Calls Try.prog 16 #[.int .u64 300] W fun e w' => ∃ ro rc, e = .returned (.slice ro 2 rc) ∧ (∀ V, Below w'.heap.size w' V → (convert 26 9 (.slice ro 2 rc)).run Try.prog V = .ok (.string ⟨#[172, 2]⟩) V) ∧ Below W.heap.size W w') := by
    intro W
    have hx := small_any 300 W (by unfold Fits; omega)
    rw [nSm] at hx
    refine hx.mono ?_
    rintro e w' ⟨v', rfl, ho, hb⟩
    obtain ⟨ao, cap, rfl, hc⟩ := ho.sl 2 rfl
    exact ⟨ao, cap, rfl, hc, hb⟩
  have T12 : Hid (∀ W : World, Calls Try.prog 17 #[.string ⟨#[97, 98]⟩] W fun e w' => ∃ ro rc, e = .returned (.slice ro 3 rc) ∧ (∀ V, Below w'.heap.size w' V → (convert 26 9 (.slice ro 3 rc)).run Try.prog V = .ok (.string ⟨#[2, 97, 98]⟩) V) ∧ Below W.heap.size W w') := by
    intro W
    have hx := text_any ⟨#[97, 98]⟩ W (by decide)
    rw [show (⟨#[97, 98]⟩ : ByteArray).data.toList = [97, 98] from rfl, nTx] at hx
    refine hx.mono ?_
    rintro e w' ⟨v', rfl, ho, hb⟩
    obtain ⟨ao, cap, rfl, hc⟩ := ho.sl 3 rfl
    exact ⟨ao, cap, rfl, hc, hb⟩
  have H0 : Hid (∀ W : World, Calls Try.prog 18 #[.string ⟨#[]⟩] W fun e w' => e = .returned (.int .u64 14695981039346656037) ∧ W = w') := fun W => by have hx := hash_any ⟨#[]⟩ W (by decide); rw [show (⟨#[]⟩ : ByteArray).data.toList = [] from rfl, nH0] at hx; exact hx
  have H1 : Hid (∀ W : World, Calls Try.prog 18 #[.string ⟨#[97]⟩] W fun e w' => e = .returned (.int .u64 12638187200555641996) ∧ W = w') := fun W => by have hx := hash_any ⟨#[97]⟩ W (by decide); rw [show (⟨#[97]⟩ : ByteArray).data.toList = [97] from rfl, nH1] at hx; exact hx
  go_enter Try.func3, Try.ntmps3
  go_upto_region 1 with fail
  obtain ⟨W0, hW0⟩ : ∃ W0, W0 = w := ⟨_, rfl⟩
  have B0 : Below w.heap.size w W0 := by rw [hW0]; exact Below.refl _ _
  rw [← hW0]
  clear hW0
  go_cut [1, 2, 3] from 28 (fun s1 s2 s3 wx => (s1 = .int .u64 300 ∧ s2 = .int .i64 2 ∧ s3 = .int .i64 0) ∧ Below W0.heap.size W0 wx)
  case first =>
    go_wp2_with (go_at_call 9; refine (R1.out W0).mono ?_; rintro e wp ⟨rfl, rfl⟩)
    go_meet
    case rel => exact ⟨⟨rfl, rfl, rfl⟩, al1 _ _⟩
  case rest =>
  obtain ⟨⟨rfl, rfl, rfl⟩, hbW⟩ := hcut
  obtain ⟨W1, hW1⟩ : ∃ W1, W1 = wc := ⟨_, rfl⟩
  rw [← hW1] at hbW ⊢
  have B1 : Below w.heap.size w W1 := B0.trans (hbW.mono B0.size)
  clear hbW hW1
  go_upto_region 2 with fail
  go_cut [4, 5, 6] from 28 (fun s4 s5 s6 wx => s6 = .int .i64 8 ∧ Below W1.heap.size W1 wx)
  case first =>
    go_wp2_with (go_at_call 9; refine (R2.out W1).mono ?_; rintro e wp ⟨rfl, rfl⟩)
    go_meet
    case rel => exact ⟨rfl, al1 _ _⟩
  case rest =>
  obtain ⟨rfl, hbW⟩ := hcut
  obtain ⟨W2, hW2⟩ : ∃ W2, W2 = wc := ⟨_, rfl⟩
  rw [← hW2] at hbW ⊢
  have B2 : Below w.heap.size w W2 := B1.trans (hbW.mono B1.size)
  clear hbW hW2
  go_upto_region 3 with fail
  go_cut [7, 8, 9] from 28 (fun s7 s8 s9 wx => (∃ ro rc, s7 = .string ⟨#[97, 98]⟩ ∧ s8 = .slice ro 1 rc ∧ s9 = .int .i64 0 ∧ (∀ V, Below wx.heap.size wx V → (convert 26 9 (.slice ro 1 rc)).run Try.prog V = .ok (.string ⟨#[7]⟩) V)) ∧ Below W2.heap.size W2 wx)
  case first =>
    go_wp2_with (go_at_call 10; refine (C3.out W2).mono ?_; rintro e wp ⟨ro, rc, rfl, hc, hb⟩)
    go_meet
    case rel => exact ⟨⟨ro, rc, rfl, rfl, rfl, hc⟩, hb⟩
  case rest =>
  obtain ⟨⟨ro3, rc3, rfl, rfl, rfl, q3⟩, hbW⟩ := hcut
  obtain ⟨W3, hW3⟩ : ∃ W3, W3 = wc := ⟨_, rfl⟩
  rw [← hW3] at hbW ⊢
  have B3 : Below w.heap.size w W3 := B2.trans (hbW.mono B2.size)
  rw [← hW3] at q3
  clear hbW hW3
  go_upto_region 4 with fail
  go_cut [10, 11] from 28 (fun s10 s11 wx => (s10 = .int .i64 0 ∧ s11 = .int .i64 0) ∧ Below W3.heap.size W3 wx)
  case first =>
    go_wp2_with (go_at_call 11; refine (S4.out W3).mono ?_; rintro e wp ⟨rfl, hb⟩)
    go_meet
    case rel => exact ⟨⟨rfl, rfl⟩, hb⟩
  case rest =>
  obtain ⟨⟨rfl, rfl⟩, hbW⟩ := hcut
  obtain ⟨W4, hW4⟩ : ∃ W4, W4 = wc := ⟨_, rfl⟩
  rw [← hW4] at hbW ⊢
  have B4 : Below w.heap.size w W4 := B3.trans (hbW.mono B3.size)
  have q3 := fun V hV => q3 V (hbW.trans (Below.mono hV hbW.size))
  clear hbW hW4
  go_upto_region 5 with fail
  go_cut [12, 13] from 28 (fun s12 s13 wx => (s12 = .int .i64 0 ∧ s13 = .int .i64 2) ∧ Below W4.heap.size W4 wx)
  case first =>
    go_wp2_with (go_at_call 11; refine (S5.out W4).mono ?_; rintro e wp ⟨rfl, hb⟩)
    go_meet
    case rel => exact ⟨⟨rfl, rfl⟩, hb⟩
  case rest =>
  obtain ⟨⟨rfl, rfl⟩, hbW⟩ := hcut
  obtain ⟨W5, hW5⟩ : ∃ W5, W5 = wc := ⟨_, rfl⟩
  rw [← hW5] at hbW ⊢
  have B5 : Below w.heap.size w W5 := B4.trans (hbW.mono B4.size)
  have q3 := fun V hV => q3 V (hbW.trans (Below.mono hV hbW.size))
  clear hbW hW5
  go_upto_region 6 with fail
  go_cut [14, 15] from 28 (fun s14 s15 wx => (s14 = .int .i64 0 ∧ s15 = .int .i64 3) ∧ Below W5.heap.size W5 wx)
  case first =>
    go_wp2_with (go_at_call 11; refine (S6.out W5).mono ?_; rintro e wp ⟨rfl, hb⟩)
    go_meet
    case rel => exact ⟨⟨rfl, rfl⟩, hb⟩
  case rest =>
  obtain ⟨⟨rfl, rfl⟩, hbW⟩ := hcut
  obtain ⟨W6, hW6⟩ : ∃ W6, W6 = wc := ⟨_, rfl⟩
  rw [← hW6] at hbW ⊢
  have B6 : Below w.heap.size w W6 := B5.trans (hbW.mono B5.size)
  have q3 := fun V hV => q3 V (hbW.trans (Below.mono hV hbW.size))
  clear hbW hW6
  go_upto_region 7 with fail
  go_cut [16, 17] from 28 (fun s16 s17 wx => (s16 = .int .i64 0 ∧ s17 = .int .i64 2) ∧ Below W6.heap.size W6 wx)
  case first =>
    go_wp2_with (go_at_call 11; refine (S7.out W6).mono ?_; rintro e wp ⟨rfl, hb⟩)
    go_meet
    case rel => exact ⟨⟨rfl, rfl⟩, hb⟩
  case rest =>
  obtain ⟨⟨rfl, rfl⟩, hbW⟩ := hcut
  obtain ⟨W7, hW7⟩ : ∃ W7, W7 = wc := ⟨_, rfl⟩
  rw [← hW7] at hbW ⊢
  have B7 : Below w.heap.size w W7 := B6.trans (hbW.mono B6.size)
  have q3 := fun V hV => q3 V (hbW.trans (Below.mono hV hbW.size))
  clear hbW hW7
  go_upto_region 8 with fail
  go_cut [18, 19] from 28 (fun s18 s19 wx => (∃ ro rc, s18 = .slice ro 12 rc ∧ s19 = .int .i64 0 ∧ (∀ V, Below wx.heap.size wx V → (convert 26 9 (.slice ro 12 rc)).run Try.prog V = .ok (.string ⟨#[1, 1, 2, 1, 97, 1, 98, 0, 0, 0, 0, 0]⟩) V)) ∧ Below W7.heap.size W7 wx)
  case first =>
    go_wp2_with (go_at_call 12; refine (C8.out W7).mono ?_; rintro e wp ⟨ro, rc, rfl, hc, hb⟩)
    go_meet
    case rel => exact ⟨⟨ro, rc, rfl, rfl, hc⟩, hb⟩
  case rest =>
  obtain ⟨⟨ro8, rc8, rfl, rfl, q8⟩, hbW⟩ := hcut
  obtain ⟨W8, hW8⟩ : ∃ W8, W8 = wc := ⟨_, rfl⟩
  rw [← hW8] at hbW ⊢
  have B8 : Below w.heap.size w W8 := B7.trans (hbW.mono B7.size)
  have q3 := fun V hV => q3 V (hbW.trans (Below.mono hV hbW.size))
  rw [← hW8] at q8
  clear hbW hW8
  go_upto_region 9 with fail
  go_cut [20, 21] from 28 (fun s20 s21 wx => s21 = .int .i64 8 ∧ Below W8.heap.size W8 wx)
  case first =>
    go_wp2_with (go_at_call 13; refine (C9.out W8).mono ?_; rintro e wp ⟨v', rfl, hb⟩)
    go_meet
    case rel => exact ⟨rfl, hb⟩
  case rest =>
  obtain ⟨rfl, hbW⟩ := hcut
  obtain ⟨W9, hW9⟩ : ∃ W9, W9 = wc := ⟨_, rfl⟩
  rw [← hW9] at hbW ⊢
  have B9 : Below w.heap.size w W9 := B8.trans (hbW.mono B8.size)
  have q3 := fun V hV => q3 V (hbW.trans (Below.mono hV hbW.size))
  have q8 := fun V hV => q8 V (hbW.trans (Below.mono hV hbW.size))
  clear hbW hW9
  go_upto_region 10 with fail
  go_cut [22, 23] from 28 (fun s22 s23 wx => s23 = .int .i64 8 ∧ Below W9.heap.size W9 wx)
  case first =>
    go_wp2_with (go_at_call 14; refine (O10.out W9).mono ?_; rintro e wp ⟨v', rfl, hb⟩)
    go_meet
    case rel => exact ⟨rfl, hb⟩
  case rest =>
  obtain ⟨rfl, hbW⟩ := hcut
  obtain ⟨W10, hW10⟩ : ∃ W10, W10 = wc := ⟨_, rfl⟩
  rw [← hW10] at hbW ⊢
  have B10 : Below w.heap.size w W10 := B9.trans (hbW.mono B9.size)
  have q3 := fun V hV => q3 V (hbW.trans (Below.mono hV hbW.size))
  have q8 := fun V hV => q8 V (hbW.trans (Below.mono hV hbW.size))
  clear hbW hW10
  go_upto_region 11 with fail
  go_cut [24, 25] from 28 (fun s24 s25 wx => s25 = .int .i64 8 ∧ Below W10.heap.size W10 wx)
  case first =>
    go_wp2_with (go_at_call 15; refine (O11.out W10).mono ?_; rintro e wp ⟨ko, kc, rfl, hb⟩)
    go_meet
    case rel => exact ⟨rfl, hb.alloc hb.size _⟩
  case rest =>
  obtain ⟨rfl, hbW⟩ := hcut
  obtain ⟨W11, hW11⟩ : ∃ W11, W11 = wc := ⟨_, rfl⟩
  rw [← hW11] at hbW ⊢
  have B11 : Below w.heap.size w W11 := B10.trans (hbW.mono B10.size)
  have q3 := fun V hV => q3 V (hbW.trans (Below.mono hV hbW.size))
  have q8 := fun V hV => q8 V (hbW.trans (Below.mono hV hbW.size))
  clear hbW hW11
  go_upto_region 12 with fail
  go_cut [26] from 28 (fun s26 wx => s26 = .bool true ∧ Below W11.heap.size W11 wx)
  case first =>
    go_wp2_with (first
      | (go_at_call 16; refine (M12.out W11).mono ?_; rintro e wp ⟨ro, rc, rfl, hc, hb⟩; have c1 := hc wp (Below.refl _ _))
      | (go_at_call 17; refine (T12.out wp).mono ?_; rintro e wq ⟨ro', rc', rfl, hc', hb'⟩; have c2 := hc' wq (Below.refl _ _); have hbq := hb.trans (hb'.mono hb.size); have c3 := q3 wq hbq))
    go_meet
    case rel => exact ⟨rfl, hbq⟩
  case rest =>
  obtain ⟨rfl, hbW⟩ := hcut
  obtain ⟨W12, hW12⟩ : ∃ W12, W12 = wc := ⟨_, rfl⟩
  rw [← hW12] at hbW ⊢
  have B12 : Below w.heap.size w W12 := B11.trans (hbW.mono B11.size)
  have q8 := fun V hV => q8 V (hbW.trans (Below.mono hV hbW.size))
  clear hbW hW12
  go_upto_region 13 with fail
  go_cut [27] from 28 (fun s27 wx => s27 = .bool true ∧ Below W12.heap.size W12 wx)
  case first =>
    go_wp2_with (first
      | (go_at_call 18; (fail_if_success have hq := hmk); refine (H0.out W12).mono ?_; rintro e wp ⟨rfl, rfl⟩; have hmk := True.intro)
      | (go_at_call 18; have hq := hmk; refine (H1.out W12).mono ?_; rintro e wp ⟨rfl, rfl⟩))
    go_meet
    case rel => exact ⟨rfl, Below.refl _ _⟩
  case rest =>
  obtain ⟨rfl, hbW⟩ := hcut
  obtain ⟨W13, hW13⟩ : ∃ W13, W13 = wc := ⟨_, rfl⟩
  rw [← hW13] at hbW ⊢
  have B13 : Below w.heap.size w W13 := B12.trans (hbW.mono B12.size)
  have q8 := fun V hV => q8 V (hbW.trans (Below.mono hV hbW.size))
  clear hbW hW13
  have hal := alive_any W13
  go_wp2_with (go_at_call 19; refine hal.mono ?_; rintro e wA ⟨rfl, hbA⟩; have c4 := q8 wA hbA)
  go_ret
  exact ⟨rfl, B13.trans (hbA.mono B13.size)⟩

set_option maxRecDepth 100000 in
theorem codeNames_lifted (os : Os) (started : os.Started) (H : Type) (enc : TypeId × Value → H) :
    ReturnsInHanded {} Try.checked os 3 .any (Rows.codeNamesSpec.pre6 enc Try.prog Try.f3 Rows.codeNamesRow.domain false) (Rows.codeNamesSpec.post enc Try.prog Try.f3 false true false false) := by
  refine returnsInHanded_of_change (C := Try.checked) (by kernel_rfl) started (by kernel_rfl) Try.func3
    (ChangeSpec.witness6 (enc := enc) (C := Try.checked) false ⟨#[], #[], []⟩ 8 (by kernel_rfl) (by kernel_rfl) (by kernel_rfl) (by kernel_rfl)) ?_
  intro W base args ds gs before hval0 hW hcnd _
  have hval : ∀ (j : Nat) t v, Try.f3.params[j]? = some t → args[j]? = some v → Value.okWide Try.prog W .any base t v := hval0
  have hW' := hW
  obtain ⟨p, q, hA0, hV, rfl, hfz, hnd⟩ := hW
  have hA : DataW.TrodAll enc Try.prog W 0 (fun _ => true) true Try.f3.params.toList args.toList ds p := hA0
  rw [Try.params3] at hA hval
  obtain ⟨rfl, rfl, rfl⟩ := trodAll_none hA
  obtain ⟨rfl, rfl⟩ := trodVars_none hV
  clear hA0 hval0
  refine (codeNames_walk W ).mono fun e W' ⟨he, bel⟩ => ?_
  subst he
  exact ⟨_, rfl, _, _, _, [], _, [], hW', trodAll_mk1 (shut_bool Try.underlying4 _), trodAll_mk0, rfl, bel.frame _, fun h => by cases h⟩

theorem codeNames_proved : Rows.CodeNamesSaid :=
  OpenClaim.holds_of_wide 3 Try.f3 rfl rfl rfl rfl rfl rfl rfl ⟨rfl, rfl, rfl, rfl, rfl⟩ rfl rfl rfl rfl rfl (by kernel_rfl) Try.func3 (by kernel_rfl)
    (of_decide_eq_true (by kernel_rfl)) (by unfold Func.isWrapper; first | (rw [if_pos (by decide +kernel)]; kernel_rfl) | (rw [if_neg (by decide +kernel)]; exact ⟨rfl, rfl⟩))
    (fun os started H enc _ => codeNames_lifted os started H enc)
#print axioms codeNames_proved
end Go.Proofs.Ytgfhjkphdmkmoaa
