/-
  CodeAsk is true for every command and all bytes: a command is read again as it was written, and nothing else is read as one; no condition.
-/
import Derived.Test.YtgfhjkphdmkmoabCmd7
namespace Go.Proofs.Ytgfhjkphdmkmoab
open Go.ChangeShapes Go.WideShapes Go.ChangeAt Go.RowKit
open Go.ChangeMaps (open_string shut_string)
set_option linter.unusedSimpArgs false
set_option linter.unusedVariables false
set_option maxRecDepth 100000

theorem Hid.mk' {p : Prop} (h : p) : Hid p := h
theorem min1a (m a : Nat) : ∃ m' : Nat, ((m : Int) + (if (100000 : Int) < (a : Int) then 100000 else (a : Int))) = (m' : Int) ∧ m' ≤ m + 100000 := by
  refine ⟨((m : Int) + (if (100000 : Int) < (a : Int) then 100000 else (a : Int))).toNat, ?_, ?_⟩ <;> (split <;> omega)
theorem bnd {n n' k M : Nat} (h : n ≤ M + 100000 * k) (h' : n' ≤ n + 100000) : n' ≤ M + 100000 * (k + 1) := by
  rw [Nat.mul_add, Nat.mul_one, ← Nat.add_assoc]
  exact Nat.le_trans h' (Nat.add_le_add_right h _)
theorem box8 {w W : World} {X : Nat} {cs : Array Value} {t : TypeId} (hX : X = w.heap.size) (hW : Below (w.alloc (.cells cs t)).heap.size (w.alloc (.cells cs t)) W) : ∀ V, Below W.heap.size W V → ∀ j v, cs[j]? = some v → V.cell? ⟨X, j, none⟩ = some v := by
  intro V hV j v hv
  have h := hW.trans (hV.mono hW.size)
  rw [hX]
  refine (h.cell (p := ⟨w.heap.size, j, none⟩) (by simp)).trans ?_
  rw [World.cell?_alloc_at _ _ _ _ rfl]
  exact hv

set_option maxHeartbeats 2000000 in
theorem ask11 (w : World) (kind : UInt8) (tenant : Int) (keys : List ByteArray) (value : ByteArray) (flags : Nat) (dur : Int) (unique by_ : Nat) (ko : Option Addr) (kc : Nat) (HK : Hid (Tl w ko keys kc)) (hg : Cmd.Good ⟨kind, tenant, keys, value, flags, dur, unique, by_⟩) (hv : value.size ≤ 140737488355328) (a1 : Option Addr) (cap1 : Nat) (b : List UInt8) (HB : Hid (BsAt w w.heap.size a1 b ∧ b.length ≤ cap1 ∧ cap1 ≤ maxLen ∧ (a1 = none → cap1 = 0)))
    (hok : cmdOk ⟨kind, tenant, keys, value, flags, dur, unique, by_⟩ = true) (hgd : ofCmdE b = 0) :
    Calls Try.prog 4 #[.agg #[.int .u8 (kind.toNat : Int), .int .i64 tenant, .slice ko keys.length kc, .string value, .int .u32 flags, .int .i64 dur, .int .u64 unique, .int .u64 by_], .slice a1 b.length cap1] w fun e w' => e = .returned (.bool true) ∧ Below w.heap.size w w' := by
  have hkm : keys.length ≤ 9223372036854775807 := Nat.le_trans HK.out.hl HK.out.hc
  have hbm : b.length ≤ 9223372036854775807 := Nat.le_trans HB.out.2.1 HB.out.2.2.1
  have hal := fun W => alive_any W
  have hC1 := fun W (h : Below w.heap.size w W) => command_any ⟨kind, tenant, keys, value, flags, dur, unique, by_⟩ W ko kc (HK.out.below h) hg
  obtain ⟨bk1, bk2⟩ := ask_back hok hg
  have eC : cmdE ⟨kind, tenant, keys, value, flags, dur, unique, by_⟩ = 0 := by unfold cmdE; exact if_pos hok
  have eB : cmdBB ⟨kind, tenant, keys, value, flags, dur, unique, by_⟩ = cmdB ⟨kind, tenant, keys, value, flags, dur, unique, by_⟩ := by unfold cmdBB; exact if_pos hok
  rw [eC, eB] at hC1
  obtain ⟨L, hL⟩ : ∃ L, L = cmdB ⟨kind, tenant, keys, value, flags, dur, unique, by_⟩ := ⟨_, rfl⟩
  rw [← hL] at hC1 bk1 bk2
  have hO1 := fun W ao cap (h1 : BsAt W W.heap.size ao L) (h2 : L.length ≤ cap) (h3 : cap ≤ maxLen) (h4 : ao = none → cap = 0) => ofCommand_any W ao L cap h1 h2 h3 h4
  rw [bk1, bk2] at hO1
  have hSM := fun W xo xc (h : Below w.heap.size w W) (h1 : Tl W xo keys xc) => sameCommand_any ⟨kind, tenant, keys, value, flags, dur, unique, by_⟩ W xo ko xc kc h1 (HK.out.below h)
  have hO2 := fun W (h : Below w.heap.size w W) => ofCommand_any W a1 b cap1 (HB.out.1.below h h.size) HB.out.2.1 HB.out.2.2.1 HB.out.2.2.2
  obtain ⟨iv1, iv2, iv3⟩ := ask_inv hgd
  have hC2 := fun W xo xc (h : Tl W xo (ofCmd b).keys xc) => command_any (ofCmd b) W xo xc h iv3
  have eC2 : cmdE (ofCmd b) = 0 := by unfold cmdE; exact if_pos iv1
  have eB2 : cmdBB (ofCmd b) = b := by unfold cmdBB; rw [if_pos iv1]; exact iv2
  rw [eC2, eB2] at hC2
  rw [hgd] at hO2
  clear eC2 eB2 iv1 iv2 iv3
  obtain ⟨c2, hc2⟩ : ∃ c2, c2 = ofCmd b := ⟨_, rfl⟩
  rw [← hc2] at hO2 hC2
  obtain ⟨kind2, tenant2, keys2, value2, flags2, dur2, unique2, by2⟩ := c2
  unfold Cmd.cells bcell at hC1 hO2 hO1 hSM hC2
  simp only [] at hC1 hO2 hO1 hSM hC2
  have HC1 := Hid.mk' hC1
  have HO2 := Hid.mk' hO2
  have HO1 := Hid.mk' hO1
  have HSM := Hid.mk' hSM
  clear hO1 hSM bk1 bk2 hL
  have HC2 := Hid.mk' hC2
  clear hC2
  clear hC1 hO2 hc2 hgd hok eC eB hg
  obtain ⟨X, hX⟩ : ∃ X, X = w.heap.size := ⟨_, rfl⟩
  have HXX : Hid (X = w.heap.size) := hX
  go_enter Try.func4, Try.ntmps4
  go_upto_region 4 with (go_at_call 9; refine (hal _).mono ?_; rintro e w1 ⟨rfl, hb1⟩)
  have HBX : Hid (∀ V, Below w1.heap.size w1 V → V.cell? ⟨X, 0, none⟩ = some (.int .u8 (kind.toNat : Int)) ∧ V.cell? ⟨X, 1, none⟩ = some (.int .i64 tenant) ∧ V.cell? ⟨X, 2, none⟩ = some (.slice ko keys.length kc) ∧ V.cell? ⟨X, 3, none⟩ = some (.string value) ∧ V.cell? ⟨X, 4, none⟩ = some (.int .u32 flags) ∧ V.cell? ⟨X, 5, none⟩ = some (.int .i64 dur) ∧ V.cell? ⟨X, 6, none⟩ = some (.int .u64 unique) ∧ V.cell? ⟨X, 7, none⟩ = some (.int .u64 by_)) := by
    intro V hV
    have hc := box8 hX hb1 V hV
    exact ⟨hc 0 _ rfl, hc 1 _ rfl, hc 2 _ rfl, hc 3 _ rfl, hc 4 _ rfl, hc 5 _ rfl, hc 6 _ rfl, hc 7 _ rfl⟩
  rw [← hX]
  have hb01 : Below w.heap.size w w1 := below_alloc hb1
  obtain ⟨x0, x1, x2, x3, x4, x5, x6, x7⟩ := HBX.out w1 (Below.refl _ _)
  clear hb1 hX hal
  go_wp2
  go_loop [6, 7] (fun n i => ∃ k m : Nat, k ≤ keys.length ∧ k ≤ 200 ∧ m ≤ 140737488355328 + 100000 * k ∧ i = .int .i64 k ∧ n = .int .i64 m) (fun _ i => keys.length - (intOf i).toNat)
  case atStart => exact ⟨0, value.size, Nat.zero_le _, Nat.zero_le _, Nat.le_trans hv (Nat.le_add_right _ _), rfl, rfl⟩
  case round =>
    obtain ⟨k, n, hk, hk1, hmb, rfl, rfl⟩ := hrel
    by_cases hlt : k < keys.length
    · have hlt2 : (k : Int) < (keys.length : Int) := by omega
      by_cases h1 : k < 200
      · have h12 : (k : Int) < 200 := by omega
        rcases HK.out.at_ with h | ⟨bk, off, rfl, hbk, hc⟩
        · rw [h] at hlt; simp at hlt
        · have hx := (hb01.cell (p := ⟨bk, off + k, none⟩) hbk).trans (hc k hlt)
          obtain ⟨p, hpe⟩ : ∃ p, p = keys[k] := ⟨_, rfl⟩
          rw [← hpe] at hx
          obtain ⟨n', em, hn'⟩ := min1a n p.size
          have EM : Hid (((n : Int) + (if (100000 : Int) < (p.size : Int) then 100000 else (p.size : Int))) = (n' : Int)) := em
          clear em hc hpe
          go_wp2
          go_round
          case rel => exact ⟨k + 1, n', hlt, h1, bnd hmb hn', by go_num, by rw [EM.out]⟩
          case measure => simp [intOf]; omega
      · have h12 : decide ((k : Int) < 200) = false := by simp; omega
        have g1 : (100 : Int) < (keys.length : Int) := by omega
        go_wp2
        go_ret
        exact ⟨rfl, hb01⟩
    · have hlt2 : decide ((k : Int) < (keys.length : Int)) = false := by simp; omega
      by_cases g1 : (100 : Int) < (keys.length : Int)
      · go_wp2
        go_ret
        exact ⟨rfl, hb01⟩
      · have g1' : decide ((100 : Int) < (keys.length : Int)) = false := by simp; omega
        by_cases g2 : (200000 : Int) < (n : Int)
        · go_wp2
          go_ret
          exact ⟨rfl, hb01⟩
        · have g2' : decide ((200000 : Int) < (n : Int)) = false := by simp; omega
          by_cases g3 : (70000 : Int) < (b.length : Int)
          · go_wp2
            go_ret
            exact ⟨rfl, hb01⟩
          · have g3' : decide ((70000 : Int) < (b.length : Int)) = false := by simp; omega
            go_wp2_with (first
              | (go_at_call 14; (fail_if_success have hq := hmk); refine (HC1.out w1 hb01).mono ?_; rintro e w2 ⟨v2, rfl, ho2, hb2⟩; obtain ⟨po, pc, hv2, hpl, hpm, hpn, hpb⟩ := ho2.at; subst hv2; have hmk := True.intro; have hb02 := hb01.trans (hb2.mono hb01.size))
              | (go_at_call 15; (fail_if_success have hq := hmk2); refine (HO1.out w2 po pc hpb hpl hpm hpn).mono ?_; rintro e w3 ⟨xo, xc, rfl, htx, hb3⟩; have hmk2 := True.intro; have hb03 := hb02.trans (hb3.mono hb02.size); have hb13 := hb2.trans (hb3.mono hb2.size); obtain ⟨y0, y1, y2, y3, y4, y5, y6, y7⟩ := HBX.out (w3.alloc (Obj.cells #[Value.int IntKind.u8 ↑kind.toNat, Value.int IntKind.i64 tenant, Value.slice xo keys.length xc, Value.string value, Value.int IntKind.u32 ↑flags, Value.int IntKind.i64 dur, Value.int IntKind.u64 ↑unique, Value.int IntKind.u64 ↑by_] 37)) (hb13.alloc hb13.size _))
              | (go_at_call 16; refine (HSM.out (w3.alloc (Obj.cells #[Value.int IntKind.u8 ↑kind.toNat, Value.int IntKind.i64 tenant, Value.slice xo keys.length xc, Value.string value, Value.int IntKind.u32 ↑flags, Value.int IntKind.i64 dur, Value.int IntKind.u64 ↑unique, Value.int IntKind.u64 ↑by_] 37)) xo xc (hb03.alloc hb03.size _) (htx.below ((Below.refl _ _).alloc (Nat.le_refl _) _))).mono ?_; rintro e w4 ⟨rfl, hb4⟩; have hmk4 := True.intro; have hb04 := (hb03.alloc hb03.size _).trans (hb4.mono (by simp; have := hb03.size; omega)))
              | (go_at_call 15; have hq := hmk4; refine (HO2.out w4 hb04).mono ?_; rintro e w5 ⟨zo, zc, rfl, htz, hb5⟩; have hmk5 := True.intro; have hb05 := hb04.trans (hb5.mono hb04.size))
              | (go_at_call 14; have hq := hmk5; refine (HC2.out (w5.alloc (Obj.cells #[Value.int IntKind.u8 ↑kind2.toNat, Value.int IntKind.i64 tenant2, Value.slice zo keys2.length zc, Value.string value2, Value.int IntKind.u32 ↑flags2, Value.int IntKind.i64 dur2, Value.int IntKind.u64 ↑unique2, Value.int IntKind.u64 ↑by2] 37)) zo zc (htz.below ((Below.refl _ _).alloc (Nat.le_refl _) _))).mono ?_; rintro e w6 ⟨v6, rfl, ho6, hb6⟩; have hb06 := (hb05.alloc hb05.size _).trans (hb6.mono (by simp; have := hb05.size; omega)); have q1 := ho6.conv w6 (Below.refl _ _); have q2 := conv_bytes w6 w6.heap.size a1 b cap1 (HB.out.1.below hb06 hb06.size)))
            all_goals
              go_ret
              exact ⟨rfl, hb06⟩

set_option maxHeartbeats 2000000 in
theorem ask10 (w : World) (kind : UInt8) (tenant : Int) (keys : List ByteArray) (value : ByteArray) (flags : Nat) (dur : Int) (unique by_ : Nat) (ko : Option Addr) (kc : Nat) (HK : Hid (Tl w ko keys kc)) (hg : Cmd.Good ⟨kind, tenant, keys, value, flags, dur, unique, by_⟩) (hv : value.size ≤ 140737488355328) (a1 : Option Addr) (cap1 : Nat) (b : List UInt8) (HB : Hid (BsAt w w.heap.size a1 b ∧ b.length ≤ cap1 ∧ cap1 ≤ maxLen ∧ (a1 = none → cap1 = 0)))
    (hok : cmdOk ⟨kind, tenant, keys, value, flags, dur, unique, by_⟩ = true) (hgd : ¬ ofCmdE b = 0) :
    Calls Try.prog 4 #[.agg #[.int .u8 (kind.toNat : Int), .int .i64 tenant, .slice ko keys.length kc, .string value, .int .u32 flags, .int .i64 dur, .int .u64 unique, .int .u64 by_], .slice a1 b.length cap1] w fun e w' => e = .returned (.bool true) ∧ Below w.heap.size w w' := by
  have hkm : keys.length ≤ 9223372036854775807 := Nat.le_trans HK.out.hl HK.out.hc
  have hbm : b.length ≤ 9223372036854775807 := Nat.le_trans HB.out.2.1 HB.out.2.2.1
  have hal := fun W => alive_any W
  have hC1 := fun W (h : Below w.heap.size w W) => command_any ⟨kind, tenant, keys, value, flags, dur, unique, by_⟩ W ko kc (HK.out.below h) hg
  obtain ⟨bk1, bk2⟩ := ask_back hok hg
  have eC : cmdE ⟨kind, tenant, keys, value, flags, dur, unique, by_⟩ = 0 := by unfold cmdE; exact if_pos hok
  have eB : cmdBB ⟨kind, tenant, keys, value, flags, dur, unique, by_⟩ = cmdB ⟨kind, tenant, keys, value, flags, dur, unique, by_⟩ := by unfold cmdBB; exact if_pos hok
  rw [eC, eB] at hC1
  obtain ⟨L, hL⟩ : ∃ L, L = cmdB ⟨kind, tenant, keys, value, flags, dur, unique, by_⟩ := ⟨_, rfl⟩
  rw [← hL] at hC1 bk1 bk2
  have hO1 := fun W ao cap (h1 : BsAt W W.heap.size ao L) (h2 : L.length ≤ cap) (h3 : cap ≤ maxLen) (h4 : ao = none → cap = 0) => ofCommand_any W ao L cap h1 h2 h3 h4
  rw [bk1, bk2] at hO1
  have hSM := fun W xo xc (h : Below w.heap.size w W) (h1 : Tl W xo keys xc) => sameCommand_any ⟨kind, tenant, keys, value, flags, dur, unique, by_⟩ W xo ko xc kc h1 (HK.out.below h)
  have hO2 := fun W (h : Below w.heap.size w W) => ofCommand_any W a1 b cap1 (HB.out.1.below h h.size) HB.out.2.1 HB.out.2.2.1 HB.out.2.2.2
  have eE : ofCmdE b = 8 := by
    cases hh : cmdRead b with
    | true => exact absurd (ofCmdE_pos hh) hgd
    | false => unfold ofCmdE; exact if_neg (by rw [hh]; decide)
  rw [eE] at hO2
  obtain ⟨c2, hc2⟩ : ∃ c2, c2 = ofCmd b := ⟨_, rfl⟩
  rw [← hc2] at hO2 
  obtain ⟨kind2, tenant2, keys2, value2, flags2, dur2, unique2, by2⟩ := c2
  unfold Cmd.cells bcell at hC1 hO2 hO1 hSM 
  simp only [] at hC1 hO2 hO1 hSM 
  have HC1 := Hid.mk' hC1
  have HO2 := Hid.mk' hO2
  have HO1 := Hid.mk' hO1
  have HSM := Hid.mk' hSM
  clear hO1 hSM bk1 bk2 hL
  clear hC1 hO2 hc2 hgd hok eC eB hg
  obtain ⟨X, hX⟩ : ∃ X, X = w.heap.size := ⟨_, rfl⟩
  have HXX : Hid (X = w.heap.size) := hX
  go_enter Try.func4, Try.ntmps4
  go_upto_region 4 with (go_at_call 9; refine (hal _).mono ?_; rintro e w1 ⟨rfl, hb1⟩)
  have HBX : Hid (∀ V, Below w1.heap.size w1 V → V.cell? ⟨X, 0, none⟩ = some (.int .u8 (kind.toNat : Int)) ∧ V.cell? ⟨X, 1, none⟩ = some (.int .i64 tenant) ∧ V.cell? ⟨X, 2, none⟩ = some (.slice ko keys.length kc) ∧ V.cell? ⟨X, 3, none⟩ = some (.string value) ∧ V.cell? ⟨X, 4, none⟩ = some (.int .u32 flags) ∧ V.cell? ⟨X, 5, none⟩ = some (.int .i64 dur) ∧ V.cell? ⟨X, 6, none⟩ = some (.int .u64 unique) ∧ V.cell? ⟨X, 7, none⟩ = some (.int .u64 by_)) := by
    intro V hV
    have hc := box8 hX hb1 V hV
    exact ⟨hc 0 _ rfl, hc 1 _ rfl, hc 2 _ rfl, hc 3 _ rfl, hc 4 _ rfl, hc 5 _ rfl, hc 6 _ rfl, hc 7 _ rfl⟩
  rw [← hX]
  have hb01 : Below w.heap.size w w1 := below_alloc hb1
  obtain ⟨x0, x1, x2, x3, x4, x5, x6, x7⟩ := HBX.out w1 (Below.refl _ _)
  clear hb1 hX hal
  go_wp2
  go_loop [6, 7] (fun n i => ∃ k m : Nat, k ≤ keys.length ∧ k ≤ 200 ∧ m ≤ 140737488355328 + 100000 * k ∧ i = .int .i64 k ∧ n = .int .i64 m) (fun _ i => keys.length - (intOf i).toNat)
  case atStart => exact ⟨0, value.size, Nat.zero_le _, Nat.zero_le _, Nat.le_trans hv (Nat.le_add_right _ _), rfl, rfl⟩
  case round =>
    obtain ⟨k, n, hk, hk1, hmb, rfl, rfl⟩ := hrel
    by_cases hlt : k < keys.length
    · have hlt2 : (k : Int) < (keys.length : Int) := by omega
      by_cases h1 : k < 200
      · have h12 : (k : Int) < 200 := by omega
        rcases HK.out.at_ with h | ⟨bk, off, rfl, hbk, hc⟩
        · rw [h] at hlt; simp at hlt
        · have hx := (hb01.cell (p := ⟨bk, off + k, none⟩) hbk).trans (hc k hlt)
          obtain ⟨p, hpe⟩ : ∃ p, p = keys[k] := ⟨_, rfl⟩
          rw [← hpe] at hx
          obtain ⟨n', em, hn'⟩ := min1a n p.size
          have EM : Hid (((n : Int) + (if (100000 : Int) < (p.size : Int) then 100000 else (p.size : Int))) = (n' : Int)) := em
          clear em hc hpe
          go_wp2
          go_round
          case rel => exact ⟨k + 1, n', hlt, h1, bnd hmb hn', by go_num, by rw [EM.out]⟩
          case measure => simp [intOf]; omega
      · have h12 : decide ((k : Int) < 200) = false := by simp; omega
        have g1 : (100 : Int) < (keys.length : Int) := by omega
        go_wp2
        go_ret
        exact ⟨rfl, hb01⟩
    · have hlt2 : decide ((k : Int) < (keys.length : Int)) = false := by simp; omega
      by_cases g1 : (100 : Int) < (keys.length : Int)
      · go_wp2
        go_ret
        exact ⟨rfl, hb01⟩
      · have g1' : decide ((100 : Int) < (keys.length : Int)) = false := by simp; omega
        by_cases g2 : (200000 : Int) < (n : Int)
        · go_wp2
          go_ret
          exact ⟨rfl, hb01⟩
        · have g2' : decide ((200000 : Int) < (n : Int)) = false := by simp; omega
          by_cases g3 : (70000 : Int) < (b.length : Int)
          · go_wp2
            go_ret
            exact ⟨rfl, hb01⟩
          · have g3' : decide ((70000 : Int) < (b.length : Int)) = false := by simp; omega
            go_wp2_with (first
              | (go_at_call 14; (fail_if_success have hq := hmk); refine (HC1.out w1 hb01).mono ?_; rintro e w2 ⟨v2, rfl, ho2, hb2⟩; obtain ⟨po, pc, hv2, hpl, hpm, hpn, hpb⟩ := ho2.at; subst hv2; have hmk := True.intro; have hb02 := hb01.trans (hb2.mono hb01.size))
              | (go_at_call 15; (fail_if_success have hq := hmk2); refine (HO1.out w2 po pc hpb hpl hpm hpn).mono ?_; rintro e w3 ⟨xo, xc, rfl, htx, hb3⟩; have hmk2 := True.intro; have hb03 := hb02.trans (hb3.mono hb02.size); have hb13 := hb2.trans (hb3.mono hb2.size); obtain ⟨y0, y1, y2, y3, y4, y5, y6, y7⟩ := HBX.out (w3.alloc (Obj.cells #[Value.int IntKind.u8 ↑kind.toNat, Value.int IntKind.i64 tenant, Value.slice xo keys.length xc, Value.string value, Value.int IntKind.u32 ↑flags, Value.int IntKind.i64 dur, Value.int IntKind.u64 ↑unique, Value.int IntKind.u64 ↑by_] 37)) (hb13.alloc hb13.size _))
              | (go_at_call 16; refine (HSM.out (w3.alloc (Obj.cells #[Value.int IntKind.u8 ↑kind.toNat, Value.int IntKind.i64 tenant, Value.slice xo keys.length xc, Value.string value, Value.int IntKind.u32 ↑flags, Value.int IntKind.i64 dur, Value.int IntKind.u64 ↑unique, Value.int IntKind.u64 ↑by_] 37)) xo xc (hb03.alloc hb03.size _) (htx.below ((Below.refl _ _).alloc (Nat.le_refl _) _))).mono ?_; rintro e w4 ⟨rfl, hb4⟩; have hmk4 := True.intro; have hb04 := (hb03.alloc hb03.size _).trans (hb4.mono (by simp; have := hb03.size; omega)))
              | (go_at_call 15; have hq := hmk4; refine (HO2.out w4 hb04).mono ?_; rintro e w5 ⟨zo, zc, rfl, htz, hb5⟩; have hmk5 := True.intro; have hb05 := hb04.trans (hb5.mono hb04.size)))
            all_goals
              go_ret
              exact ⟨rfl, (hb05.alloc hb05.size _)⟩

set_option maxHeartbeats 2000000 in
theorem ask01 (w : World) (kind : UInt8) (tenant : Int) (keys : List ByteArray) (value : ByteArray) (flags : Nat) (dur : Int) (unique by_ : Nat) (ko : Option Addr) (kc : Nat) (HK : Hid (Tl w ko keys kc)) (hg : Cmd.Good ⟨kind, tenant, keys, value, flags, dur, unique, by_⟩) (hv : value.size ≤ 140737488355328) (a1 : Option Addr) (cap1 : Nat) (b : List UInt8) (HB : Hid (BsAt w w.heap.size a1 b ∧ b.length ≤ cap1 ∧ cap1 ≤ maxLen ∧ (a1 = none → cap1 = 0)))
    (hok : cmdOk ⟨kind, tenant, keys, value, flags, dur, unique, by_⟩ = false) (hgd : ofCmdE b = 0) :
    Calls Try.prog 4 #[.agg #[.int .u8 (kind.toNat : Int), .int .i64 tenant, .slice ko keys.length kc, .string value, .int .u32 flags, .int .i64 dur, .int .u64 unique, .int .u64 by_], .slice a1 b.length cap1] w fun e w' => e = .returned (.bool true) ∧ Below w.heap.size w w' := by
  have hkm : keys.length ≤ 9223372036854775807 := Nat.le_trans HK.out.hl HK.out.hc
  have hbm : b.length ≤ 9223372036854775807 := Nat.le_trans HB.out.2.1 HB.out.2.2.1
  have hal := fun W => alive_any W
  have hC1 := fun W (h : Below w.heap.size w W) => command_any ⟨kind, tenant, keys, value, flags, dur, unique, by_⟩ W ko kc (HK.out.below h) hg
  have eC : cmdE ⟨kind, tenant, keys, value, flags, dur, unique, by_⟩ = 8 := by unfold cmdE; exact if_neg (by rw [hok]; decide)
  have eB : cmdBB ⟨kind, tenant, keys, value, flags, dur, unique, by_⟩ = [] := by unfold cmdBB; exact if_neg (by rw [hok]; decide)
  rw [eC, eB] at hC1
  have hO2 := fun W (h : Below w.heap.size w W) => ofCommand_any W a1 b cap1 (HB.out.1.below h h.size) HB.out.2.1 HB.out.2.2.1 HB.out.2.2.2
  obtain ⟨iv1, iv2, iv3⟩ := ask_inv hgd
  have hC2 := fun W xo xc (h : Tl W xo (ofCmd b).keys xc) => command_any (ofCmd b) W xo xc h iv3
  have eC2 : cmdE (ofCmd b) = 0 := by unfold cmdE; exact if_pos iv1
  have eB2 : cmdBB (ofCmd b) = b := by unfold cmdBB; rw [if_pos iv1]; exact iv2
  rw [eC2, eB2] at hC2
  rw [hgd] at hO2
  clear eC2 eB2 iv1 iv2 iv3
  obtain ⟨c2, hc2⟩ : ∃ c2, c2 = ofCmd b := ⟨_, rfl⟩
  rw [← hc2] at hO2 hC2
  obtain ⟨kind2, tenant2, keys2, value2, flags2, dur2, unique2, by2⟩ := c2
  unfold Cmd.cells bcell at hC1 hO2  hC2
  simp only [] at hC1 hO2  hC2
  have HC1 := Hid.mk' hC1
  have HO2 := Hid.mk' hO2
  have HC2 := Hid.mk' hC2
  clear hC2
  clear hC1 hO2 hc2 hgd hok eC eB hg
  obtain ⟨X, hX⟩ : ∃ X, X = w.heap.size := ⟨_, rfl⟩
  have HXX : Hid (X = w.heap.size) := hX
  go_enter Try.func4, Try.ntmps4
  go_upto_region 4 with (go_at_call 9; refine (hal _).mono ?_; rintro e w1 ⟨rfl, hb1⟩)
  have HBX : Hid (∀ V, Below w1.heap.size w1 V → V.cell? ⟨X, 0, none⟩ = some (.int .u8 (kind.toNat : Int)) ∧ V.cell? ⟨X, 1, none⟩ = some (.int .i64 tenant) ∧ V.cell? ⟨X, 2, none⟩ = some (.slice ko keys.length kc) ∧ V.cell? ⟨X, 3, none⟩ = some (.string value) ∧ V.cell? ⟨X, 4, none⟩ = some (.int .u32 flags) ∧ V.cell? ⟨X, 5, none⟩ = some (.int .i64 dur) ∧ V.cell? ⟨X, 6, none⟩ = some (.int .u64 unique) ∧ V.cell? ⟨X, 7, none⟩ = some (.int .u64 by_)) := by
    intro V hV
    have hc := box8 hX hb1 V hV
    exact ⟨hc 0 _ rfl, hc 1 _ rfl, hc 2 _ rfl, hc 3 _ rfl, hc 4 _ rfl, hc 5 _ rfl, hc 6 _ rfl, hc 7 _ rfl⟩
  rw [← hX]
  have hb01 : Below w.heap.size w w1 := below_alloc hb1
  obtain ⟨x0, x1, x2, x3, x4, x5, x6, x7⟩ := HBX.out w1 (Below.refl _ _)
  clear hb1 hX hal
  go_wp2
  go_loop [6, 7] (fun n i => ∃ k m : Nat, k ≤ keys.length ∧ k ≤ 200 ∧ m ≤ 140737488355328 + 100000 * k ∧ i = .int .i64 k ∧ n = .int .i64 m) (fun _ i => keys.length - (intOf i).toNat)
  case atStart => exact ⟨0, value.size, Nat.zero_le _, Nat.zero_le _, Nat.le_trans hv (Nat.le_add_right _ _), rfl, rfl⟩
  case round =>
    obtain ⟨k, n, hk, hk1, hmb, rfl, rfl⟩ := hrel
    by_cases hlt : k < keys.length
    · have hlt2 : (k : Int) < (keys.length : Int) := by omega
      by_cases h1 : k < 200
      · have h12 : (k : Int) < 200 := by omega
        rcases HK.out.at_ with h | ⟨bk, off, rfl, hbk, hc⟩
        · rw [h] at hlt; simp at hlt
        · have hx := (hb01.cell (p := ⟨bk, off + k, none⟩) hbk).trans (hc k hlt)
          obtain ⟨p, hpe⟩ : ∃ p, p = keys[k] := ⟨_, rfl⟩
          rw [← hpe] at hx
          obtain ⟨n', em, hn'⟩ := min1a n p.size
          have EM : Hid (((n : Int) + (if (100000 : Int) < (p.size : Int) then 100000 else (p.size : Int))) = (n' : Int)) := em
          clear em hc hpe
          go_wp2
          go_round
          case rel => exact ⟨k + 1, n', hlt, h1, bnd hmb hn', by go_num, by rw [EM.out]⟩
          case measure => simp [intOf]; omega
      · have h12 : decide ((k : Int) < 200) = false := by simp; omega
        have g1 : (100 : Int) < (keys.length : Int) := by omega
        go_wp2
        go_ret
        exact ⟨rfl, hb01⟩
    · have hlt2 : decide ((k : Int) < (keys.length : Int)) = false := by simp; omega
      by_cases g1 : (100 : Int) < (keys.length : Int)
      · go_wp2
        go_ret
        exact ⟨rfl, hb01⟩
      · have g1' : decide ((100 : Int) < (keys.length : Int)) = false := by simp; omega
        by_cases g2 : (200000 : Int) < (n : Int)
        · go_wp2
          go_ret
          exact ⟨rfl, hb01⟩
        · have g2' : decide ((200000 : Int) < (n : Int)) = false := by simp; omega
          by_cases g3 : (70000 : Int) < (b.length : Int)
          · go_wp2
            go_ret
            exact ⟨rfl, hb01⟩
          · have g3' : decide ((70000 : Int) < (b.length : Int)) = false := by simp; omega
            go_wp2_with (first
              | (go_at_call 14; (fail_if_success have hq := hmk); refine (HC1.out w1 hb01).mono ?_; rintro e w2 ⟨v2, rfl, ho2, hb2⟩; have hmk := True.intro; have hb02 := hb01.trans (hb2.mono hb01.size))
              | (go_at_call 15; refine (HO2.out w2 hb02).mono ?_; rintro e w5 ⟨zo, zc, rfl, htz, hb5⟩; have hmk5 := True.intro; have hb05 := hb02.trans (hb5.mono hb02.size))
              | (go_at_call 14; have hq := hmk5; refine (HC2.out (w5.alloc (Obj.cells #[Value.int IntKind.u8 ↑kind2.toNat, Value.int IntKind.i64 tenant2, Value.slice zo keys2.length zc, Value.string value2, Value.int IntKind.u32 ↑flags2, Value.int IntKind.i64 dur2, Value.int IntKind.u64 ↑unique2, Value.int IntKind.u64 ↑by2] 37)) zo zc (htz.below ((Below.refl _ _).alloc (Nat.le_refl _) _))).mono ?_; rintro e w6 ⟨v6, rfl, ho6, hb6⟩; have hb06 := (hb05.alloc hb05.size _).trans (hb6.mono (by simp; have := hb05.size; omega)); have q1 := ho6.conv w6 (Below.refl _ _); have q2 := conv_bytes w6 w6.heap.size a1 b cap1 (HB.out.1.below hb06 hb06.size)))
            all_goals
              go_ret
              exact ⟨rfl, hb06⟩

set_option maxHeartbeats 2000000 in
theorem ask00 (w : World) (kind : UInt8) (tenant : Int) (keys : List ByteArray) (value : ByteArray) (flags : Nat) (dur : Int) (unique by_ : Nat) (ko : Option Addr) (kc : Nat) (HK : Hid (Tl w ko keys kc)) (hg : Cmd.Good ⟨kind, tenant, keys, value, flags, dur, unique, by_⟩) (hv : value.size ≤ 140737488355328) (a1 : Option Addr) (cap1 : Nat) (b : List UInt8) (HB : Hid (BsAt w w.heap.size a1 b ∧ b.length ≤ cap1 ∧ cap1 ≤ maxLen ∧ (a1 = none → cap1 = 0)))
    (hok : cmdOk ⟨kind, tenant, keys, value, flags, dur, unique, by_⟩ = false) (hgd : ¬ ofCmdE b = 0) :
    Calls Try.prog 4 #[.agg #[.int .u8 (kind.toNat : Int), .int .i64 tenant, .slice ko keys.length kc, .string value, .int .u32 flags, .int .i64 dur, .int .u64 unique, .int .u64 by_], .slice a1 b.length cap1] w fun e w' => e = .returned (.bool true) ∧ Below w.heap.size w w' := by
  have hkm : keys.length ≤ 9223372036854775807 := Nat.le_trans HK.out.hl HK.out.hc
  have hbm : b.length ≤ 9223372036854775807 := Nat.le_trans HB.out.2.1 HB.out.2.2.1
  have hal := fun W => alive_any W
  have hC1 := fun W (h : Below w.heap.size w W) => command_any ⟨kind, tenant, keys, value, flags, dur, unique, by_⟩ W ko kc (HK.out.below h) hg
  have eC : cmdE ⟨kind, tenant, keys, value, flags, dur, unique, by_⟩ = 8 := by unfold cmdE; exact if_neg (by rw [hok]; decide)
  have eB : cmdBB ⟨kind, tenant, keys, value, flags, dur, unique, by_⟩ = [] := by unfold cmdBB; exact if_neg (by rw [hok]; decide)
  rw [eC, eB] at hC1
  have hO2 := fun W (h : Below w.heap.size w W) => ofCommand_any W a1 b cap1 (HB.out.1.below h h.size) HB.out.2.1 HB.out.2.2.1 HB.out.2.2.2
  have eE : ofCmdE b = 8 := by
    cases hh : cmdRead b with
    | true => exact absurd (ofCmdE_pos hh) hgd
    | false => unfold ofCmdE; exact if_neg (by rw [hh]; decide)
  rw [eE] at hO2
  obtain ⟨c2, hc2⟩ : ∃ c2, c2 = ofCmd b := ⟨_, rfl⟩
  rw [← hc2] at hO2 
  obtain ⟨kind2, tenant2, keys2, value2, flags2, dur2, unique2, by2⟩ := c2
  unfold Cmd.cells bcell at hC1 hO2  
  simp only [] at hC1 hO2  
  have HC1 := Hid.mk' hC1
  have HO2 := Hid.mk' hO2
  clear hC1 hO2 hc2 hgd hok eC eB hg
  obtain ⟨X, hX⟩ : ∃ X, X = w.heap.size := ⟨_, rfl⟩
  have HXX : Hid (X = w.heap.size) := hX
  go_enter Try.func4, Try.ntmps4
  go_upto_region 4 with (go_at_call 9; refine (hal _).mono ?_; rintro e w1 ⟨rfl, hb1⟩)
  have HBX : Hid (∀ V, Below w1.heap.size w1 V → V.cell? ⟨X, 0, none⟩ = some (.int .u8 (kind.toNat : Int)) ∧ V.cell? ⟨X, 1, none⟩ = some (.int .i64 tenant) ∧ V.cell? ⟨X, 2, none⟩ = some (.slice ko keys.length kc) ∧ V.cell? ⟨X, 3, none⟩ = some (.string value) ∧ V.cell? ⟨X, 4, none⟩ = some (.int .u32 flags) ∧ V.cell? ⟨X, 5, none⟩ = some (.int .i64 dur) ∧ V.cell? ⟨X, 6, none⟩ = some (.int .u64 unique) ∧ V.cell? ⟨X, 7, none⟩ = some (.int .u64 by_)) := by
    intro V hV
    have hc := box8 hX hb1 V hV
    exact ⟨hc 0 _ rfl, hc 1 _ rfl, hc 2 _ rfl, hc 3 _ rfl, hc 4 _ rfl, hc 5 _ rfl, hc 6 _ rfl, hc 7 _ rfl⟩
  rw [← hX]
  have hb01 : Below w.heap.size w w1 := below_alloc hb1
  obtain ⟨x0, x1, x2, x3, x4, x5, x6, x7⟩ := HBX.out w1 (Below.refl _ _)
  clear hb1 hX hal
  go_wp2
  go_loop [6, 7] (fun n i => ∃ k m : Nat, k ≤ keys.length ∧ k ≤ 200 ∧ m ≤ 140737488355328 + 100000 * k ∧ i = .int .i64 k ∧ n = .int .i64 m) (fun _ i => keys.length - (intOf i).toNat)
  case atStart => exact ⟨0, value.size, Nat.zero_le _, Nat.zero_le _, Nat.le_trans hv (Nat.le_add_right _ _), rfl, rfl⟩
  case round =>
    obtain ⟨k, n, hk, hk1, hmb, rfl, rfl⟩ := hrel
    by_cases hlt : k < keys.length
    · have hlt2 : (k : Int) < (keys.length : Int) := by omega
      by_cases h1 : k < 200
      · have h12 : (k : Int) < 200 := by omega
        rcases HK.out.at_ with h | ⟨bk, off, rfl, hbk, hc⟩
        · rw [h] at hlt; simp at hlt
        · have hx := (hb01.cell (p := ⟨bk, off + k, none⟩) hbk).trans (hc k hlt)
          obtain ⟨p, hpe⟩ : ∃ p, p = keys[k] := ⟨_, rfl⟩
          rw [← hpe] at hx
          obtain ⟨n', em, hn'⟩ := min1a n p.size
          have EM : Hid (((n : Int) + (if (100000 : Int) < (p.size : Int) then 100000 else (p.size : Int))) = (n' : Int)) := em
          clear em hc hpe
          go_wp2
          go_round
          case rel => exact ⟨k + 1, n', hlt, h1, bnd hmb hn', by go_num, by rw [EM.out]⟩
          case measure => simp [intOf]; omega
      · have h12 : decide ((k : Int) < 200) = false := by simp; omega
        have g1 : (100 : Int) < (keys.length : Int) := by omega
        go_wp2
        go_ret
        exact ⟨rfl, hb01⟩
    · have hlt2 : decide ((k : Int) < (keys.length : Int)) = false := by simp; omega
      by_cases g1 : (100 : Int) < (keys.length : Int)
      · go_wp2
        go_ret
        exact ⟨rfl, hb01⟩
      · have g1' : decide ((100 : Int) < (keys.length : Int)) = false := by simp; omega
        by_cases g2 : (200000 : Int) < (n : Int)
        · go_wp2
          go_ret
          exact ⟨rfl, hb01⟩
        · have g2' : decide ((200000 : Int) < (n : Int)) = false := by simp; omega
          by_cases g3 : (70000 : Int) < (b.length : Int)
          · go_wp2
            go_ret
            exact ⟨rfl, hb01⟩
          · have g3' : decide ((70000 : Int) < (b.length : Int)) = false := by simp; omega
            go_wp2_with (first
              | (go_at_call 14; (fail_if_success have hq := hmk); refine (HC1.out w1 hb01).mono ?_; rintro e w2 ⟨v2, rfl, ho2, hb2⟩; have hmk := True.intro; have hb02 := hb01.trans (hb2.mono hb01.size))
              | (go_at_call 15; refine (HO2.out w2 hb02).mono ?_; rintro e w5 ⟨zo, zc, rfl, htz, hb5⟩; have hmk5 := True.intro; have hb05 := hb02.trans (hb5.mono hb02.size)))
            all_goals
              go_ret
              exact ⟨rfl, (hb05.alloc hb05.size _)⟩

theorem codeAsk_walk (w : World) (v : Value) (c : Cmd) (hi0 : InCommand w v c) (a1 : Option Addr) (len1 cap1 : Nat) (b : List UInt8) (hi1 : InBytes w a1 len1 cap1 b) :
    Calls Try.prog 4 #[v, .slice a1 len1 cap1] w fun e w' => e = .returned (.bool true) ∧ Below w.heap.size w w' := by
  obtain ⟨ko, kc, rfl, hk, hg, hv⟩ := hi0
  obtain ⟨rfl, h1, h2, h3, h4⟩ := hi1
  obtain ⟨kind, tenant, keys, value, flags, dur, unique, by_⟩ := c
  unfold Cmd.cells bcell
  simp only [] at hk hv ⊢
  by_cases hok : cmdOk ⟨kind, tenant, keys, value, flags, dur, unique, by_⟩ = true
  · by_cases hgd : ofCmdE b = 0
    · exact ask11 w kind tenant keys value flags dur unique by_ ko kc hk hg hv a1 cap1 b ⟨h4, h1, h2, h3⟩ hok hgd
    · exact ask10 w kind tenant keys value flags dur unique by_ ko kc hk hg hv a1 cap1 b ⟨h4, h1, h2, h3⟩ hok hgd
  · have hok' : cmdOk ⟨kind, tenant, keys, value, flags, dur, unique, by_⟩ = false := by simpa using hok
    by_cases hgd : ofCmdE b = 0
    · exact ask01 w kind tenant keys value flags dur unique by_ ko kc hk hg hv a1 cap1 b ⟨h4, h1, h2, h3⟩ hok' hgd
    · exact ask00 w kind tenant keys value flags dur unique by_ ko kc hk hg hv a1 cap1 b ⟨h4, h1, h2, h3⟩ hok' hgd

set_option maxRecDepth 100000 in
theorem codeAsk_lifted (os : Os) (started : os.Started) (H : Type) (enc : TypeId × Value → H) :
    ReturnsInHanded {} Try.checked os 4 .any (Rows.codeAskSpec.pre6 enc Try.prog Try.f4 Rows.codeAskRow.domain false) (Rows.codeAskSpec.post enc Try.prog Try.f4 false true false false) := by
  refine returnsInHanded_of_change_sized (C := Try.checked) (by kernel_rfl) started (by kernel_rfl) Try.func4
    (ChangeSpec.witness6 (enc := enc) (C := Try.checked) false ⟨#[], #[.agg #[.int .u8 0, .int .i64 0, .slice none 0 0, .string ⟨#[]⟩, .int .u32 0, .int .i64 0, .int .u64 0, .int .u64 0], .slice none 0 0], []⟩ 8 (by kernel_rfl) (by kernel_rfl) (by kernel_rfl) (by kernel_rfl)) ?_
  intro W base args ds gs before hval0 hW hcnd hsz0 _
  have hval : ∀ (j : Nat) t v, Try.f4.params[j]? = some t → args[j]? = some v → Value.okWide Try.prog W .any base t v := hval0
  have hW' := hW
  obtain ⟨p, q, hA0, hV, rfl, hfz, hnd⟩ := hW
  have hA : DataW.TrodAll enc Try.prog W 0 (fun _ => true) true Try.f4.params.toList args.toList ds p := hA0
  rw [Try.params4] at hA hval
  have hsz : (DataW.weightsEach Try.prog (Try.f4.params.toList ++ Rows.codeAskSpec.plain.varTypes Try.prog) (ds ++ gs)).all (· ≤ reachBytes) = true := hsz0
  rw [Try.params4] at hsz
  clear hsz0
  obtain ⟨v0, vs0, d0, ds0, p0, q0, hargs, rfl, rfl, h0, r0⟩ := trodAll_cons hA
  obtain ⟨v1, vs1, d1, ds1, p1, q1, rfl, rfl, rfl, h1, r1⟩ := trodAll_cons r0
  obtain ⟨rfl, rfl, rfl⟩ := trodAll_nil r1
  obtain rfl : args = #[v0, v1] := by cases args; simp_all
  obtain ⟨rfl, rfl⟩ := trodVars_none hV
  have k0 := h0
  have lt0 : ∀ x ∈ p0, x.block < W.heap.size := by obtain ⟨m, hm⟩ := k0; exact DataW.trod_lt m _ _ _ hm
  obtain ⟨c0, w0⟩ := inCommand_of (fun _ => rfl) (hval 0 37 v0 rfl rfl) h0 (fun n hn => of_decide_eq_true (List.all_eq_true.1 hsz n (by simp [DataW.weightsEach, hn])))
  have k1 := h1
  have lt1 : ∀ x ∈ p1, x.block < W.heap.size := by obtain ⟨m, hm⟩ := k1; exact DataW.trod_lt m _ _ _ hm
  obtain ⟨a1, len1, cap1, rfl⟩ := okWide_slice Try.underlying23 (hval 1 23 v1 rfl rfl)
  obtain ⟨l1, w1⟩ := inBytes_of (fun _ => rfl) h1
  clear hA0 hval0
  refine (codeAsk_walk W v0 c0 w0 a1 len1 cap1 l1 w1).mono fun e W' ⟨he, bel⟩ => ?_
  subst he
  exact ⟨_, rfl, _, _, _, [], _, [], hW', trodAll_mk1 (shut_bool Try.underlying4 _), (trodAll_cons_mk (Below.trod laidOut_all (by kernel_rfl) (of_decide_eq_true (by kernel_rfl)) k0 bel lt0) (trodAll_cons_mk (Below.trod laidOut_all (by kernel_rfl) (of_decide_eq_true (by kernel_rfl)) k1 bel lt1) trodAll_mk0)), rfl, bel.frame _, fun h => by cases h⟩

theorem codeAsk_proved : Rows.CodeAskSaid :=
  OpenClaim.holds_of_wide 4 Try.f4 rfl rfl rfl rfl rfl rfl rfl ⟨rfl, rfl, rfl, rfl, rfl⟩ rfl rfl rfl rfl rfl (by kernel_rfl) Try.func4 (by kernel_rfl)
    (of_decide_eq_true (by kernel_rfl)) (by unfold Func.isWrapper; first | (rw [if_pos (by decide +kernel)]; kernel_rfl) | (rw [if_neg (by decide +kernel)]; exact ⟨rfl, rfl⟩))
    (fun os started H enc _ => codeAsk_lifted os started H enc)
#print axioms codeAsk_proved
end Go.Proofs.Ytgfhjkphdmkmoab
