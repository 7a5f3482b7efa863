/-
  CodeCommands is true for every command and all bytes: the code answers as the document; no condition (written by tools/gencmds.py).
-/
import Derived.Test.YtgfhjkphdmkmoaaCmd7
import Derived.Test.YtgfhjkphdmkmoaaRCmd5
namespace Go.Proofs.Ytgfhjkphdmkmoaa
open Go.ChangeShapes Go.WideShapes Go.ChangeAt Go.RowKit
open Go.ChangeMaps (open_string shut_string)
set_option linter.unusedSimpArgs false
set_option linter.unusedVariables false
set_option maxRecDepth 100000

theorem Hid.mk' {p : Prop} (h : p) : Hid p := h
theorem min1a (m a : Nat) : ∃ m' : Nat, ((m : Int) + (if (100000 : Int) < (a : Int) then 100000 else (a : Int))) = (m' : Int) ∧ m' ≤ m + 100000 := by
  refine ⟨((m : Int) + (if (100000 : Int) < (a : Int) then 100000 else (a : Int))).toNat, ?_, ?_⟩ <;> (split <;> omega)
theorem bnd {n n' k M : Nat} (h : n ≤ M + 100000 * k) (h' : n' ≤ n + 100000) : n' ≤ M + 100000 * (k + 1) := by
  rw [Nat.mul_add, Nat.mul_one, ← Nat.add_assoc]
  exact Nat.le_trans h' (Nat.add_le_add_right h _)
theorem box8 {w W : World} {X : Nat} {cs : Array Value} {t : TypeId} (hX : X = w.heap.size) (hW : Below (w.alloc (.cells cs t)).heap.size (w.alloc (.cells cs t)) W) : ∀ V, Below W.heap.size W V → ∀ j v, cs[j]? = some v → V.cell? ⟨X, j, none⟩ = some v := by
  intro V hV j v hv
  have h := hW.trans (hV.mono hW.size)
  rw [hX]
  refine (h.cell (p := ⟨w.heap.size, j, none⟩) (by simp)).trans ?_
  rw [World.cell?_alloc_at _ _ _ _ rfl]
  exact hv

theorem refCommand_any (c : Cmd) (w : World) (ko : Option Addr) (kc : Nat) (hk : Tl w ko c.keys kc) (hg : c.Good) :
    Calls Try.prog 30 #[.agg (c.cells (.slice ko c.keys.length kc)).toArray] w fun e w' => ∃ v', e = .returned (.tuple #[v', .int .i64 (cmdE c)]) ∧ Own w' w.heap.size v' (cmdBB c) ∧ Below w.heap.size w w' := by
  by_cases hok : cmdOk c = true
  · have e1 : cmdE c = 0 := by unfold cmdE; rw [if_pos hok]
    have e2 : cmdBB c = cmdB c := by unfold cmdBB; rw [if_pos hok]
    rw [e1, e2]
    exact refCommand_good c w ko kc hk hok hg
  · have e1 : cmdE c = 8 := by unfold cmdE; rw [if_neg hok]
    have e2 : cmdBB c = [] := by unfold cmdBB; rw [if_neg hok]
    rw [e1, e2]
    refine (refCommand_bad c w ko kc hk (by simpa using hok)).mono ?_
    rintro e w' ⟨rfl, hb⟩
    exact ⟨_, rfl, Own.nil _ _, hb⟩
/-- a block's cells later on -/
theorem late {w W : World} {X : Nat} {cs : Array Value} {t : TypeId} (hX : X = w.heap.size) (hW : Below (w.alloc (.cells cs t)).heap.size (w.alloc (.cells cs t)) W) : ∀ j v, cs[j]? = some v → W.cell? ⟨X, j, none⟩ = some v ∧ ∀ o, (W.alloc o).cell? ⟨X, j, none⟩ = some v := by
  intro j v hv
  have h := box8 hX hW W (Below.refl _ _) j v hv
  have hs := hW.size
  refine ⟨h, fun o => (World.cell?_alloc_past o _ _ ?_).trans h⟩
  simp at hs
  show X < _
  omega

set_option maxHeartbeats 2000000 in
theorem commands_all (w : World) (kind : UInt8) (tenant : Int) (keys : List ByteArray) (value : ByteArray) (flags : Nat) (dur : Int) (unique by_ : Nat) (ko : Option Addr) (kc : Nat) (HK : Hid (Tl w ko keys kc)) (hg : Cmd.Good ⟨kind, tenant, keys, value, flags, dur, unique, by_⟩) (hv : value.size ≤ 140737488355328) (a1 : Option Addr) (cap1 : Nat) (b : List UInt8) (HB : Hid (BsAt w w.heap.size a1 b ∧ b.length ≤ cap1 ∧ cap1 ≤ maxLen ∧ (a1 = none → cap1 = 0))) :
    Calls Try.prog 7 #[.agg #[.int .u8 (kind.toNat : Int), .int .i64 tenant, .slice ko keys.length kc, .string value, .int .u32 flags, .int .i64 dur, .int .u64 unique, .int .u64 by_], .slice a1 b.length cap1] w fun e w' => e = .returned (.bool true) ∧ Below w.heap.size w w' := by
  have hkm : keys.length ≤ 9223372036854775807 := Nat.le_trans HK.out.hl HK.out.hc
  have hbm : b.length ≤ 9223372036854775807 := Nat.le_trans HB.out.2.1 HB.out.2.2.1
  have hC1 := fun W (h : Below w.heap.size w W) => command_any ⟨kind, tenant, keys, value, flags, dur, unique, by_⟩ W ko kc (HK.out.below h) hg
  have hC2 := fun W (h : Below w.heap.size w W) => refCommand_any ⟨kind, tenant, keys, value, flags, dur, unique, by_⟩ W ko kc (HK.out.below h) hg
  obtain ⟨EE, hEE⟩ : ∃ EE, EE = cmdE ⟨kind, tenant, keys, value, flags, dur, unique, by_⟩ := ⟨_, rfl⟩
  obtain ⟨L, hL⟩ : ∃ L, L = cmdBB ⟨kind, tenant, keys, value, flags, dur, unique, by_⟩ := ⟨_, rfl⟩
  rw [← hEE, ← hL] at hC1 hC2
  have hO1 := fun W ao cap (h1 : BsAt W W.heap.size ao b) (h2 : b.length ≤ cap) (h3 : cap ≤ maxLen) (h4 : ao = none → cap = 0) => ofCommand_any W ao b cap h1 h2 h3 h4
  have hO2 := fun W (h : Below w.heap.size w W) => refOfCommand_any W a1 b cap1 (HB.out.1.below h h.size) HB.out.2.1 HB.out.2.2.1 HB.out.2.2.2
  obtain ⟨E2, hE2⟩ : ∃ E2, E2 = ofCmdE b := ⟨_, rfl⟩
  obtain ⟨c2, hc2⟩ : ∃ c2, c2 = ofCmd b := ⟨_, rfl⟩
  rw [← hE2, ← hc2] at hO1 hO2
  clear hEE hL hE2 hc2 hg
  obtain ⟨kind2, tenant2, keys2, value2, flags2, dur2, unique2, by2⟩ := c2
  have hSM := fun W xo zo xc zc (h1 : Tl W xo keys2 xc) (h2 : Tl W zo keys2 zc) => sameCommand_any ⟨kind2, tenant2, keys2, value2, flags2, dur2, unique2, by2⟩ W xo zo xc zc h1 h2
  unfold Cmd.cells bcell at hC1 hC2 hO1 hO2 hSM
  simp only [] at hC1 hC2 hO1 hO2 hSM
  have HC1 := Hid.mk' hC1
  have HC2 := Hid.mk' hC2
  have HO1 := Hid.mk' hO1
  have HO2 := Hid.mk' hO2
  have HSM := Hid.mk' hSM
  clear hC1 hC2 hO1 hO2 hSM
  obtain ⟨X, hX⟩ : ∃ X, X = w.heap.size := ⟨_, rfl⟩
  have HXX : Hid (X = w.heap.size) := hX
  go_enter Try.func7, Try.ntmps7
  go_upto_region 1 with fail
  obtain ⟨w1, hw1⟩ : ∃ w1, w1 = w.alloc (Obj.cells #[.int .u8 (kind.toNat : Int), .int .i64 tenant, .slice ko keys.length kc, .string value, .int .u32 flags, .int .i64 dur, .int .u64 unique, .int .u64 by_] 36) := ⟨_, rfl⟩
  have HBX : Hid (∀ V, Below w1.heap.size w1 V → V.cell? ⟨X, 0, none⟩ = some (.int .u8 (kind.toNat : Int)) ∧ V.cell? ⟨X, 1, none⟩ = some (.int .i64 tenant) ∧ V.cell? ⟨X, 2, none⟩ = some (.slice ko keys.length kc) ∧ V.cell? ⟨X, 3, none⟩ = some (.string value) ∧ V.cell? ⟨X, 4, none⟩ = some (.int .u32 flags) ∧ V.cell? ⟨X, 5, none⟩ = some (.int .i64 dur) ∧ V.cell? ⟨X, 6, none⟩ = some (.int .u64 unique) ∧ V.cell? ⟨X, 7, none⟩ = some (.int .u64 by_)) := by
    intro V hV
    have hb1 : Below (w.alloc (Obj.cells #[.int .u8 (kind.toNat : Int), .int .i64 tenant, .slice ko keys.length kc, .string value, .int .u32 flags, .int .i64 dur, .int .u64 unique, .int .u64 by_] 36)).heap.size (w.alloc (Obj.cells #[.int .u8 (kind.toNat : Int), .int .i64 tenant, .slice ko keys.length kc, .string value, .int .u32 flags, .int .i64 dur, .int .u64 unique, .int .u64 by_] 36)) w1 := by rw [hw1]; exact Below.refl _ _
    have hc := box8 hX hb1 V hV
    exact ⟨hc 0 _ rfl, hc 1 _ rfl, hc 2 _ rfl, hc 3 _ rfl, hc 4 _ rfl, hc 5 _ rfl, hc 6 _ rfl, hc 7 _ rfl⟩
  have hb01 : Below w.heap.size w w1 := by rw [hw1]; exact alb _ _
  rw [← hw1, ← hX]
  clear hw1 hX
  obtain ⟨x0, x1, x2, x3, x4, x5, x6, x7⟩ := HBX.out w1 (Below.refl _ _)
  go_wp2
  go_loop [5, 6] (fun n i => ∃ k m : Nat, k ≤ keys.length ∧ k ≤ 200 ∧ m ≤ 140737488355328 + 100000 * k ∧ i = .int .i64 k ∧ n = .int .i64 m) (fun _ i => keys.length - (intOf i).toNat)
  case atStart => exact ⟨0, value.size, Nat.zero_le _, Nat.zero_le _, Nat.le_trans hv (Nat.le_add_right _ _), rfl, rfl⟩
  case round =>
    obtain ⟨k, n, hk, hk1, hmb, rfl, rfl⟩ := hrel
    by_cases hlt : k < keys.length
    · have hlt2 : (k : Int) < (keys.length : Int) := by omega
      by_cases h1 : k < 200
      · have h12 : (k : Int) < 200 := by omega
        rcases HK.out.at_ with h | ⟨bk, off, rfl, hbk, hc⟩
        · rw [h] at hlt; simp at hlt
        · have hx := (hb01.cell (p := ⟨bk, off + k, none⟩) hbk).trans (hc k hlt)
          obtain ⟨p, hpe⟩ : ∃ p, p = keys[k] := ⟨_, rfl⟩
          rw [← hpe] at hx
          obtain ⟨n', em, hn'⟩ := min1a n p.size
          have EM : Hid (((n : Int) + (if (100000 : Int) < (p.size : Int) then 100000 else (p.size : Int))) = (n' : Int)) := em
          clear em hc hpe
          go_wp2
          go_round
          case rel => exact ⟨k + 1, n', hlt, h1, bnd hmb hn', by go_num, by rw [EM.out]⟩
          case measure => simp [intOf]; omega
      · have h12 : decide ((k : Int) < 200) = false := by simp; omega
        have g1 : (100 : Int) < (keys.length : Int) := by omega
        go_wp2
        go_ret
        exact ⟨rfl, hb01⟩
    · have hlt2 : decide ((k : Int) < (keys.length : Int)) = false := by simp; omega
      by_cases g1 : (100 : Int) < (keys.length : Int)
      · go_wp2
        go_ret
        exact ⟨rfl, hb01⟩
      · have g1' : decide ((100 : Int) < (keys.length : Int)) = false := by simp; omega
        by_cases g2 : (200000 : Int) < (n : Int)
        · go_wp2
          go_ret
          exact ⟨rfl, hb01⟩
        · have g2' : decide ((200000 : Int) < (n : Int)) = false := by simp; omega
          by_cases g3 : (100000 : Int) < (b.length : Int)
          · go_wp2
            go_ret
            exact ⟨rfl, hb01⟩
          · have g3' : decide ((100000 : Int) < (b.length : Int)) = false := by simp; omega
            have hbl : ([] : List UInt8).length + b.length ≤ 140737488355328 := by simp; omega
            go_wp2_with (first
              | (at_builtin; refine app_bytes rfl (.const (.slice none 0 0)) (.tmp 52) rfl w1.heap.size _ [] (Own.nil _ _) rfl a1 cap1 b _ rfl rfl w1.heap.size HB.out.2.2.2 (HB.out.1.below hb01 hb01.size) hbl (Nat.le_refl _) ?_; intro v2 w2 ho2 hg2; rw [List.nil_append] at ho2; have hb2 := hg2.below_nil; obtain ⟨io, ic, hv2, hil, him, hin, hib⟩ := ho2.at; subst hv2; have hb02 := hb01.trans (hb2.mono hb01.size); obtain ⟨y0, y1, y2, y3, y4, y5, y6, y7⟩ := HBX.out w2 hb2)
              | (go_at_call 12; refine (HC1.out w2 hb02).mono ?_; rintro e w3 ⟨v3, rfl, ho3, hb3⟩; have hb13 := hb2.trans (hb3.mono hb2.size); have hb03 := hb01.trans (hb13.mono hb01.size); obtain ⟨z0, z1, z2, z3, z4, z5, z6, z7⟩ := HBX.out w3 hb13)
              | (go_at_call 30; refine (HC2.out w3 hb03).mono ?_; rintro e w4 ⟨v4, rfl, ho4, hb4⟩; have hb24 := hb3.trans (hb4.mono hb3.size); have hb04 := hb03.trans (hb4.mono hb03.size))
              | (go_at_call 15; refine (HO1.out w4 io ic (hib.below hb24 hb24.size) hil him hin).mono ?_; rintro e w5 ⟨xo, xc, rfl, htx, hb5⟩; have hb25 := (hb24.trans (hb5.mono hb24.size)).alloc (o := (Obj.cells #[.int .u8 (kind2.toNat : Int), .int .i64 tenant2, .slice xo keys2.length xc, .string value2, .int .u32 flags2, .int .i64 dur2, .int .u64 unique2, .int .u64 by2] 36)) (hb24.trans (hb5.mono hb24.size)).size; have hb35 := (hb4.trans (hb5.mono hb4.size)).alloc (o := (Obj.cells #[.int .u8 (kind2.toNat : Int), .int .i64 tenant2, .slice xo keys2.length xc, .string value2, .int .u32 flags2, .int .i64 dur2, .int .u64 unique2, .int .u64 by2] 36)) (hb4.trans (hb5.mono hb4.size)).size; have hb45 := hb5.alloc (o := (Obj.cells #[.int .u8 (kind2.toNat : Int), .int .i64 tenant2, .slice xo keys2.length xc, .string value2, .int .u32 flags2, .int .i64 dur2, .int .u64 unique2, .int .u64 by2] 36)) hb5.size; have hb05 := hb04.trans (hb45.mono hb04.size))
              | (go_at_call 31; refine (HO2.out (w5.alloc (Obj.cells #[.int .u8 (kind2.toNat : Int), .int .i64 tenant2, .slice xo keys2.length xc, .string value2, .int .u32 flags2, .int .i64 dur2, .int .u64 unique2, .int .u64 by2] 36)) hb05).mono ?_; rintro e w6 ⟨zo, zc, rfl, htz, hb6⟩; obtain ⟨u0, t0⟩ := late (X := w5.heap.size) rfl hb6 0 _ rfl; obtain ⟨u1, t1⟩ := late (X := w5.heap.size) rfl hb6 1 _ rfl; obtain ⟨u2, t2⟩ := late (X := w5.heap.size) rfl hb6 2 _ rfl; obtain ⟨u3, t3⟩ := late (X := w5.heap.size) rfl hb6 3 _ rfl; obtain ⟨u4, t4⟩ := late (X := w5.heap.size) rfl hb6 4 _ rfl; obtain ⟨u5, t5⟩ := late (X := w5.heap.size) rfl hb6 5 _ rfl; obtain ⟨u6, t6⟩ := late (X := w5.heap.size) rfl hb6 6 _ rfl; obtain ⟨u7, t7⟩ := late (X := w5.heap.size) rfl hb6 7 _ rfl; have h26 := (hb25.trans (hb6.mono hb25.size)).alloc (o := (Obj.cells #[.int .u8 (kind2.toNat : Int), .int .i64 tenant2, .slice zo keys2.length zc, .string value2, .int .u32 flags2, .int .i64 dur2, .int .u64 unique2, .int .u64 by2] 36)) (hb25.trans (hb6.mono hb25.size)).size; have h36 := (hb35.trans (hb6.mono hb35.size)).alloc (o := (Obj.cells #[.int .u8 (kind2.toNat : Int), .int .i64 tenant2, .slice zo keys2.length zc, .string value2, .int .u32 flags2, .int .i64 dur2, .int .u64 unique2, .int .u64 by2] 36)) (hb35.trans (hb6.mono hb35.size)).size; have h46 := (hb45.trans (hb6.mono hb45.size)).alloc (o := (Obj.cells #[.int .u8 (kind2.toNat : Int), .int .i64 tenant2, .slice zo keys2.length zc, .string value2, .int .u32 flags2, .int .i64 dur2, .int .u64 unique2, .int .u64 by2] 36)) (hb45.trans (hb6.mono hb45.size)).size; have h06 := hb04.trans (h46.mono hb04.size); have q1 := ho3.conv _ h36; have q2 := ho4.conv _ h46; have hlt56 := hb6.size)
              | (go_at_call 32; refine (HSM.out (w6.alloc (Obj.cells #[.int .u8 (kind2.toNat : Int), .int .i64 tenant2, .slice zo keys2.length zc, .string value2, .int .u32 flags2, .int .i64 dur2, .int .u64 unique2, .int .u64 by2] 36)) xo zo xc zc ((htx.below (alb _ _)).below (hb6.trans ((alb _ _).mono hb6.size))) (htz.below (alb _ _))).mono ?_; rintro e w8 ⟨rfl, hb8⟩; have h28 := h26.trans (hb8.mono h26.size); have h08 := h06.trans (hb8.mono h06.size); have q3 := ho2.conv w8 h28; have q4 := conv_bytes w8 w8.heap.size a1 b cap1 (HB.out.1.below h08 h08.size)))
            all_goals
              go_ret
              exact ⟨rfl, h08⟩

theorem codeCommands_walk (w : World) (v : Value) (c : Cmd) (hi0 : InCommand w v c) (a1 : Option Addr) (len1 cap1 : Nat) (b : List UInt8) (hi1 : InBytes w a1 len1 cap1 b) :
    Calls Try.prog 7 #[v, .slice a1 len1 cap1] w fun e w' => e = .returned (.bool true) ∧ Below w.heap.size w w' := by
  obtain ⟨ko, kc, rfl, hk, hg, hv⟩ := hi0
  obtain ⟨rfl, h1, h2, h3, h4⟩ := hi1
  obtain ⟨kind, tenant, keys, value, flags, dur, unique, by_⟩ := c
  unfold Cmd.cells bcell
  simp only [] at hk hv ⊢
  exact commands_all w kind tenant keys value flags dur unique by_ ko kc hk hg hv a1 cap1 b ⟨h4, h1, h2, h3⟩

set_option maxRecDepth 100000 in
theorem codeCommands_lifted (os : Os) (started : os.Started) (H : Type) (enc : TypeId × Value → H) :
    ReturnsInHanded {} Try.checked os 7 .any (Rows.codeCommandsSpec.pre6 enc Try.prog Try.f7 Rows.codeCommandsRow.domain false) (Rows.codeCommandsSpec.post enc Try.prog Try.f7 false true false false) := by
  refine returnsInHanded_of_change_sized (C := Try.checked) (by kernel_rfl) started (by kernel_rfl) Try.func7
    (ChangeSpec.witness6 (enc := enc) (C := Try.checked) false ⟨#[], #[.agg #[.int .u8 0, .int .i64 0, .slice none 0 0, .string ⟨#[]⟩, .int .u32 0, .int .i64 0, .int .u64 0, .int .u64 0], .slice none 0 0], []⟩ 8 (by kernel_rfl) (by kernel_rfl) (by kernel_rfl) (by kernel_rfl)) ?_
  intro W base args ds gs before hval0 hW hcnd hsz0 _
  have hval : ∀ (j : Nat) t v, Try.f7.params[j]? = some t → args[j]? = some v → Value.okWide Try.prog W .any base t v := hval0
  have hW' := hW
  obtain ⟨p, q, hA0, hV, rfl, hfz, hnd⟩ := hW
  have hA : DataW.TrodAll enc Try.prog W 0 (fun _ => true) true Try.f7.params.toList args.toList ds p := hA0
  rw [Try.params7] at hA hval
  have hsz : (DataW.weightsEach Try.prog (Try.f7.params.toList ++ Rows.codeCommandsSpec.plain.varTypes Try.prog) (ds ++ gs)).all (· ≤ reachBytes) = true := hsz0
  rw [Try.params7] at hsz
  clear hsz0
  obtain ⟨v0, vs0, d0, ds0, p0, q0, hargs, rfl, rfl, h0, r0⟩ := trodAll_cons hA
  obtain ⟨v1, vs1, d1, ds1, p1, q1, rfl, rfl, rfl, h1, r1⟩ := trodAll_cons r0
  obtain ⟨rfl, rfl, rfl⟩ := trodAll_nil r1
  obtain rfl : args = #[v0, v1] := by cases args; simp_all
  obtain ⟨rfl, rfl⟩ := trodVars_none hV
  have k0 := h0
  have lt0 : ∀ x ∈ p0, x.block < W.heap.size := by obtain ⟨m, hm⟩ := k0; exact DataW.trod_lt m _ _ _ hm
  obtain ⟨c0, w0⟩ := inCommand_of (fun _ => rfl) (hval 0 36 v0 rfl rfl) h0 (fun n hn => of_decide_eq_true (List.all_eq_true.1 hsz n (by simp [DataW.weightsEach, hn])))
  have k1 := h1
  have lt1 : ∀ x ∈ p1, x.block < W.heap.size := by obtain ⟨m, hm⟩ := k1; exact DataW.trod_lt m _ _ _ hm
  obtain ⟨a1, len1, cap1, rfl⟩ := okWide_slice Try.underlying26 (hval 1 26 v1 rfl rfl)
  obtain ⟨l1, w1⟩ := inBytes_of (fun _ => rfl) h1
  clear hA0 hval0
  refine (codeCommands_walk W v0 c0 w0 a1 len1 cap1 l1 w1).mono fun e W' ⟨he, bel⟩ => ?_
  subst he
  exact ⟨_, rfl, _, _, _, [], _, [], hW', trodAll_mk1 (shut_bool Try.underlying4 _), (trodAll_cons_mk (Below.trod laidOut_all (by kernel_rfl) (of_decide_eq_true (by kernel_rfl)) k0 bel lt0) (trodAll_cons_mk (Below.trod laidOut_all (by kernel_rfl) (of_decide_eq_true (by kernel_rfl)) k1 bel lt1) trodAll_mk0)), rfl, bel.frame _, fun h => by cases h⟩

theorem codeCommands_proved : Rows.CodeCommandsSaid :=
  OpenClaim.holds_of_wide 7 Try.f7 rfl rfl rfl rfl rfl rfl rfl ⟨rfl, rfl, rfl, rfl, rfl⟩ rfl rfl rfl rfl rfl (by kernel_rfl) Try.func7 (by kernel_rfl)
    (of_decide_eq_true (by kernel_rfl)) (by unfold Func.isWrapper; first | (rw [if_pos (by decide +kernel)]; kernel_rfl) | (rw [if_neg (by decide +kernel)]; exact ⟨rfl, rfl⟩))
    (fun os started H enc _ => codeCommands_lifted os started H enc)
#print axioms codeCommands_proved
end Go.Proofs.Ytgfhjkphdmkmoaa
