/-
  TableGrows is true: however many names are put, all are there, rising, and taken out again none is; no conditions.
-/
import Derived.Test.YtcmfgofknjlmgabTbNot
import Derived.Test.YtcmfgofknjlmgabTgPure
import Derived.ChangeSlices
import Derived.Test.YtcmfgofknjlmgabChecked
namespace Go.Proofs.Ytcmfgofknjlmgab
open Go.ChangeShapes Go.WideShapes Go.ChangeAt Go.RowKit
open Go.ChangeMaps (open_string shut_string)
set_option linter.unusedSimpArgs false
set_option linter.unusedVariables false
set_option maxRecDepth 100000

theorem laidOut_all : laidOutB Try.prog = true := by kernel_rfl
set_option maxHeartbeats 4000000 in
theorem tableGrows_few (w : World) (n : Nat) (hn : n ≤ 3000) (back : Bool) :
    Calls Try.prog 6 #[.int .i64 n, .bool back] w fun e w' => e = .returned (.bool true) ∧ Below w.heap.size w w' := by
  have h3 : decide ((3000 : Int) < n) = false := by simp; omega
  have h4 : decide ((n : Int) < 0) = false := by simp
  have h3n : ¬ 3000 < n := by omega
  go_enter Try.func6, Try.ntmps6
  go_upto_region 6 with (go_at_call 7; refine (alive_any _).mono ?_; rintro e w1 ⟨rfl, hb1⟩; have HB1 := Hid.mk2 hb1; clear hb1)
  have HNW := Hid.mk2 (new_x w1 3100)
  go_upto_region 7 with (go_at_call 8; refine HNW.out.mono ?_; rintro e w2 ⟨p, rfl, hT2, hb2⟩; have HT2 := Hid.mk2 hT2; have HB2 := Hid.mk2 hb2; clear hT2 hb2)
  clear h3 h4 h3n HNW
  have HWB : Hid (∀ W, Below w1.heap.size w1 W → Below w.heap.size w W) := fun W hb => HB1.out.trans (hb.mono HB1.out.size)
  go_wp2
  go_loopw [7] (fun s7 wr => ∃ k : Nat, k ≤ n ∧ s7 = .int .i64 k ∧ Hid (TBx wr w1.heap.size p (gg k) 3100) ∧ Hid (Below w1.heap.size w1 wr)) (fun s7 _ => n - (intOf s7).toNat)
  case atStart => exact ⟨0, Nat.zero_le _, rfl, HT2, HB2⟩
  case round =>
    obtain ⟨k, hk, rfl, HT, HB⟩ := hrel
    by_cases hlt : k < n
    · have hlt2 : (k : Int) < (n : Int) := by omega
      have HMN := Hid.mk2 (fun W => many_any k (by omega) W)
      have HOK := Hid.mk2 (many_ok k)
      have HGL := Hid.mk2 (gg_len k)
      have HGP := Hid.mk2 (gg_put (show k < 3000 by omega))
      have HPT := Hid.mk2 (fun W (h : TBx W w1.heap.size p (gg k) 3100) hB => put_x W w1.heap.size p (gg k) 3100 h hB (by have := HGL.out; omega) (by omega) (manyN k) HOK.out k)
      rw [HGP.out] at HPT
      have HMV := Hid.mk2 (fun W (h : TBx W w1.heap.size p (gg (k + 1)) 3100) => moved_x W w1.heap.size p (gg (k + 1)) 3100 h)
      obtain ⟨Y, hY⟩ : ∃ Y, Y = manyN k := ⟨_, rfl⟩
      rw [← hY] at HMN HPT
      clear hY HOK HGP HGL
      go_upto_region 11 with (first
        | (go_at_call 19; refine (HMN.out _).mono ?_; rintro e w3 ⟨rfl, hb3⟩; have HT3 := Hid.mk2 (HT.out.below hb3); have HB3 : Hid (Below w1.heap.size w1 w3) := HB.out.trans (hb3.mono HB.out.size); clear hb3)
        | (go_at_call 9; refine (HPT.out _ HT3.out HB3.out.size).mono ?_; rintro e w4 ⟨rfl, hT4, hb4⟩; have HT4 := Hid.mk2 hT4; have HB4 : Hid (Below w1.heap.size w1 w4) := HB3.out.trans hb4; clear hT4 hb4))
      go_upto_region 12 with (go_at_call 15; refine (HMV.out _ HT4.out).mono ?_; rintro e w6 ⟨m, hm4, rfl, hwq⟩; obtain rfl := hwq.symm)
      have gm2 : decide ((4 : Int) < (m : Int)) = false := by simp; omega
      have gm3 : ¬ 4 < m := by omega
      go_wp2
      go_roundw
      case rel => exact ⟨k + 1, by omega, by go_num, HT4, HB4⟩
      case measure => simp [intOf]; omega
    · have hlt2 : decide ((k : Int) < (n : Int)) = false := by simp; omega
      obtain rfl : k = n := by omega
      obtain ⟨w6, hw6⟩ : ∃ x, x = wr := ⟨_, rfl⟩
      rw [← hw6] at HT HB ⊢
      have HAL := Hid.mk2 (all_x w6 w1.heap.size p (gg k) 3100 HT.out (by rw [gg_len]; omega) (by omega))
      rw [gg_len] at HAL
      clear hw6 hlt HT2 HB2
      go_upto_region 15 with (go_at_call 11; refine HAL.out.mono ?_; rintro e w7 ⟨ao, cap, S, rfl, hA⟩; have hSl := hA.len; have HSR := Hid.mk2 hA.rise; have HNA := Hid.mk2 hA.at_; have hcap := hA.le; have HB7 : Hid (Below w1.heap.size w1 w7) := HB.out.trans (hA.bel.mono HB.out.size); have HT7 := Hid.mk2 (HT.out.below hA.bel); clear hA)
      rw [gg_len] at hSl
      obtain ⟨n, hn'⟩ : ∃ n, n = k := ⟨_, rfl⟩
      rw [← hn'] at hSl hn HT7 ⊢
      rw [hSl] at hcap
      have HSL := Hid.mk2 hSl
      clear hSl hn' HAL hlt2 HT HB hk
      go_wp2
      go_loopw [13] (fun s13 wr => ∃ j : Nat, 1 ≤ j ∧ (j ≤ n ∨ j = 1) ∧ s13 = .int .i64 j ∧ Hid (Below w7.heap.size w7 wr)) (fun s13 _ => n - (intOf s13).toNat)
      case atStart => exact ⟨1, Nat.le_refl _, .inr rfl, rfl, Below.refl _ _⟩
      case round =>
        obtain ⟨j, hj1, hj2, rfl, HBj⟩ := hrel
        by_cases hjl : j < n
        · have hjl2 : (j : Int) < (n : Int) := by omega
          have hi1 : j < S.length := by rw [HSL.out]; exact hjl
          have hi0 : j - 1 < S.length := by omega
          rcases HNA.out with h0 | ⟨b, rfl, hbb, hcs⟩
          · rw [h0] at hi1; simp at hi1
          have hlt := List.pairwise_iff_getElem.1 HSR.out (j - 1) j hi0 hi1 (by omega)
          have HLS := Hid.mk2 (fun W => less_any W S[j - 1] S[j])
          rw [decide_eq_true hlt] at HLS
          obtain ⟨p0, p1⟩ := hcs (j - 1) hi0
          obtain ⟨q0, q1⟩ := hcs j hi1
          have r0 := (bcl HBj.out _ _ hbb).trans p0
          have r1 := (bcl HBj.out _ _ hbb).trans p1
          have s0 := (bcl HBj.out _ _ hbb).trans q0
          have s1 := (bcl HBj.out _ _ hbb).trans q1
          obtain ⟨x, hx⟩ : ∃ x, x = S[j - 1] := ⟨_, rfl⟩
          obtain ⟨y, hy⟩ : ∃ y, y = S[j] := ⟨_, rfl⟩
          rw [← hx, ← hy] at HLS
          rw [← hx] at r0 r1
          rw [← hy] at s0 s1
          obtain ⟨i, hi⟩ : ∃ i, i = j - 1 := ⟨_, rfl⟩
          rw [← hi] at r0 r1
          have hsub : (j : Int) - 1 = (i : Int) := by omega
          have hw1 : IntKind.i64.wrap ((j : Int) - 1) = (i : Int) := by rw [hsub]; simp [IntKind.wrap, IntKind.bits, IntKind.signed]; omega
          have hw2 : IntKind.i64.wrap (i : Int) = (i : Int) := by simp [IntKind.wrap, IntKind.bits, IntKind.signed]; omega
          have hbz := Nat.lt_of_lt_of_le hbb HBj.out.size
          have hjl4 : (i : Int) < (n : Int) := by omega
          have hjl5 : i < n := by omega
          have hjl6 : (0 : Int) ≤ (i : Int) := by omega
          have hjl7 : (0 : Int) ≤ (j : Int) := by omega
          have HI := Hid.mk2 hi
          clear hi
          clear hx hy p0 p1 q0 q1 hcs hlt hi1 hi0
          go_wp2
          go_region_held3 (fun W => W.cell? ⟨b, i * 2, none⟩ = some (.int .i64 x.tenant) ∧ W.cell? ⟨b, i * 2 + 1, none⟩ = some (.string x.key) ∧ W.cell? ⟨b, j * 2, none⟩ = some (.int .i64 y.tenant) ∧ W.cell? ⟨b, j * 2 + 1, none⟩ = some (.string y.key)) (first | exact ⟨r0, r1, s0, s1⟩ | exact ⟨by assumption, by assumption, by assumption, by assumption⟩)
            (first | (go_at_call 20; refine (HLS.out _).mono ?_; rintro e w8 ⟨rfl, hb8⟩; have u0 := (bcl hb8 _ _ hbz).trans r0; have u1 := (bcl hb8 _ _ hbz).trans r1; have v0 := (bcl hb8 _ _ hbz).trans s0; have v1 := (bcl hb8 _ _ hbz).trans s1; have HB8 : Hid (Below w7.heap.size w7 w8) := (by first | exact HBj.out.trans (hb8.mono HBj.out.size) | exact (below_drewR HBj.out 1).trans (hb8.mono HBj.out.size)); clear hb8))
          go_wp2
          go_roundw
          case rel => exact ⟨j + 1, by omega, by omega, by go_num, HB8⟩
          case measure => simp [intOf]; omega
        · have hjl2 : decide ((j : Int) < (n : Int)) = false := by simp; omega
          obtain ⟨w8, hw8⟩ : ∃ x, x = wr := ⟨_, rfl⟩
          rw [← hw8] at HBj ⊢
          have HT8 : Hid (TBx w8 w1.heap.size p (gr back n 0) 3100) := by rw [gr_zero]; exact HT7.out.below HBj.out
          have HB8 : Hid (Below w1.heap.size w1 w8) := HB7.out.trans (HBj.out.mono HB7.out.size)
          clear hw8 hj1 hj2 HBj HT7 HB7 HNA HSR HSL hcap
          go_wp2
          go_loopw [14] (fun s14 wr => ∃ i : Nat, i ≤ n ∧ s14 = .int .i64 i ∧ Hid (TBx wr w1.heap.size p (gr back n i) 3100) ∧ Hid (Below w1.heap.size w1 wr)) (fun s14 _ => n - (intOf s14).toNat)
          case atStart => exact ⟨0, Nat.zero_le _, rfl, HT8, HB8⟩
          case round =>
            obtain ⟨i, hi, rfl, HTi, HBi⟩ := hrel
            by_cases hil : i < n
            · have hil2 : (i : Int) < (n : Int) := by omega
              have HLK := Hid.mk2 (gr_lk back hil hn)
              have HST := Hid.mk2 (gr_strike back hil hn)
              have HGL := Hid.mk2 (gr_len back n i)
              clear HT8 HB8
              cases back
              · go_upto_region 28 with (fail)
                have hk0 : kf false n i = i := rfl
                rw [hk0] at HLK HST
                clear hk0
                have HMN := Hid.mk2 (fun W => many_any i (by omega) W)
                have HOK := Hid.mk2 (many_ok i)
                have HGT := Hid.mk2 (fun W (h : TBx W w1.heap.size p (gr false n i) 3100) hB => get_x W w1.heap.size p (gr false n i) 3100 h hB (by have := HGL.out; omega) (by omega) (manyN i) HOK.out)
                have HDL := Hid.mk2 (fun W (h : TBx W w1.heap.size p (gr false n i) 3100) hB => del_x W w1.heap.size p (gr false n i) 3100 h hB (by have := HGL.out; omega) (by omega) (manyN i) HOK.out)
                rw [HLK.out] at HGT
                rw [HLK.out, HST.out] at HDL
                have HMV := Hid.mk2 (fun W (h : TBx W w1.heap.size p (gr false n (i + 1)) 3100) => moved_x W w1.heap.size p (gr false n (i + 1)) 3100 h)
                obtain ⟨Y, hY⟩ : ∃ Y, Y = manyN i := ⟨_, rfl⟩
                rw [← hY] at HMN HGT HDL
                clear HOK hY
                go_upto_region 29 with (first
                  | (go_at_call 19; refine (HMN.out _).mono ?_; rintro e w9 ⟨rfl, hb9⟩; have HT9 := Hid.mk2 (HTi.out.below hb9); have HB9 : Hid (Below w1.heap.size w1 w9) := HBi.out.trans (hb9.mono HBi.out.size); clear hb9)
                  | (go_at_call 13; refine (HGT.out _ HT9.out HB9.out.size).mono ?_; rintro e w10 ⟨rfl, hT10, hb10⟩; have HT10 := Hid.mk2 hT10; have HB10 : Hid (Below w1.heap.size w1 w10) := HB9.out.trans hb10; clear hT10 hb10))
                go_upto_region 32 with (first
                  | (go_at_call 19; refine (HMN.out _).mono ?_; rintro e w11 ⟨rfl, hb9⟩; have HT11 := Hid.mk2 (HT10.out.below hb9); have HB11 : Hid (Below w1.heap.size w1 w11) := HB10.out.trans (hb9.mono HB10.out.size); clear hb9)
                  | (go_at_call 12; refine (HDL.out _ HT11.out HB11.out.size).mono ?_; rintro e w12 ⟨rfl, hT10, hb10⟩; have HT12 := Hid.mk2 hT10; have HB12 : Hid (Below w1.heap.size w1 w12) := HB11.out.trans hb10; clear hT10 hb10))
                go_upto_region 33 with (go_at_call 15; refine (HMV.out _ HT12.out).mono ?_; rintro e w13 ⟨m, hm4, rfl, hwq⟩; obtain rfl := hwq.symm)
                have gm2 : decide ((4 : Int) < (m : Int)) = false := by simp; omega
                have gm3 : ¬ 4 < m := by omega
                go_wp2
                go_roundw
                case rel => exact ⟨i + 1, by omega, by go_num, HT12, HB12⟩
                case measure => simp [intOf]; omega
              · have hsub : (n : Int) - 1 - (i : Int) = ((n - 1 - i : Nat) : Int) := by omega
                go_upto_region 28 with (fail)
                have hk0 : kf true n i = n - 1 - i := rfl
                rw [hk0] at HLK HST
                obtain ⟨k, hk⟩ : ∃ k, k = n - 1 - i := ⟨_, rfl⟩
                have hkn : k < n := by omega
                rw [← hk] at HLK HST ⊢
                clear hk hsub hk0
                have HMN := Hid.mk2 (fun W => many_any k (by omega) W)
                have HOK := Hid.mk2 (many_ok k)
                have HGT := Hid.mk2 (fun W (h : TBx W w1.heap.size p (gr true n i) 3100) hB => get_x W w1.heap.size p (gr true n i) 3100 h hB (by have := HGL.out; omega) (by omega) (manyN k) HOK.out)
                have HDL := Hid.mk2 (fun W (h : TBx W w1.heap.size p (gr true n i) 3100) hB => del_x W w1.heap.size p (gr true n i) 3100 h hB (by have := HGL.out; omega) (by omega) (manyN k) HOK.out)
                rw [HLK.out] at HGT
                rw [HLK.out, HST.out] at HDL
                have HMV := Hid.mk2 (fun W (h : TBx W w1.heap.size p (gr true n (i + 1)) 3100) => moved_x W w1.heap.size p (gr true n (i + 1)) 3100 h)
                obtain ⟨Y, hY⟩ : ∃ Y, Y = manyN k := ⟨_, rfl⟩
                rw [← hY] at HMN HGT HDL
                clear HOK hY
                go_upto_region 29 with (first
                  | (go_at_call 19; refine (HMN.out _).mono ?_; rintro e w9 ⟨rfl, hb9⟩; have HT9 := Hid.mk2 (HTi.out.below hb9); have HB9 : Hid (Below w1.heap.size w1 w9) := HBi.out.trans (hb9.mono HBi.out.size); clear hb9)
                  | (go_at_call 13; refine (HGT.out _ HT9.out HB9.out.size).mono ?_; rintro e w10 ⟨rfl, hT10, hb10⟩; have HT10 := Hid.mk2 hT10; have HB10 : Hid (Below w1.heap.size w1 w10) := HB9.out.trans hb10; clear hT10 hb10))
                go_upto_region 32 with (first
                  | (go_at_call 19; refine (HMN.out _).mono ?_; rintro e w11 ⟨rfl, hb9⟩; have HT11 := Hid.mk2 (HT10.out.below hb9); have HB11 : Hid (Below w1.heap.size w1 w11) := HB10.out.trans (hb9.mono HB10.out.size); clear hb9)
                  | (go_at_call 12; refine (HDL.out _ HT11.out HB11.out.size).mono ?_; rintro e w12 ⟨rfl, hT10, hb10⟩; have HT12 := Hid.mk2 hT10; have HB12 : Hid (Below w1.heap.size w1 w12) := HB11.out.trans hb10; clear hT10 hb10))
                go_upto_region 33 with (go_at_call 15; refine (HMV.out _ HT12.out).mono ?_; rintro e w13 ⟨m, hm4, rfl, hwq⟩; obtain rfl := hwq.symm)
                have gm2 : decide ((4 : Int) < (m : Int)) = false := by simp; omega
                have gm3 : ¬ 4 < m := by omega
                go_wp2
                go_roundw
                case rel => exact ⟨i + 1, by omega, by go_num, HT12, HB12⟩
                case measure => simp [intOf]; omega
            · have hil2 : decide ((i : Int) < (n : Int)) = false := by simp; omega
              obtain rfl : i = n := by omega
              rw [gr_end] at HTi
              have HLX := Hid.mk2 (len_x wr w1.heap.size p [] 3100 HTi.out)
              go_wp2_with (go_at_call 14; refine HLX.out.mono ?_; rintro e w9 ⟨rfl, hwq⟩; obtain rfl := hwq.symm)
              go_ret
              exact ⟨by simp, HWB.out _ HBi.out⟩
theorem tableGrows_walk (w : World) (m : Int) (hm : (Lit.int .i64 m).wf = true) (back : Bool) :
    Calls Try.prog 6 #[.int .i64 m, .bool back] w fun e w' => e = .returned (.bool true) ∧ Below w.heap.size w w' := by
  by_cases h0 : m < 0
  · have h1 : decide (m < 0) = true := by simp [h0]
    go_enter Try.func6, Try.ntmps6
    go_wp2_with (go_at_call 7; refine (alive_any _).mono ?_; rintro e w1 ⟨rfl, hb1⟩)
    go_ret
    exact ⟨rfl, hb1⟩
  · by_cases h3 : 3000 < m
    · have h1 : decide (m < 0) = false := by simp; omega
      have h2 : decide (3000 < m) = true := by simp [h3]
      go_enter Try.func6, Try.ntmps6
      go_wp2_with (go_at_call 7; refine (alive_any _).mono ?_; rintro e w1 ⟨rfl, hb1⟩)
      go_ret
      exact ⟨rfl, hb1⟩
    · obtain ⟨n, rfl⟩ : ∃ n : Nat, m = n := ⟨m.toNat, by omega⟩
      exact tableGrows_few w n (by omega) back

set_option maxRecDepth 100000 in
theorem tableGrows_lifted (os : Os) (started : os.Started) (H : Type) (enc : TypeId × Value → H) :
    ReturnsInHanded {} Try.checked os 6 .any (Rows.tableGrowsSpec.pre6 enc Try.prog Try.f6 Rows.tableGrowsRow.domain false) (Rows.tableGrowsSpec.post enc Try.prog Try.f6 false true false false) := by
  refine returnsInHanded_of_change (C := Try.checked) (by kernel_rfl) started (by kernel_rfl) Try.func6
    (ChangeSpec.witness6 (enc := enc) (C := Try.checked) false ⟨#[], #[.int .i64 0, .bool false], []⟩ 8 (by kernel_rfl) (by kernel_rfl) (by kernel_rfl) (by kernel_rfl)) ?_
  intro W base args ds gs before hval0 hW hcnd _
  have hval : ∀ (j : Nat) t v, Try.f6.params[j]? = some t → args[j]? = some v → Value.okWide Try.prog W .any base t v := hval0
  have hW' := hW
  obtain ⟨p, q, hA0, hV, rfl, hfz, hnd⟩ := hW
  have hA : DataW.TrodAll enc Try.prog W 0 (fun _ => true) true Try.f6.params.toList args.toList ds p := hA0
  rw [Try.params6] at hA hval
  obtain ⟨v0, vs0, d0, ds0, p0, q0, hargs, rfl, rfl, h0, r0⟩ := trodAll_cons hA
  obtain ⟨v1, vs1, d1, ds1, p1, q1, rfl, rfl, rfl, h1, r1⟩ := trodAll_cons r0
  obtain ⟨rfl, rfl, rfl⟩ := trodAll_nil r1
  obtain rfl : args = #[v0, v1] := by cases args; simp_all
  obtain ⟨rfl, rfl⟩ := trodVars_none hV
  obtain ⟨a0, rfl, rfl, rfl, w0⟩ := open_int Try.underlying3 (hval 0 3 v0 rfl rfl) h0
  obtain ⟨a1, rfl, rfl, rfl⟩ := open_bool Try.underlying4 (hval 1 4 v1 rfl rfl) h1
  clear hA0 hval0
  refine (tableGrows_walk W a0 w0 a1).mono fun e W' ⟨he, bel⟩ => ?_
  subst he
  exact ⟨_, rfl, _, _, _, [], _, [], hW', trodAll_mk1 (shut_bool Try.underlying4 _), (trodAll_cons_mk (shut_int Try.underlying3 w0) (trodAll_cons_mk (shut_bool Try.underlying4 _) trodAll_mk0)), rfl, bel.frame _, fun h => by cases h⟩

theorem tableGrows_proved : Rows.TableGrowsSaid :=
  OpenClaim.holds_of_wide 6 Try.f6 rfl rfl rfl rfl rfl rfl rfl ⟨rfl, rfl, rfl, rfl, rfl⟩ rfl rfl rfl rfl rfl (by kernel_rfl) Try.func6 (by kernel_rfl)
    (of_decide_eq_true (by kernel_rfl)) (by unfold Func.isWrapper; first | (rw [if_pos (by decide +kernel)]; kernel_rfl) | (rw [if_neg (by decide +kernel)]; exact ⟨rfl, rfl⟩))
    (fun os started H enc _ => tableGrows_lifted os started H enc)
#print axioms tableGrows_proved
end Go.Proofs.Ytcmfgofknjlmgab
