/-
  BagPieces is true for all bytes, places and pieces: bytes are cut and put together as the document says, and what is answered is new memory; no condition.
-/
import Derived.Test.YtgfhjkphdmkmoacBgRef2
import Derived.Test.YtgfhjkphdmkmoacBgRSame
import Derived.Test.YtgfhjkphdmkmoacBgPoke
import Derived.Test.YtgfhjkphdmkmoacBgInts
import Derived.Test.YtgfhjkphdmkmoacBgRows
namespace Go.Proofs.Ytgfhjkphdmkmoac
open Go.ChangeShapes Go.WideShapes Go.ChangeAt Go.RowKit
open Go.ChangeMaps (open_string shut_string)
set_option linter.unusedSimpArgs false
set_option linter.unusedVariables false
set_option maxRecDepth 100000

set_option maxHeartbeats 2000000 in
theorem bagPieces_walk1 (w : World) (a0 : Option Addr) (cap0 : Nat) (b : List UInt8) (HB : Hid (Sl w a0 b cap0)) (a1 : Option Addr) (cap1 : Nat) (at_ : List Int) (HI : Hid (Il w a1 at_ cap1)) (a2 : Option Addr) (cap2 : Nat) (ls : List (List UInt8)) (HL : Hid (Ll w a2 ls cap2)) (HR : Hid (∀ p ∈ ls, p.length ≤ 140737488351232)) :
    Calls Try.prog 5 #[.slice a0 b.length cap0, .slice a1 at_.length cap1, .slice a2 ls.length cap2] w fun e w' => e = .returned (.bool true) ∧ Below w.heap.size w w' := by
  have hbm : b.length ≤ 9223372036854775807 := Nat.le_trans HB.out.hl HB.out.hc
  have him : at_.length ≤ 9223372036854775807 := Nat.le_trans HI.out.hl HI.out.hc
  have hhv := rheavy_any w a2 ls cap2 HL.out
  have HR2 : Hid (∀ p ∈ ls, p.length ≤ 140737488355328) := fun p hp => Nat.le_trans (HR.out p hp) (by decide)
  have HN : Hid (a0 = none → cap0 = 0) := HB.out.hn
  have HNI : Hid (a1 = none → cap1 = 0) := HI.out.hn
  obtain ⟨E1, hE1⟩ : ∃ E1, E1 = piecesE b at_ := ⟨_, rfl⟩
  obtain ⟨L1, hL1⟩ : ∃ L1, L1 = piecesL b at_ := ⟨_, rfl⟩
  obtain ⟨E2, hE2⟩ : ∃ E2, E2 = joinE ls := ⟨_, rfl⟩
  obtain ⟨O2, hO2⟩ : ∃ O2, O2 = joinB ls := ⟨_, rfl⟩
  have HPA : Hid (∀ W ao cap io ic, Sl W ao b cap → Il W io at_ ic → Calls Try.prog 15 #[.slice ao b.length cap, .slice io at_.length ic] W fun e w' => ∃ v', e = .returned (.tuple #[v', .int .i64 E1]) ∧ OwnLs w' W.heap.size v' L1 ∧ Below W.heap.size W w') := by
    intro W ao cap io ic h1 h2; rw [hE1, hL1]; exact pieces_any W ao b cap h1 io at_ ic h2
  have HPR : Hid (∀ W ao cap io ic, Sl W ao b cap → Il W io at_ ic → Calls Try.prog 23 #[.slice ao b.length cap, .slice io at_.length ic] W fun e w' => ∃ v', e = .returned (.tuple #[v', .int .i64 E1]) ∧ OwnLs w' W.heap.size v' L1 ∧ Below W.heap.size W w') := by
    intro W ao cap io ic h1 h2; rw [hE1, hL1]; exact rpieces_any W ao b cap h1 io at_ ic h2
  have HJA : Hid (∀ W ao cap, Ll W ao ls cap → Calls Try.prog 24 #[.slice ao ls.length cap] W fun e w' => ∃ v', e = .returned (.tuple #[v', .int .i64 E2]) ∧ Own w' W.heap.size v' O2 ∧ Below W.heap.size W w') := by
    intro W ao cap h1; rw [hE2, hO2]; exact join_any W ao ls cap h1 HR2.out
  have HJR : Hid (∀ W ao cap, Ll W ao ls cap → Calls Try.prog 25 #[.slice ao ls.length cap] W fun e w' => ∃ v', e = .returned (.tuple #[v', .int .i64 E2]) ∧ Own w' W.heap.size v' O2 ∧ Below W.heap.size W w') := by
    intro W ao cap h1; rw [hE2, hO2]; exact rjoin_any W ao ls cap h1 HR2.out
  clear hE1 hL1 hE2 hO2
  by_cases g0 : (100000 : Int) < (b.length : Int)
  · go_enter Try.func5, Try.ntmps5
    go_wp2
    go_ret
    exact ⟨rfl, Below.refl _ _⟩
  · have g0' : decide ((100000 : Int) < (b.length : Int)) = false := by simp; omega
    by_cases g1 : (1000 : Int) < (at_.length : Int)
    · go_enter Try.func5, Try.ntmps5
      go_wp2
      go_ret
      exact ⟨rfl, Below.refl _ _⟩
    · have g1' : decide ((1000 : Int) < (at_.length : Int)) = false := by simp; omega
      go_enter Try.func5, Try.ntmps5
      go_wp2_with (first
        | (go_at_call 26; refine (rsame_sl w7 po qo L1 pc qc (hlp.below hb47) (hlq.below hb57)).mono ?_; rintro e w8 ⟨rfl, hb8⟩; have q1 := hfx.fresh.conv w8 (hb7.trans (hb8.mono hb7.size)); have q2 := hfy.fresh.conv w8 hb8)
        | (go_at_call 25; refine (HJR.out w6 a2 cap2 (HL.out.below hb06)).mono ?_; rintro e w7 ⟨y7, rfl, hfy, hb7⟩; have hb07 := hb06.trans (hb7.mono hb06.size); have hb57 := hb6.trans (hb7.mono hb6.size); have hb47 := hb5.trans (hb57.mono hb5.size))
        | (go_at_call 24; refine (HJA.out w5 oo oc (hlo.below hb35)).mono ?_; rintro e w6 ⟨x6, rfl, hfx, hb6⟩; obtain ⟨xo, xc, hx6, hxl, hxc, hpx⟩ := hfx.fresh.pkB; subst hx6; have hb06 := hb05.trans (hb6.mono hb05.size))
        | (go_at_call 23; refine (HPR.out w4 a0 cap0 a1 cap1 (HB.out.below hb04) (HI.out.below hb04)).mono ?_; rintro e w5 ⟨v5, rfl, ho5, hb5⟩; obtain ⟨qo, qc, hv5, hlq⟩ := ho5.ll; subst hv5; have hb05 := hb04.trans (hb5.mono hb04.size); have hb35 := hb4.trans (hb5.mono hb4.size))
        | (go_at_call 15; refine (HPA.out w3 io ic jo jc (hsi.below hb13) (hji.below hb3)).mono ?_; rintro e w4 ⟨v4, rfl, ho4, hb4⟩; obtain ⟨po, pc, hv4, hlp, hpp⟩ := ho4.pk; subst hv4; have hb04 := hb03.trans (hb4.mono hb03.size))
        | (go_at_call 22; refine (rtwin_any w2 a2 ls cap2 (HL.out.below hb02) HR.out (by first | (have := hlen (Bool.eq_false_iff.2 (by assumption)); omega) | (have := hlen rfl; omega) | (have := hlen (by assumption); omega) | (simp at hlen; omega))).mono ?_; rintro e w3 ⟨v3, rfl, ho3, hb3⟩; obtain ⟨oo, oc, hv3, hlo⟩ := ho3.ll; subst hv3; have hb03 := hb02.trans (hb3.mono hb02.size); have hb13 := hb2.trans (hb3.mono hb2.size))
        | (at_builtin; have hq := hb01; refine app_ints rfl (.const (.slice none 0 0)) (.tmp 36) rfl rfl a1 cap1 at_ rfl HNI.out (HI.out.below hb01).at_ (by omega) ?_; intro jo jc w2 hji hb2; have hb02 := hb01.trans (hb2.mono hb01.size))
        | (at_builtin; (fail_if_success have hq := hb01); refine app_bytes rfl (.const (.slice none 0 0)) (.tmp 34) rfl w.heap.size _ [] (Own.nil _ _) rfl a0 cap0 b _ rfl rfl w.heap.size HN.out HB.out.at_ (by simp; omega) (Nat.le_refl _) ?_; intro v1 w1 ho1 hg1; rw [List.nil_append] at ho1; obtain ⟨io, ic, hv1, hsi⟩ := ho1.fresh.sl; subst hv1; have hb01 := hg1.below_nil)
        | (go_at_call 21; refine hhv.mono ?_; rintro e w1 ⟨⟨hv, rfl, hlen⟩, rfl⟩))
      · go_ret
        exact ⟨rfl, Below.refl _ _⟩
      · have hb68 := hb7.trans (hb8.mono hb7.size)
        have hb58 := hb6.trans (hb68.mono hb6.size)
        have hb48 := hb5.trans (hb58.mono hb5.size)
        have hb38 := hb4.trans (hb48.mono hb4.size)
        have hP9 : PokS w3 w3.heap.size w4.heap.size w5.heap.size w6.heap.size po L1.length none 0 xo O2.length w8 := ⟨hpp.below hb48, .inl rfl, hpx.below hb68, hb38⟩
        have hL1m : L1.length ≤ 9223372036854775807 := Nat.le_trans hlp.hl hlp.hc
        have hO2m : O2.length ≤ 9223372036854775807 := Nat.le_trans hxl hxc
        obtain ⟨T1, hT1⟩ : ∃ T1, T1 = w4.heap.size := ⟨_, rfl⟩
        obtain ⟨B2, hB2⟩ : ∃ B2, B2 = w5.heap.size := ⟨_, rfl⟩
        obtain ⟨T2, hT2⟩ : ∃ T2, T2 = w6.heap.size := ⟨_, rfl⟩
        obtain ⟨B1, hB1⟩ : ∃ B1, B1 = w3.heap.size := ⟨_, rfl⟩
        have o1 : w3.heap.size ≤ B1 := by omega
        have o2 : B1 ≤ T1 := by rw [hB1, hT1]; exact hb4.size
        have o3 : T1 ≤ B2 := by rw [hT1, hB2]; exact hb5.size
        rw [← hT1, ← hB2, ← hT2, ← hB1] at hP9
        have HOWN : Hid (Ll w3 oo ls oc) := hlo
        have HIN : Hid (Sl w3 io b ic) := hsi.below hb13
        have HPL : Hid (Il w3 jo at_ jc) := hji.below hb3
        have hb03' := hb03
        clear hT1 hB2 hT2 hB1 hb68 hb58 hb48 hb38 hb4 hb5 hb6 hb7 hb8 hpp hpx hlp hlq hfx hfy hb04 hb05 hb06 hb07 hb35 hb47 hb57 ho1 ho3 ho4 ho5 HPA HPR HJA HJR hhv hlen hlo hsi hji hg1 hb2 hb3 HN HNI HR HR2 hxl hxc q1 q2
        go_loopw [18] (fun i wr => ∃ k : Nat, k ≤ L1.length ∧ i = .int .i64 k ∧ PokS w3 B1 T1 B2 T2 po L1.length none 0 xo O2.length wr) (fun i _ => L1.length - (intOf i).toNat)
        case atStart => exact ⟨0, Nat.zero_le _, rfl, hP9⟩
        case round =>
          obtain ⟨k, hk, rfl, hP⟩ := hrel
          clear hP9
          by_cases hlt : k < L1.length
          · have hlt3 : (k : Int) < (L1.length : Int) := by omega
            rcases id hP.p1 with h0 | ⟨bb, rfl, hb1, hb2, hb3, hrow⟩
            · omega
            obtain ⟨bo, len, cp, c1, c2, c3, c4⟩ := hrow k hlt
            have c1' := c1
            clear hrow
            go_wp2
            go_loopw [19] (fun j wr2 => ∃ n2 : Nat, n2 ≤ len ∧ j = .int .i64 n2 ∧ wr2.cell? ⟨bb, k, none⟩ = some (.slice bo len cp) ∧ PkB wr2 B1 T1 (some bb) bo len ∧ PokS w3 B1 T1 B2 T2 (some ⟨bb, 0, none⟩) L1.length none 0 xo O2.length wr2) (fun j _ => len - (intOf j).toNat)
            case atStart => exact ⟨0, Nat.zero_le _, rfl, c1', c4, hP⟩
            case round =>
              obtain ⟨n2, hn2, rfl, d1, d2, hP2⟩ := hrel
              by_cases hn3 : n2 < len
              · have hn4 : (n2 : Int) < (len : Int) := by omega
                obtain ⟨g, x, rfl, e1, e2, e3, e4, e5, e6, e7⟩ := d2 n2 hn3
                go_wp2
                go_region
                go_wp2
                have ey : ((x : Int) + 1) % 256 = (((x + 1) % 256 : Nat) : Int) := by omega
                rw [ey]
                have hgb : g ≠ bb := fun e => e3 (by rw [e])
                have hy : (x + 1) % 256 < 256 := Nat.mod_lt _ (Nat.zero_lt_succ 255)
                exact ⟨⟨n2 + 1, hn3, rfl, (World.cell?_setCell_other _ _ _ _ (fun e => hgb (congrArg (fun z : Addr => z.block) e))).trans d1, (d2.set g n2 _ hy).drew, (hP2.setP o1 o3 g n2 _ hy e1 e2 (fun b' hb' => by cases hb'; exact hgb)).drew⟩, Nat.sub_lt_sub_left hn3 (Nat.lt_succ_self n2)⟩
              · have hn4 : decide ((n2 : Int) < (len : Int)) = false := by simp; omega
                go_wp2
                go_roundw
                case rel => exact ⟨k + 1, by omega, by go_num, hP2⟩
                case measure => simp [intOf]; omega
          · have hlt3 : decide ((k : Int) < (L1.length : Int)) = false := by simp; omega
            go_wp2
            go_loopw [20] (fun i wr => ∃ k : Nat, k ≤ O2.length ∧ i = .int .i64 k ∧ PkB wr B2 T2 none xo O2.length ∧ Below w3.heap.size w3 wr) (fun i _ => O2.length - (intOf i).toNat)
            case atStart => exact ⟨0, Nat.zero_le _, rfl, hP.p3, hP.bl⟩
            case round =>
              clear hP hlt3 hlt hk
              obtain ⟨k3, hk3, rfl, d2, hbl⟩ := hrel
              by_cases hn3 : k3 < O2.length
              · have hn4 : (k3 : Int) < (O2.length : Int) := by omega
                obtain ⟨g, x, rfl, e1, e2, e3, e4, e5, e6, e7⟩ := d2 k3 hn3
                go_wp2
                have ey : ((x : Int) + 1) % 256 = (((x + 1) % 256 : Nat) : Int) := by omega
                rw [ey]
                have hy : (x + 1) % 256 < 256 := Nat.mod_lt _ (Nat.zero_lt_succ 255)
                exact ⟨⟨k3 + 1, hn3, rfl, d2.set g k3 _ hy, hbl.setCell (show w3.heap.size ≤ g from Nat.le_trans o1 (Nat.le_trans o2 (Nat.le_trans o3 e1))) _⟩, Nat.sub_lt_sub_left hn3 (Nat.lt_succ_self k3)⟩
              · have hn4 : decide ((k3 : Int) < (O2.length : Int)) = false := by simp; omega
                go_wp2
                go_loopw [21] (fun i wr => ∃ k : Nat, k ≤ at_.length ∧ i = .int .i64 k ∧ Below w3.heap.size w3 wr) (fun i _ => at_.length - (intOf i).toNat)
                case atStart => exact ⟨0, Nat.zero_le _, rfl, hbl⟩
                case round =>
                  clear hbl hn4 hn3 hk3 d2
                  obtain ⟨k4, hk4, rfl, hbl⟩ := hrel
                  have hb0r := hb03'.trans (hbl.mono hb03'.size)
                  by_cases hm3 : k4 < at_.length
                  · have hm4 : (k4 : Int) < (at_.length : Int) := by omega
                    rcases HPL.out.at_ with h0 | ⟨jb, jf, rfl, hj1, hj2⟩
                    · rw [h0] at hm3; simp at hm3
                    rcases HI.out.at_ with h0 | ⟨kb, kf, rfl, hk1, hk2⟩
                    · rw [h0] at hm3; simp at hm3
                    have z1 := (hbl.cell (p := ⟨jb, jf + k4, none⟩) hj1).trans (hj2 k4 hm3)
                    have z2 := (hb0r.cell (p := ⟨kb, kf + k4, none⟩) hk1).trans (hk2 k4 hm3)
                    obtain ⟨x, hxe⟩ : ∃ x, x = at_[k4] := ⟨_, rfl⟩
                    rw [← hxe] at z1 z2
                    clear hj2 hk2 hxe
                    go_wp2
                    go_big_quiet (fail)
                    go_wp2
                    go_roundw
                    case rel => exact ⟨k4 + 1, by omega, by go_num, below_drewN2 hbl _⟩
                    case measure => simp [intOf]; omega
                  · have hm4 : decide ((k4 : Int) < (at_.length : Int)) = false := by simp; omega
                    have q1 := HIN.out.conv rfl wr hbl
                    have q2 := HB.out.conv rfl wr hb0r
                    have hsame := rsame_sl wr oo a2 ls oc cap2 (HOWN.out.below hbl) (HL.out.below hb0r)
                    go_wp2_with (go_at_call 26; refine hsame.mono ?_; rintro e w10 ⟨rfl, hb10⟩)
                    go_ret
                    exact ⟨rfl, hb0r.trans (hb10.mono hb0r.size)⟩

theorem bagPieces_walk (w : World) (a0 : Option Addr) (len0 cap0 : Nat) (b : List UInt8) (hi0 : InBytes w a0 len0 cap0 b) (a1 : Option Addr) (len1 cap1 : Nat) (at_ : List Int) (hi1 : InInts w a1 len1 cap1 at_) (a2 : Option Addr) (len2 cap2 : Nat) (ls : List (List UInt8)) (hi2 : InLists w a2 len2 cap2 ls) :
    Calls Try.prog 5 #[.slice a0 len0 cap0, .slice a1 len1 cap1, .slice a2 len2 cap2] w fun e w' => e = .returned (.bool true) ∧ Below w.heap.size w w' := by
  obtain ⟨rfl, h1, h2, h3, h4⟩ := hi0
  obtain ⟨rfl, hi⟩ := hi1
  obtain ⟨rfl, h0, h0r⟩ := hi2
  exact bagPieces_walk1 w a0 cap0 b ⟨h1, h2, h3, h4⟩ a1 cap1 at_ hi a2 cap2 ls h0 h0r

set_option maxRecDepth 100000 in
theorem bagPieces_lifted (os : Os) (started : os.Started) (H : Type) (enc : TypeId × Value → H) :
    ReturnsInHanded {} Try.checked os 5 .any (Rows.bagPiecesSpec.pre6 enc Try.prog Try.f5 Rows.bagPiecesRow.domain false) (Rows.bagPiecesSpec.post enc Try.prog Try.f5 false true false false) := by
  refine returnsInHanded_of_change_sized (C := Try.checked) (by kernel_rfl) started (by kernel_rfl) Try.func5
    (ChangeSpec.witness6 (enc := enc) (C := Try.checked) false ⟨#[], #[.slice none 0 0, .slice none 0 0, .slice none 0 0], []⟩ 8 (by kernel_rfl) (by kernel_rfl) (by kernel_rfl) (by kernel_rfl)) ?_
  intro W base args ds gs before hval0 hW hcnd hsz0 _
  have hval : ∀ (j : Nat) t v, Try.f5.params[j]? = some t → args[j]? = some v → Value.okWide Try.prog W .any base t v := hval0
  have hW' := hW
  obtain ⟨p, q, hA0, hV, rfl, hfz, hnd⟩ := hW
  have hA : DataW.TrodAll enc Try.prog W 0 (fun _ => true) true Try.f5.params.toList args.toList ds p := hA0
  rw [Try.params5] at hA hval
  have hsz : (DataW.weightsEach Try.prog (Try.f5.params.toList ++ Rows.bagPiecesSpec.plain.varTypes Try.prog) (ds ++ gs)).all (· ≤ reachBytes) = true := hsz0
  rw [Try.params5] at hsz
  clear hsz0
  obtain ⟨v0, vs0, d0, ds0, p0, q0, hargs, rfl, rfl, h0, r0⟩ := trodAll_cons hA
  obtain ⟨v1, vs1, d1, ds1, p1, q1, rfl, rfl, rfl, h1, r1⟩ := trodAll_cons r0
  obtain ⟨v2, vs2, d2, ds2, p2, q2, rfl, rfl, rfl, h2, r2⟩ := trodAll_cons r1
  obtain ⟨rfl, rfl, rfl⟩ := trodAll_nil r2
  obtain rfl : args = #[v0, v1, v2] := by cases args; simp_all
  obtain ⟨rfl, rfl⟩ := trodVars_none hV
  have k0 := h0
  have lt0 : ∀ x ∈ p0, x.block < W.heap.size := by obtain ⟨m, hm⟩ := k0; exact DataW.trod_lt m _ _ _ hm
  obtain ⟨a0, len0, cap0, rfl⟩ := okWide_slice Try.underlying22 (hval 0 22 v0 rfl rfl)
  obtain ⟨l0, w0⟩ := inBytes_of (fun _ => rfl) h0
  have k1 := h1
  have lt1 : ∀ x ∈ p1, x.block < W.heap.size := by obtain ⟨m, hm⟩ := k1; exact DataW.trod_lt m _ _ _ hm
  obtain ⟨a1, len1, cap1, rfl⟩ := okWide_slice Try.underlying39 (hval 1 39 v1 rfl rfl)
  obtain ⟨l1, w1⟩ := inInts_of (fun _ => rfl) h1
  have k2 := h2
  have lt2 : ∀ x ∈ p2, x.block < W.heap.size := by obtain ⟨m, hm⟩ := k2; exact DataW.trod_lt m _ _ _ hm
  obtain ⟨a2, len2, cap2, rfl⟩ := okWide_slice Try.underlying36 (hval 2 36 v2 rfl rfl)
  obtain ⟨l2, w2⟩ := inLists_of (fun _ => rfl) h2 (fun n hn => of_decide_eq_true (List.all_eq_true.1 hsz n (by simp [DataW.weightsEach, hn])))
  clear hA0 hval0
  refine (bagPieces_walk W a0 len0 cap0 l0 w0 a1 len1 cap1 l1 w1 a2 len2 cap2 l2 w2).mono fun e W' ⟨he, bel⟩ => ?_
  subst he
  exact ⟨_, rfl, _, _, _, [], _, [], hW', trodAll_mk1 (shut_bool Try.underlying4 _), (trodAll_cons_mk (Below.trod laidOut_all (by kernel_rfl) (of_decide_eq_true (by kernel_rfl)) k0 bel lt0) (trodAll_cons_mk (Below.trod laidOut_all (by kernel_rfl) (of_decide_eq_true (by kernel_rfl)) k1 bel lt1) (trodAll_cons_mk (Below.trod laidOut_all (by kernel_rfl) (of_decide_eq_true (by kernel_rfl)) k2 bel lt2) trodAll_mk0))), rfl, bel.frame _, fun h => by cases h⟩

theorem bagPieces_proved : Rows.BagPiecesSaid :=
  OpenClaim.holds_of_wide 5 Try.f5 rfl rfl rfl rfl rfl rfl rfl ⟨rfl, rfl, rfl, rfl, rfl⟩ rfl rfl rfl rfl rfl (by kernel_rfl) Try.func5 (by kernel_rfl)
    (of_decide_eq_true (by kernel_rfl)) (by unfold Func.isWrapper; first | (rw [if_pos (by decide +kernel)]; kernel_rfl) | (rw [if_neg (by decide +kernel)]; exact ⟨rfl, rfl⟩))
    (fun os started H enc _ => bagPieces_lifted os started H enc)
#print axioms bagPieces_proved
end Go.Proofs.Ytgfhjkphdmkmoac
