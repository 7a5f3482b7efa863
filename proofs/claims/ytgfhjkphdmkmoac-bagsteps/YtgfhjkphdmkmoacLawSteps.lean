/-
  BagSteps is true for every bag, message, kind and place: messages are sent, given, doubled and lost as the document says, and what is answered is new memory; no condition.
-/
import Derived.Test.YtgfhjkphdmkmoacBgRef3
import Derived.Test.YtgfhjkphdmkmoacBgRSame
import Derived.Test.YtgfhjkphdmkmoacBgPoke
import Derived.Test.YtgfhjkphdmkmoacBgRows
namespace Go.Proofs.Ytgfhjkphdmkmoac
open Go.ChangeShapes Go.WideShapes Go.ChangeAt Go.RowKit
open Go.ChangeMaps (open_string shut_string)
set_option linter.unusedSimpArgs false
set_option linter.unusedVariables false
set_option maxRecDepth 100000

/-- what the loops that write keep -/
structure PokS (W : World) (b1 t1 b2 t2 : Nat) (p : Option Addr) (n : Nat) (u : Option Addr) (m : Nat) (x : Option Addr) (l : Nat) (w : World) : Prop where
  p1 : PkL w b1 t1 p n
  p2 : PkL w b2 t2 u m
  p3 : PkB w b2 t2 none x l
  bl : Below W.heap.size W w
theorem PokS.setP {W : World} {b1 t1 b2 t2 : Nat} {p : Option Addr} {n : Nat} {u : Option Addr} {m : Nat} {x : Option Addr} {l : Nat} {w : World} (h : PokS W b1 t1 b2 t2 p n u m x l w) (hW : W.heap.size ≤ b1) (h12 : t1 ≤ b2) (g k y : Nat) (hy : y < 256) (hg : b1 ≤ g) (hg2 : g < t1) (hne : ∀ b, p = some ⟨b, 0, none⟩ → g ≠ b) : PokS W b1 t1 b2 t2 p n u m x l (w.setCell ⟨g, k, none⟩ (.int .u8 y)) := by
  refine ⟨h.p1.set g k y hy hne, ?_, h.p3.set g k y hy, h.bl.setCell (by show W.heap.size ≤ g; omega) _⟩
  by_cases hm : m = 0
  · exact .inl hm
  · obtain ⟨b', e', l1, l2⟩ := h.p2.row hm
    exact h.p2.set g k y hy (fun b hb => by rw [e'] at hb; cases hb; omega)
theorem PokS.setU {W : World} {b1 t1 b2 t2 : Nat} {p : Option Addr} {n : Nat} {u : Option Addr} {m : Nat} {x : Option Addr} {l : Nat} {w : World} (h : PokS W b1 t1 b2 t2 p n u m x l w) (hW : W.heap.size ≤ b1) (h1 : b1 ≤ t1) (h12 : t1 ≤ b2) (g k y : Nat) (hy : y < 256) (hg : b2 ≤ g) (hne : ∀ b, u = some ⟨b, 0, none⟩ → g ≠ b) : PokS W b1 t1 b2 t2 p n u m x l (w.setCell ⟨g, k, none⟩ (.int .u8 y)) := by
  refine ⟨?_, h.p2.set g k y hy hne, h.p3.set g k y hy, h.bl.setCell (by show W.heap.size ≤ g; omega) _⟩
  by_cases hm : n = 0
  · exact .inl hm
  · obtain ⟨b', e', l1, l2⟩ := h.p1.row hm
    exact h.p1.set g k y hy (fun b hb => by rw [e'] at hb; cases hb; omega)
theorem PokS.drew {W : World} {b1 t1 b2 t2 : Nat} {p : Option Addr} {n : Nat} {u : Option Addr} {m : Nat} {x : Option Addr} {l : Nat} {w : World} (h : PokS W b1 t1 b2 t2 p n u m x l w) : PokS W b1 t1 b2 t2 p n u m x l w.drew := ⟨h.p1, h.p2, h.p3, h.bl.drew⟩

set_option maxHeartbeats 2000000 in
theorem bagSteps_walk1 (w : World) (a0 : Option Addr) (cap0 : Nat) (ls : List (List UInt8)) (HL : Hid (Ll w a0 ls cap0)) (HR : Hid (∀ p ∈ ls, p.length ≤ 140737488351232)) (a1 : Option Addr) (cap1 : Nat) (m : List UInt8) (HM : Hid (Sl w a1 m cap1)) (K : Nat) (at_ : Int) :
    Calls Try.prog 6 #[.slice a0 ls.length cap0, .slice a1 m.length cap1, .int .u8 K, .int .i64 at_] w fun e w' => e = .returned (.bool true) ∧ Below w.heap.size w w' := by
  have hmm : m.length ≤ 9223372036854775807 := Nat.le_trans HM.out.hl HM.out.hc
  have hhv := rheavy_any w a0 ls cap0 HL.out
  have HR2 : Hid (∀ p ∈ ls, p.length ≤ 140737488355328) := fun p hp => Nat.le_trans (HR.out p hp) (by decide)
  have HN : Hid (a1 = none → cap1 = 0) := HM.out.hn
  obtain ⟨E1, hE1⟩ : ∃ E1, E1 = sendE ls m := ⟨_, rfl⟩
  obtain ⟨L1, hL1⟩ : ∃ L1, L1 = sendL ls m := ⟨_, rfl⟩
  obtain ⟨E2, hE2⟩ : ∃ E2, E2 = stepE ls.length K at_ := ⟨_, rfl⟩
  obtain ⟨L2, hL2⟩ : ∃ L2, L2 = stepL ls K at_ := ⟨_, rfl⟩
  obtain ⟨O2, hO2⟩ : ∃ O2, O2 = stepO ls K at_ := ⟨_, rfl⟩
  have HSA : Hid (∀ W ao cap mo mc, Ll W ao ls cap → Sl W mo m mc → Calls Try.prog 18 #[.slice ao ls.length cap, .slice mo m.length mc] W fun e w' => ∃ v', e = .returned (.tuple #[v', .int .i64 E1]) ∧ OwnLs w' W.heap.size v' L1 ∧ Below W.heap.size W w') := by
    intro W ao cap mo mc h1 h2; rw [hE1, hL1]; exact send_any W ao ls cap h1 HR2.out mo m mc h2
  have HSR : Hid (∀ W ao cap mo mc, Ll W ao ls cap → Sl W mo m mc → Calls Try.prog 27 #[.slice ao ls.length cap, .slice mo m.length mc] W fun e w' => ∃ v', e = .returned (.tuple #[v', .int .i64 E1]) ∧ OwnLs w' W.heap.size v' L1 ∧ Below W.heap.size W w') := by
    intro W ao cap mo mc h1 h2; rw [hE1, hL1]; exact rsend_any W ao ls cap h1 HR.out mo m mc h2
  have HTA : Hid (∀ W ao cap, Ll W ao ls cap → Calls Try.prog 16 #[.slice ao ls.length cap, .int .u8 K, .int .i64 at_] W (StepPost W E2 L2 O2)) := by
    intro W ao cap h1; rw [hE2, hL2, hO2]; exact step_any W ao ls cap h1 HR2.out K at_
  have HTR : Hid (∀ W ao cap, Ll W ao ls cap → Calls Try.prog 28 #[.slice ao ls.length cap, .int .u8 K, .int .i64 at_] W (StepPost W E2 L2 O2)) := by
    intro W ao cap h1; rw [hE2, hL2, hO2]; exact rstep_any W ao ls cap h1 HR.out K at_
  clear hE1 hL1 hE2 hL2 hO2
  by_cases g0 : (100000 : Int) < (m.length : Int)
  · go_enter Try.func6, Try.ntmps6
    go_wp2_with (go_at_call 21; refine hhv.mono ?_; rintro e w1 ⟨⟨hv, rfl, hlen⟩, rfl⟩)
    all_goals
      go_ret
      exact ⟨rfl, Below.refl _ _⟩
  · have g0' : decide ((100000 : Int) < (m.length : Int)) = false := by simp; omega
    go_enter Try.func6, Try.ntmps6
    go_wp2_with (first
      | (go_at_call 26; have hq := hmk2; refine (rsame_sl w8 uo vo L2 uc vc (hlu.below hb78) (hlv.below hb8)).mono ?_; rintro e w9 ⟨rfl, hb9⟩; have q1 := hfx.conv w9 (hb7.trans ((hb8.trans (hb9.mono hb8.size)).mono hb7.size)); have q2 := hfy.conv w9 (hb8.trans (hb9.mono hb8.size)))
      | (go_at_call 26; (fail_if_success have hq := hmk2); refine (rsame_sl w7 po qo L1 pc qc (hlp.below hb47) (hlq.below hb57)).mono ?_; rintro e w8 ⟨rfl, hb8⟩; have hmk2 := True.intro; have hb78 := hb7.trans (hb8.mono hb7.size))
      | (go_at_call 28; refine (HTR.out w6 a0 cap0 (HL.out.below hb06)).mono ?_; rintro e w7 ⟨v7, y7, rfl, ho7, hfy, hb7⟩; obtain ⟨vo, vc, hv7, hlv⟩ := ho7.ll; subst hv7; have hb07 := hb06.trans (hb7.mono hb06.size); have hb57 := hb6.trans (hb7.mono hb6.size); have hb47 := hb5.trans (hb57.mono hb5.size))
      | (go_at_call 16; refine (HTA.out w5 oo oc (hlo.below hb25)).mono ?_; rintro e w6 ⟨v6, x6, rfl, ho6, hfx, hb6⟩; obtain ⟨uo, uc, hv6, hlu, hpu⟩ := ho6.pk; subst hv6; obtain ⟨xo, xc, hx6, hxl, hxc, hpx⟩ := hfx.pkB; subst hx6; have hb06 := hb05.trans (hb6.mono hb05.size))
      | (go_at_call 27; refine (HSR.out w4 a0 cap0 a1 cap1 (HL.out.below hb04) (HM.out.below hb04)).mono ?_; rintro e w5 ⟨v5, rfl, ho5, hb5⟩; obtain ⟨qo, qc, hv5, hlq⟩ := ho5.ll; subst hv5; have hb05 := hb04.trans (hb5.mono hb04.size); have hb25 := hb24.trans (hb5.mono hb24.size))
      | (go_at_call 18; refine (HSA.out w3 oo oc io ic (hlo.below hb3) hsi).mono ?_; rintro e w4 ⟨v4, rfl, ho4, hb4⟩; obtain ⟨po, pc, hv4, hlp, hpp⟩ := ho4.pk; subst hv4; have hb04 := hb03.trans (hb4.mono hb03.size); have hb24 := hb3.trans (hb4.mono hb3.size))
      | (go_at_call 22; refine (rtwin_any w a0 ls cap0 HL.out HR.out (by first | (have := hlen (Bool.eq_false_iff.2 (by assumption)); omega) | (have := hlen rfl; omega) | (have := hlen (by assumption); omega) | (simp at hlen; omega))).mono ?_; rintro e w2 ⟨v2, rfl, ho2, hb2⟩; obtain ⟨oo, oc, hv2, hlo⟩ := ho2.ll; subst hv2)
      | (at_builtin; refine app_bytes rfl (.const (.slice none 0 0)) (.tmp 35) rfl w2.heap.size _ [] (Own.nil _ _) rfl a1 cap1 m _ rfl rfl w2.heap.size HN.out (HM.out.below hb2).at_ (by simp; omega) (Nat.le_refl _) ?_; intro v3 w3 ho3 hg3; rw [List.nil_append] at ho3; obtain ⟨io, ic, hv3, hsi⟩ := ho3.fresh.sl; subst hv3; have hb3 := hg3.below_nil; have hb03 := hb2.trans (hb3.mono hb2.size))
      | (go_at_call 21; refine hhv.mono ?_; rintro e w1 ⟨⟨hv, rfl, hlen⟩, rfl⟩))
    · go_ret
      exact ⟨rfl, Below.refl _ _⟩
    · have hb79 := hb8.trans (hb9.mono hb8.size)
      have hb69 := hb7.trans (hb79.mono hb7.size)
      have hb59 := hb6.trans (hb69.mono hb6.size)
      have hb49 := hb5.trans (hb59.mono hb5.size)
      have hb39 := hb4.trans (hb49.mono hb4.size)
      have hP9 : PokS w3 w3.heap.size w4.heap.size w5.heap.size w6.heap.size po L1.length uo L2.length xo O2.length w9 := ⟨hpp.below hb49, hpu.below hb69, hpx.below hb69, hb39⟩
      have hL1m : L1.length ≤ 9223372036854775807 := Nat.le_trans hlp.hl hlp.hc
      have hL2m : L2.length ≤ 9223372036854775807 := Nat.le_trans hlu.hl hlu.hc
      have hO2m : O2.length ≤ 9223372036854775807 := Nat.le_trans hxl hxc
      obtain ⟨T1, hT1⟩ : ∃ T1, T1 = w4.heap.size := ⟨_, rfl⟩
      obtain ⟨B2, hB2⟩ : ∃ B2, B2 = w5.heap.size := ⟨_, rfl⟩
      obtain ⟨T2, hT2⟩ : ∃ T2, T2 = w6.heap.size := ⟨_, rfl⟩
      obtain ⟨B1, hB1⟩ : ∃ B1, B1 = w3.heap.size := ⟨_, rfl⟩
      have o1 : w3.heap.size ≤ B1 := by omega
      have o2 : B1 ≤ T1 := by rw [hB1, hT1]; exact hb4.size
      have o3 : T1 ≤ B2 := by rw [hT1, hB2]; exact hb5.size
      rw [← hT1, ← hB2, ← hT2, ← hB1] at hP9
      have HOWN : Hid (Ll w3 oo ls oc) := hlo.below hb3
      have HIN : Hid (Sl w3 io m ic) := hsi
      have hb03' := hb03
      clear hT1 hB2 hT2 hB1 hb79 hb69 hb59 hb49 hb39 hb4 hb5 hb6 hb7 hb8 hb9 hpp hpu hpx hlp hlq hlu hlv hfx hfy hb04 hb05 hb06 hb07 hb24 hb25 hb47 hb57 hb78 ho2 ho3 ho4 ho5 ho6 ho7 HSA HSR HTA HTR hhv hlen hlo hsi hg3 hb2 hb3 HN HR HR2 hmk2 hxl hxc q1 q2
      go_loopw [21] (fun i wr => ∃ k : Nat, k ≤ L1.length ∧ i = .int .i64 k ∧ PokS w3 B1 T1 B2 T2 po L1.length uo L2.length xo O2.length wr) (fun i _ => L1.length - (intOf i).toNat)
      case atStart => exact ⟨0, Nat.zero_le _, rfl, hP9⟩
      case round =>
        obtain ⟨k, hk, rfl, hP⟩ := hrel
        clear hP9
        by_cases hlt : k < L1.length
        · have hlt3 : (k : Int) < (L1.length : Int) := by omega
          rcases id hP.p1 with h0 | ⟨b, rfl, hb1, hb2, hb3, hrow⟩
          · omega
          obtain ⟨bo, len, cp, c1, c2, c3, c4⟩ := hrow k hlt
          have c1' := c1
          clear hrow
          go_wp2
          go_loopw [22] (fun j wr2 => ∃ n2 : Nat, n2 ≤ len ∧ j = .int .i64 n2 ∧ wr2.cell? ⟨b, k, none⟩ = some (.slice bo len cp) ∧ PkB wr2 B1 T1 (some b) bo len ∧ PokS w3 B1 T1 B2 T2 (some ⟨b, 0, none⟩) L1.length uo L2.length xo O2.length wr2) (fun j _ => len - (intOf j).toNat)
          case atStart => exact ⟨0, Nat.zero_le _, rfl, c1', c4, hP⟩
          case round =>
            obtain ⟨n2, hn2, rfl, d1, d2, hP2⟩ := hrel
            by_cases hn3 : n2 < len
            · have hn4 : (n2 : Int) < (len : Int) := by omega
              obtain ⟨g, x, rfl, e1, e2, e3, e4, e5, e6, e7⟩ := d2 n2 hn3
              go_wp2
              go_region
              go_wp2
              have ey : ((x : Int) + 1) % 256 = (((x + 1) % 256 : Nat) : Int) := by omega
              rw [ey]
              have hgb : g ≠ b := fun e => e3 (by rw [e])
              have hy : (x + 1) % 256 < 256 := Nat.mod_lt _ (Nat.zero_lt_succ 255)
              exact ⟨⟨n2 + 1, hn3, rfl, (World.cell?_setCell_other _ _ _ _ (fun e => hgb (congrArg (fun z : Addr => z.block) e))).trans d1, (d2.set g n2 _ hy).drew, (hP2.setP o1 o3 g n2 _ hy e1 e2 (fun b' hb' => by cases hb'; exact hgb)).drew⟩, Nat.sub_lt_sub_left hn3 (Nat.lt_succ_self n2)⟩
            · have hn4 : decide ((n2 : Int) < (len : Int)) = false := by simp; omega
              go_wp2
              go_roundw
              case rel => exact ⟨k + 1, by omega, by go_num, hP2⟩
              case measure => simp [intOf]; omega
        · have hlt3 : decide ((k : Int) < (L1.length : Int)) = false := by simp; omega
          go_wp2
          go_loopw [23] (fun i wr => ∃ k : Nat, k ≤ L2.length ∧ i = .int .i64 k ∧ PokS w3 B1 T1 B2 T2 po L1.length uo L2.length xo O2.length wr) (fun i _ => L2.length - (intOf i).toNat)
          case atStart => exact ⟨0, Nat.zero_le _, rfl, hP⟩
          case round =>
            clear hP hlt3 hlt hk
            obtain ⟨k2, hk2, rfl, hP⟩ := hrel
            by_cases hlt : k2 < L2.length
            · have hlt3 : (k2 : Int) < (L2.length : Int) := by omega
              rcases id hP.p2 with h0 | ⟨b, rfl, hb1, hb2, hb3, hrow⟩
              · omega
              obtain ⟨bo, len, cp, c1, c2, c3, c4⟩ := hrow k2 hlt
              have c1' := c1
              clear hrow
              go_wp2
              go_loopw [24] (fun j wr2 => ∃ n2 : Nat, n2 ≤ len ∧ j = .int .i64 n2 ∧ wr2.cell? ⟨b, k2, none⟩ = some (.slice bo len cp) ∧ PkB wr2 B2 T2 (some b) bo len ∧ PokS w3 B1 T1 B2 T2 po L1.length (some ⟨b, 0, none⟩) L2.length xo O2.length wr2) (fun j _ => len - (intOf j).toNat)
              case atStart => exact ⟨0, Nat.zero_le _, rfl, c1', c4, hP⟩
              case round =>
                obtain ⟨n2, hn2, rfl, d1, d2, hP2⟩ := hrel
                by_cases hn3 : n2 < len
                · have hn4 : (n2 : Int) < (len : Int) := by omega
                  obtain ⟨g, x, rfl, e1, e2, e3, e4, e5, e6, e7⟩ := d2 n2 hn3
                  go_wp2
                  go_region
                  go_wp2
                  have ey : ((x : Int) + 1) % 256 = (((x + 1) % 256 : Nat) : Int) := by omega
                  rw [ey]
                  have hgb : g ≠ b := fun e => e3 (by rw [e])
                  have hy : (x + 1) % 256 < 256 := Nat.mod_lt _ (Nat.zero_lt_succ 255)
                  exact ⟨⟨n2 + 1, hn3, rfl, (World.cell?_setCell_other _ _ _ _ (fun e => hgb (congrArg (fun z : Addr => z.block) e))).trans d1, (d2.set g n2 _ hy).drew, (hP2.setU o1 o2 o3 g n2 _ hy e1 (fun b' hb' => by cases hb'; exact hgb)).drew⟩, Nat.sub_lt_sub_left hn3 (Nat.lt_succ_self n2)⟩
                · have hn4 : decide ((n2 : Int) < (len : Int)) = false := by simp; omega
                  go_wp2
                  go_roundw
                  case rel => exact ⟨k2 + 1, by omega, by go_num, hP2⟩
                  case measure => simp [intOf]; omega
            · have hlt3 : decide ((k2 : Int) < (L2.length : Int)) = false := by simp; omega
              go_wp2
              go_loopw [25] (fun i wr => ∃ k : Nat, k ≤ O2.length ∧ i = .int .i64 k ∧ PkB wr B2 T2 none xo O2.length ∧ Below w3.heap.size w3 wr) (fun i _ => O2.length - (intOf i).toNat)
              case atStart => exact ⟨0, Nat.zero_le _, rfl, hP.p3, hP.bl⟩
              case round =>
                clear hP hlt3 hlt hk2
                obtain ⟨k3, hk3, rfl, d2, hbl⟩ := hrel
                by_cases hn3 : k3 < O2.length
                · have hn4 : (k3 : Int) < (O2.length : Int) := by omega
                  obtain ⟨g, x, rfl, e1, e2, e3, e4, e5, e6, e7⟩ := d2 k3 hn3
                  go_wp2
                  have ey : ((x : Int) + 1) % 256 = (((x + 1) % 256 : Nat) : Int) := by omega
                  rw [ey]
                  have hy : (x + 1) % 256 < 256 := Nat.mod_lt _ (Nat.zero_lt_succ 255)
                  exact ⟨⟨k3 + 1, hn3, rfl, d2.set g k3 _ hy, hbl.setCell (show w3.heap.size ≤ g from Nat.le_trans o1 (Nat.le_trans o2 (Nat.le_trans o3 e1))) _⟩, Nat.sub_lt_sub_left hn3 (Nat.lt_succ_self k3)⟩
                · have hn4 : decide ((k3 : Int) < (O2.length : Int)) = false := by simp; omega
                  have hb0r := hb03'.trans (hbl.mono hb03'.size)
                  have hsame := rsame_sl wr oo a0 ls oc cap0 (HOWN.out.below hbl) (HL.out.below hb0r)
                  go_wp2_with (go_at_call 26; refine hsame.mono ?_; rintro e w10 ⟨rfl, hb10⟩; have q1 := HIN.out.conv rfl w10 (hbl.trans (hb10.mono hbl.size)); have q2 := HM.out.conv rfl w10 (hb0r.trans (hb10.mono hb0r.size)))
                  go_ret
                  exact ⟨rfl, hb0r.trans (hb10.mono hb0r.size)⟩

theorem bagSteps_walk (w : World) (a0 : Option Addr) (len0 cap0 : Nat) (ls : List (List UInt8)) (hi0 : InLists w a0 len0 cap0 ls) (a1 : Option Addr) (len1 cap1 : Nat) (m : List UInt8) (hi1 : InBytes w a1 len1 cap1 m) (k : Int) (wk : (Lit.int .u8 k).wf = true) (at_ : Int) (wa : (Lit.int .i64 at_).wf = true) :
    Calls Try.prog 6 #[.slice a0 len0 cap0, .slice a1 len1 cap1, .int .u8 k, .int .i64 at_] w fun e w' => e = .returned (.bool true) ∧ Below w.heap.size w w' := by
  obtain ⟨rfl, h0, h0r⟩ := hi0
  obtain ⟨rfl, h1, h2, h3, h4⟩ := hi1
  obtain ⟨K, rfl⟩ : ∃ K : Nat, k = (K : Int) := ⟨k.toNat, by have := bounds_u8 wk; omega⟩
  exact bagSteps_walk1 w a0 cap0 ls h0 h0r a1 cap1 m ⟨h1, h2, h3, h4⟩ K at_

set_option maxRecDepth 100000 in
theorem bagSteps_lifted (os : Os) (started : os.Started) (H : Type) (enc : TypeId × Value → H) :
    ReturnsInHanded {} Try.checked os 6 .any (Rows.bagStepsSpec.pre6 enc Try.prog Try.f6 Rows.bagStepsRow.domain false) (Rows.bagStepsSpec.post enc Try.prog Try.f6 false true false false) := by
  refine returnsInHanded_of_change_sized (C := Try.checked) (by kernel_rfl) started (by kernel_rfl) Try.func6
    (ChangeSpec.witness6 (enc := enc) (C := Try.checked) false ⟨#[], #[.slice none 0 0, .slice none 0 0, .int .u8 0, .int .i64 0], []⟩ 8 (by kernel_rfl) (by kernel_rfl) (by kernel_rfl) (by kernel_rfl)) ?_
  intro W base args ds gs before hval0 hW hcnd hsz0 _
  have hval : ∀ (j : Nat) t v, Try.f6.params[j]? = some t → args[j]? = some v → Value.okWide Try.prog W .any base t v := hval0
  have hW' := hW
  obtain ⟨p, q, hA0, hV, rfl, hfz, hnd⟩ := hW
  have hA : DataW.TrodAll enc Try.prog W 0 (fun _ => true) true Try.f6.params.toList args.toList ds p := hA0
  rw [Try.params6] at hA hval
  have hsz : (DataW.weightsEach Try.prog (Try.f6.params.toList ++ Rows.bagStepsSpec.plain.varTypes Try.prog) (ds ++ gs)).all (· ≤ reachBytes) = true := hsz0
  rw [Try.params6] at hsz
  clear hsz0
  obtain ⟨v0, vs0, d0, ds0, p0, q0, hargs, rfl, rfl, h0, r0⟩ := trodAll_cons hA
  obtain ⟨v1, vs1, d1, ds1, p1, q1, rfl, rfl, rfl, h1, r1⟩ := trodAll_cons r0
  obtain ⟨v2, vs2, d2, ds2, p2, q2, rfl, rfl, rfl, h2, r2⟩ := trodAll_cons r1
  obtain ⟨v3, vs3, d3, ds3, p3, q3, rfl, rfl, rfl, h3, r3⟩ := trodAll_cons r2
  obtain ⟨rfl, rfl, rfl⟩ := trodAll_nil r3
  obtain rfl : args = #[v0, v1, v2, v3] := by cases args; simp_all
  obtain ⟨rfl, rfl⟩ := trodVars_none hV
  have k0 := h0
  have lt0 : ∀ x ∈ p0, x.block < W.heap.size := by obtain ⟨m, hm⟩ := k0; exact DataW.trod_lt m _ _ _ hm
  obtain ⟨a0, len0, cap0, rfl⟩ := okWide_slice Try.underlying36 (hval 0 36 v0 rfl rfl)
  obtain ⟨l0, w0⟩ := inLists_of (fun _ => rfl) h0 (fun n hn => of_decide_eq_true (List.all_eq_true.1 hsz n (by simp [DataW.weightsEach, hn])))
  have k1 := h1
  have lt1 : ∀ x ∈ p1, x.block < W.heap.size := by obtain ⟨m, hm⟩ := k1; exact DataW.trod_lt m _ _ _ hm
  obtain ⟨a1, len1, cap1, rfl⟩ := okWide_slice Try.underlying22 (hval 1 22 v1 rfl rfl)
  obtain ⟨l1, w1⟩ := inBytes_of (fun _ => rfl) h1
  obtain ⟨a2, rfl, rfl, rfl, w2⟩ := open_int Try.underlying5 (hval 2 5 v2 rfl rfl) h2
  obtain ⟨a3, rfl, rfl, rfl, w3⟩ := open_int Try.underlying3 (hval 3 3 v3 rfl rfl) h3
  clear hA0 hval0
  refine (bagSteps_walk W a0 len0 cap0 l0 w0 a1 len1 cap1 l1 w1 a2 w2 a3 w3).mono fun e W' ⟨he, bel⟩ => ?_
  subst he
  exact ⟨_, rfl, _, _, _, [], _, [], hW', trodAll_mk1 (shut_bool Try.underlying4 _), (trodAll_cons_mk (Below.trod laidOut_all (by kernel_rfl) (of_decide_eq_true (by kernel_rfl)) k0 bel lt0) (trodAll_cons_mk (Below.trod laidOut_all (by kernel_rfl) (of_decide_eq_true (by kernel_rfl)) k1 bel lt1) (trodAll_cons_mk (shut_int Try.underlying5 w2) (trodAll_cons_mk (shut_int Try.underlying3 w3) trodAll_mk0)))), rfl, bel.frame _, fun h => by cases h⟩

theorem bagSteps_proved : Rows.BagStepsSaid :=
  OpenClaim.holds_of_wide 6 Try.f6 rfl rfl rfl rfl rfl rfl rfl ⟨rfl, rfl, rfl, rfl, rfl⟩ rfl rfl rfl rfl rfl (by kernel_rfl) Try.func6 (by kernel_rfl)
    (of_decide_eq_true (by kernel_rfl)) (by unfold Func.isWrapper; first | (rw [if_pos (by decide +kernel)]; kernel_rfl) | (rw [if_neg (by decide +kernel)]; exact ⟨rfl, rfl⟩))
    (fun os started H enc _ => bagSteps_lifted os started H enc)
#print axioms bagSteps_proved
end Go.Proofs.Ytgfhjkphdmkmoac
