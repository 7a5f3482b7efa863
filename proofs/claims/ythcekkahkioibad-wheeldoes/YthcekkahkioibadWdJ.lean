/-
  Contract of the document's Add (wheel), where a name is added.
-/
import Derived.Test.YthcekkahkioibadWdI
import Derived.Deep.RegionWith
namespace Go.Proofs.Ythcekkahkioibad
open Go.RowKit
set_option linter.unusedSimpArgs false
set_option linter.unusedVariables false
set_option maxRecDepth 100000

set_option maxHeartbeats 2000000 in
theorem wadd_good (w : World) (now : Nat) (ao : Option Addr) (D : List NU) (cap : Nat) (h : De w ao D cap) (hl : D.length ≤ 100000) (ha : D.Pairwise (fun p q => p.1 ≠ q.1)) (y : Nm) (u : Int) (hE : addE now y u = 0) :
    Calls Try.prog 45 #[wv now ao D.length cap, .agg #[.int .i64 y.tenant, .string y.key], .int .i64 u] w fun e w' => ∃ ro rc, e = .returned (.tuple #[wv now ro (insT (y, u) (strike y D)).length rc, .int .i64 0]) ∧ OwnE w' w.heap.size (.slice ro (insT (y, u) (strike y D)).length rc) (insT (y, u) (strike y D)) ∧ Below w.heap.size w w' := by
  have hok : y.ok ∧ ¬ (u ≤ (now : Int) ∨ 1099511627776 < u) := by
    unfold addE at hE
    by_cases h1 : y.ok
    · rw [if_pos h1] at hE
      by_cases h2 : u ≤ (now : Int) ∨ 1099511627776 < u
      · rw [if_pos h2] at hE; cases hE
      · exact ⟨h1, h2⟩
    · rw [if_neg h1] at hE; cases hE
  have HNM := Hid.mk2 (fun W => wname_any y W)
  rw [decide_eq_true hok.1] at HNM
  have t1 : decide (u ≤ (now : Int)) = false := by have := hok.2; simp; omega
  have t2 : decide (1099511627776 < u) = false := by have := hok.2; simp; omega
  have HFI := Hid.mk2 (fun W (hb : Below w.heap.size w W) => wfind_wo W now ao D cap (h.below hb) hl ha y)
  have HWO := Hid.mk2 (fun W (hb : Below w.heap.size w W) k => wwo_any W now ao D cap (h.below hb) hl k)
  have hSl : (strike y D).length ≤ 100000 := Nat.le_trans (List.length_filter_le _ _) hl
  obtain ⟨S, hS⟩ : ∃ S, S = strike y D := ⟨_, rfl⟩
  rw [← hS] at HFI hSl ⊢
  clear hok hE h hl ha hS
  go_enter Try.func45, Try.ntmps45
  go_upto_region 1 with (fail)
  obtain ⟨w0, hw0⟩ : ∃ w0, w0 = ((w.alloc (Obj.cells #[.int .i64 now, .slice ao D.length cap] 45)).alloc (Obj.cells #[.int .i64 y.tenant, .string y.key] 24)).alloc (Obj.cells #[.int .i64 0, .slice none 0 0] 45) := ⟨_, rfl⟩
  rw [← hw0]
  have HK : Hid (Bx w w0 now ao D.length cap y) := by rw [hw0]; exact Bx.begin _ _ _ _ _ _
  clear hw0
  obtain ⟨k0, k1, k2, k3, k4, k5, k6, k7, k8, k9, kA⟩ := HK.out.facts
  go_upto_region 5 with (go_at_call 68; refine (HNM.out _).mono ?_; rintro e w1 ⟨rfl, hb1⟩; have HK1 := Hid.mk2 (HK.out.step hb1); clear hb1 k0 k1 k2 k3 k4 k5 k6 k7 k8 k9 kA; obtain ⟨k0, k1, k2, k3, k4, k5, k6, k7, k8, k9, kA⟩ := HK1.out.facts)
  clear HK
  have HP : Hid (∀ W, Bx w W now ao D.length cap y → W.cell? ⟨w.heap.size, 0, none⟩ = some (.int .i64 now) ∧ W.cell? ⟨w.heap.size, 1, none⟩ = some (.slice ao D.length cap) ∧ W.cell? ⟨w.heap.size + 1, 0, none⟩ = some (.int .i64 y.tenant) ∧ W.cell? ⟨w.heap.size + 1, 1, none⟩ = some (.string y.key)) := fun W h => ⟨h.facts.1, h.facts.2.1, h.facts.2.2.1, h.facts.2.2.2.1⟩
  go_cut [] from 10 (fun wx => ∃ ro rc, Hid (Bx w wx now ro S.length rc y) ∧ Hid (OwnE wx w1.heap.size (.slice ro S.length rc) S))
  case first =>
    clear k4 k5 k6 k7 k8 k9 kA
    go_region_with (first
        | (go_at_call 69; refine (HFI.out _ (by first | exact HK1.out.below | exact HK1.out.drew.below)).mono ?_; rintro e w2 ⟨i, rfl, HWS, hb2⟩; have HK2 : Hid (Bx w w2 now ao D.length cap y) := (by first | exact HK1.out.step hb2 | exact HK1.out.drew.step hb2); have hs2 : w1.heap.size ≤ w2.heap.size := hb2.size; clear k0 k1 k2 k3; obtain ⟨k0, k1, k2, k3⟩ := HP.out _ HK2.out)
        | (go_at_call 70; refine (HWO.out _ HK2.out.below i).mono ?_; rw [HWS.out]; rintro e w3 ⟨ro, rc, rfl, hO3, hb3⟩; have HK3 : Hid (Bx w w3 now ao D.length cap y) := HK2.out.step hb3; clear k0 k1 k2 k3; obtain ⟨k0, k1, k2, k3, k4, k5, k6, k7, k8, k9, kA⟩ := HK3.out.facts; have HO3 := Hid.mk2 (hO3.down hs2); clear hO3))
    all_goals
      go_wp2
      go_meet
      case rel =>
        have hx : w.heap.size < w1.heap.size := by have := HK1.out.facts.2.2.2.2.2.2.2.2.2.2; omega
        exact ⟨ro, rc, HK3.out.set ro S.length rc, HO3.out.set2 hx⟩
  case rest =>
    obtain ⟨ro, rc, HK5, HO5⟩ := hcut
    obtain ⟨w5, hw5⟩ : ∃ x, x = wc := ⟨_, rfl⟩
    rw [← hw5] at HK5 HO5 ⊢
    clear hw5 HFI HWO HNM HP k0 k1 k2 k3 k4 k5 k6 k7 k8 k9 kA t1 t2 HK1
    have HD5 := Hid.mk2 HO5.out.de'
    have hcap5 := HD5.out.hl
    have HRO : Hid ((ro = none ∧ S = [] ∧ rc = 0) ∨ ∃ g, ro = some ⟨g, 0, none⟩) := HO5.out.row
    clear HO5
    have HLS := Hid.mk2 (fun W z => less_any W z y)
    go_wp2
    go_loopw [8] (fun s8 wr => ∃ j : Nat, j ≤ S.length ∧ s8 = .int .i64 j ∧ Hid (∀ x ∈ S.take j, tlt x (y, u)) ∧ Hid (Below w5.heap.size w5 wr)) (fun s8 _ => S.length - (intOf s8).toNat)
    case atStart => exact ⟨0, Nat.zero_le _, rfl, by intro x hx; simp at hx, Below.refl _ _⟩
    case round =>
      obtain ⟨j, hj, rfl, HT, HBr⟩ := hrel
      have HKr := Hid.mk2 (HK5.out.step HBr.out)
      have HDr := Hid.mk2 (HD5.out.below HBr.out)
      obtain ⟨k0, k1, k2, k3, k4, k5, k6, k7, k8, k9, kA⟩ := HKr.out.facts
      clear k4 k5 k6 k7 k8 k9
      go_upto_region 7 with (fail)
      go_cut [62] from 28 to 64 (fun s62 wx => s62 = .bool (aheadB S (y, u) j) ∧ Hid (Below w5.heap.size w5 wx))
      case first =>
        by_cases hlt : j < S.length
        · have hlt2 : (j : Int) < (S.length : Int) := by omega
          rcases HDr.out.at_ with h0 | ⟨b, off, rfl, hbb, hcs⟩
          · rw [h0] at hlt; simp at hlt
          obtain ⟨q0, q1, q2⟩ := hcs j hlt
          obtain ⟨z, hz⟩ : ∃ z, z = S[j] := ⟨_, rfl⟩
          rw [← hz] at q0 q1 q2
          have HA : Hid (aheadB S (y, u) j = decide (tlt z (y, u))) := by show _ = _; rw [ahead_some hlt, hz]
          clear hz hcs HKr HDr HK5 HD5
          by_cases h1 : z.2 < u
          · have g1 : decide (z.2 < u) = true := by simp [h1]
            have HV : Hid (aheadB S (y, u) j = true) := by show _ = _; rw [HA.out]; exact decide_eq_true (.inl h1)
            clear h1
            go_quiet (fail)
            go_wp2
            go_meet
            case rel => exact ⟨by rw [HV.out], below_drewN HBr.out _⟩
          · have g1 : decide (z.2 < u) = false := by simp; omega
            by_cases h2 : z.2 = u
            · have g2 : (z.2 == u) = true := by simp [h2]
              have HV : Hid (aheadB S (y, u) j = decide (nlt z.1 y)) := by
                show _ = _
                rw [HA.out, decide_eq_decide]
                unfold tlt
                constructor
                · rintro (h | h)
                  · exact absurd h h1
                  · exact h.2
                · intro h; exact .inr ⟨h2, h⟩
              obtain ⟨v, hv⟩ : ∃ v, v = decide (nlt z.1 y) := ⟨_, rfl⟩
              have HLZ := Hid.mk2 (fun W => less_any W z.1 y)
              rw [← hv] at HLZ HV
              clear h1 h2 hv
              have HQ : Hid (∀ W, Below wr.heap.size wr W → W.cell? ⟨w.heap.size, 1, none⟩ = some (.slice (some ⟨b, off, none⟩) S.length rc) ∧ W.cell? ⟨w.heap.size + 1, 0, none⟩ = some (.int .i64 y.tenant) ∧ W.cell? ⟨w.heap.size + 1, 1, none⟩ = some (.string y.key) ∧ W.cell? ⟨b, off + j * 3, none⟩ = some (.int .i64 z.1.tenant) ∧ W.cell? ⟨b, off + j * 3 + 1, none⟩ = some (.string z.1.key) ∧ W.cell? ⟨b, off + j * 3 + 2, none⟩ = some (.int .i64 z.2)) := fun W hb =>
                ⟨(bcl hb _ _ (by omega)).trans k1, (bcl hb _ _ (by omega)).trans k2, (bcl hb _ _ (by omega)).trans k3, (bcl hb _ _ hbb).trans q0, (bcl hb _ _ hbb).trans q1, (bcl hb _ _ hbb).trans q2⟩
              go_region_held3 (fun W => W.cell? ⟨w.heap.size, 1, none⟩ = some (.slice (some ⟨b, off, none⟩) S.length rc) ∧ W.cell? ⟨w.heap.size + 1, 0, none⟩ = some (.int .i64 y.tenant) ∧ W.cell? ⟨w.heap.size + 1, 1, none⟩ = some (.string y.key) ∧ W.cell? ⟨b, off + j * 3, none⟩ = some (.int .i64 z.1.tenant) ∧ W.cell? ⟨b, off + j * 3 + 1, none⟩ = some (.string z.1.key) ∧ W.cell? ⟨b, off + j * 3 + 2, none⟩ = some (.int .i64 z.2))
                (first | exact HQ.out _ HB7.out | exact HQ.out _ (Below.refl _ _) | exact HQ.out _ ((Below.refl _ _).drew))
                (first | (go_at_call 21; refine (HLZ.out _).mono ?_; rintro e w7 ⟨rfl, hb7⟩; have HB7 : Hid (Below wr.heap.size wr w7) := (by first | exact hb7 | exact ((Below.refl _ _).drew).trans hb7)))
              all_goals
                go_wp2
                go_meet
                case rel => exact ⟨by rw [HV.out], HBr.out.trans (HB7.out.mono HBr.out.size)⟩
            · have g2 : (z.2 == u) = false := by simp [h2]
              have HV : Hid (aheadB S (y, u) j = false) := by
                show _ = _
                rw [HA.out]
                refine decide_eq_false ?_
                rintro (h | h)
                · exact h1 h
                · exact h2 h.1
              clear h1 h2
              go_quiet (fail)
              go_wp2
              go_meet
              case rel => exact ⟨by rw [HV.out], below_drewN HBr.out _⟩
        · have hlt2 : decide ((j : Int) < (S.length : Int)) = false := by simp; omega
          have HV := Hid.mk2 (ahead_none (q := (y, u)) hlt)
          go_quiet (fail)
          go_wp2
          go_meet
          case rel => exact ⟨by rw [HV.out], below_drewN HBr.out _⟩
      case rest =>
        obtain ⟨rfl, HB6⟩ := hcut
        obtain ⟨w6, hw6⟩ : ∃ x, x = wc := ⟨_, rfl⟩
        rw [← hw6] at HB6 ⊢
        clear hw6 k0 k1 k2 k3 kA HKr HDr
        have HK6 := Hid.mk2 (HK5.out.step HB6.out)
        have HD6 := Hid.mk2 (HD5.out.below HB6.out)
        obtain ⟨k0, k1, k2, k3, k4, k5, k6, k7, k8, k9, kA⟩ := HK6.out.facts
        cases hah : aheadB S (y, u) j with
        | true =>
          have hlt : j < S.length := Classical.byContradiction fun h => by rw [ahead_none h] at hah; cases hah
          have HX : Hid (tlt S[j] (y, u)) := by (rw [ahead_some hlt] at hah; exact of_decide_eq_true (p := tlt S[j] (y, u)) hah)
          go_wp2
          go_roundw
          case rel =>
            refine ⟨j + 1, by omega, by go_num, ?_, HB6⟩
            intro x hx
            rw [List.take_succ_eq_append_getElem hlt] at hx
            rcases List.mem_append.1 hx with hm | hm
            · exact HT.out x hm
            · rw [List.mem_singleton.1 hm]; exact HX.out
          case measure => simp [intOf]; omega
        | false =>
          have HW : Hid (insT (y, u) S = S.take j ++ [(y, u)] ++ S.drop j) := while_take hj HT.out (fun h e => by rw [ahead_some h, decide_eq_true e] at hah; cases hah)
          have htl : (S.take j).length = j := by simp; omega
          have hdl : (S.drop j).length = S.length - j := by simp
          have hA6 := kA
          rcases HRO.out with ⟨rfl, rfl, rfl⟩ | ⟨g, rfl⟩
          · have hj0 : j = 0 := by simpa using hj
            subst hj0
            clear hah
            go_upto_region 10 with (fail)
            go_upto_region 11 with (at_builtin; refine app_es rfl (.tmp 65) (.tmp 69) rfl w6.heap.size _ [] (OwnE.nil _ _) rfl none [] 0 (by first | rfl | (rw [htl]; rfl)) HD6.out (by first | (simp; done) | (simp; omega)) (Nat.le_refl _) ?_; rw [List.nil_append]; intro v7 w7 ho7 hg7; have HB7 : Hid (Below w6.heap.size w6 w7) := (Below.refl _ _).grown hg7.grown (Nat.le_refl _) (fun k hk => by cases hk); have HK7 := Hid.mk2 (HK6.out.step HB7.out); clear k0 k1 k2 k3 k4 k5 k6 k7 k8 k9 kA; obtain ⟨k0, k1, k2, k3, k4, k5, k6, k7, k8, k9, kA⟩ := HK7.out.facts)
            clear hg7
            go_upto_region 12 with (at_builtin; refine app_e rfl (.tmp 71) (.tmp 75) rfl w6.heap.size _ _ ho7 rfl (y, u) rfl _ rfl rfl (by first | (simp; done) | (simp; omega)) HB7.out.size ?_; intro v8 w8 ho8 hg8; have HB8 : Hid (Below w6.heap.size w6 w8) := grew_below HB7.out ho7 HB7.out.size hg8; have HK8 := Hid.mk2 (HK6.out.step HB8.out); clear k0 k1 k2 k3 k4 k5 k6 k7 k8 k9 kA; obtain ⟨k0, k1, k2, k3, k4, k5, k6, k7, k8, k9, kA⟩ := HK8.out.facts)
            clear ho7 hg8 HK7 HB7
            go_upto_region 13 with (at_builtin; refine app_es rfl (.tmp 77) (.tmp 81) rfl w6.heap.size _ _ ho8 rfl none [] 0 (by first | rfl | (rw [hdl]; rfl)) (HD6.out.below HB8.out) (by first | (simp; done) | (simp; omega)) HB8.out.size ?_; intro v9 w9 ho9 hg9; have HB9 : Hid (Below w6.heap.size w6 w9) := grew_below HB8.out ho8 HB8.out.size hg9; have HK9 := Hid.mk2 (HK6.out.step HB9.out); clear k0 k1 k2 k3 k4 k5 k6 k7 k8 k9 kA; obtain ⟨k0, k1, k2, k3, k4, k5, k6, k7, k8, k9, kA⟩ := HK9.out.facts)
            have hw0 := HW.out; simp only [List.take_nil, List.drop_nil, List.nil_append, List.append_nil] at hw0; simp only [List.nil_append, List.append_nil] at ho9; rw [← hw0] at ho9; clear hw0
            obtain ⟨lo, lc, hv, -⟩ := ho9.de
            subst hv
            have HO9 := Hid.mk2 ho9
            have z0 := set2_0 (a := .int .i64 now) (b := .slice lo (insT (y, u) []).length lc) k4
            have z1 := set2_1 (a := .int .i64 now) (b := .slice lo (insT (y, u) []).length lc) k5
            clear ho8 ho9 hg9 HB8
            go_wp2
            try simp only [Exit.inBlock, Exit.then]
            exact bodyPost_ret (v := .tuple #[wv now lo (insT (y, u) []).length lc, .int .i64 0]) (by simp [results, Try.results45, go_sem, z0, z1]) rfl ⟨lo, lc, rfl, (HO9.out.set2 hA6).down HK6.out.below.size, below_set2 HK9.out.below (by omega)⟩
          · clear hah
            by_cases hrj : rc = j
            · obtain rfl : j = S.length := by omega
              subst hrj
              go_upto_region 10 with (fail)
              go_upto_region 11 with (at_builtin; refine app_es rfl (.tmp 65) (.tmp 69) rfl w6.heap.size _ [] (OwnE.nil _ _) rfl (some ⟨g, 0, none⟩) (S.take S.length) S.length (by first | rfl | (rw [htl]; rfl)) (HD6.out.take S.length) (by first | (simp; done) | (simp; omega)) (Nat.le_refl _) ?_; rw [List.nil_append]; intro v7 w7 ho7 hg7; have HB7 : Hid (Below w6.heap.size w6 w7) := (Below.refl _ _).grown hg7.grown (Nat.le_refl _) (fun k hk => by cases hk); have HK7 := Hid.mk2 (HK6.out.step HB7.out); clear k0 k1 k2 k3 k4 k5 k6 k7 k8 k9 kA; obtain ⟨k0, k1, k2, k3, k4, k5, k6, k7, k8, k9, kA⟩ := HK7.out.facts)
              clear hg7
              go_upto_region 12 with (at_builtin; refine app_e rfl (.tmp 71) (.tmp 75) rfl w6.heap.size _ _ ho7 rfl (y, u) rfl _ rfl rfl (by first | (simp; done) | (simp; omega)) HB7.out.size ?_; intro v8 w8 ho8 hg8; have HB8 : Hid (Below w6.heap.size w6 w8) := grew_below HB7.out ho7 HB7.out.size hg8; have HK8 := Hid.mk2 (HK6.out.step HB8.out); clear k0 k1 k2 k3 k4 k5 k6 k7 k8 k9 kA; obtain ⟨k0, k1, k2, k3, k4, k5, k6, k7, k8, k9, kA⟩ := HK8.out.facts)
              clear ho7 hg8 HK7 HB7
              go_upto_region 13 with (at_builtin; refine app_es rfl (.tmp 77) (.tmp 81) rfl w6.heap.size _ _ ho8 rfl (some ⟨g, 0, none⟩) [] 0 (by first | rfl | (rw [hdl]; rfl)) ⟨by simp, by simp [maxLen], (by intro e; cases e), .inl rfl⟩ (by first | (simp; done) | (simp; omega)) HB8.out.size ?_; intro v9 w9 ho9 hg9; have HB9 : Hid (Below w6.heap.size w6 w9) := grew_below HB8.out ho8 HB8.out.size hg9; have HK9 := Hid.mk2 (HK6.out.step HB9.out); clear k0 k1 k2 k3 k4 k5 k6 k7 k8 k9 kA; obtain ⟨k0, k1, k2, k3, k4, k5, k6, k7, k8, k9, kA⟩ := HK9.out.facts)
              have hw0 := HW.out; rw [List.drop_length] at hw0; rw [← hw0] at ho9; clear hw0
              obtain ⟨lo, lc, hv, -⟩ := ho9.de
              subst hv
              have HO9 := Hid.mk2 ho9
              have z0 := set2_0 (a := .int .i64 now) (b := .slice lo (insT (y, u) S).length lc) k4
              have z1 := set2_1 (a := .int .i64 now) (b := .slice lo (insT (y, u) S).length lc) k5
              clear ho8 ho9 hg9 HB8
              go_wp2
              try simp only [Exit.inBlock, Exit.then]
              exact bodyPost_ret (v := .tuple #[wv now lo (insT (y, u) S).length lc, .int .i64 0]) (by simp [results, Try.results45, go_sem, z0, z1]) rfl ⟨lo, lc, rfl, (HO9.out.set2 hA6).down HK6.out.below.size, below_set2 HK9.out.below (by omega)⟩
            · have hrj2 : ¬ j = rc := fun e => hrj e.symm
              go_upto_region 10 with (fail)
              go_upto_region 11 with (at_builtin; refine app_es rfl (.tmp 65) (.tmp 69) rfl w6.heap.size _ [] (OwnE.nil _ _) rfl (some ⟨g, 0, none⟩) (S.take j) rc (by first | rfl | (rw [htl]; rfl)) (HD6.out.take j) (by first | (simp; done) | (simp; omega)) (Nat.le_refl _) ?_; rw [List.nil_append]; intro v7 w7 ho7 hg7; have HB7 : Hid (Below w6.heap.size w6 w7) := (Below.refl _ _).grown hg7.grown (Nat.le_refl _) (fun k hk => by cases hk); have HK7 := Hid.mk2 (HK6.out.step HB7.out); clear k0 k1 k2 k3 k4 k5 k6 k7 k8 k9 kA; obtain ⟨k0, k1, k2, k3, k4, k5, k6, k7, k8, k9, kA⟩ := HK7.out.facts)
              clear hg7
              go_upto_region 12 with (at_builtin; refine app_e rfl (.tmp 71) (.tmp 75) rfl w6.heap.size _ _ ho7 rfl (y, u) rfl _ rfl rfl (by first | (simp; done) | (simp; omega)) HB7.out.size ?_; intro v8 w8 ho8 hg8; have HB8 : Hid (Below w6.heap.size w6 w8) := grew_below HB7.out ho7 HB7.out.size hg8; have HK8 := Hid.mk2 (HK6.out.step HB8.out); clear k0 k1 k2 k3 k4 k5 k6 k7 k8 k9 kA; obtain ⟨k0, k1, k2, k3, k4, k5, k6, k7, k8, k9, kA⟩ := HK8.out.facts)
              clear ho7 hg8 HK7 HB7
              go_upto_region 13 with (at_builtin; refine app_es rfl (.tmp 77) (.tmp 81) rfl w6.heap.size _ _ ho8 rfl (some ⟨g, j * 3, none⟩) (S.drop j) (rc - j) (by first | rfl | (rw [hdl]; rfl)) (by have := (HD6.out.below HB8.out).drop j; rwa [Nat.zero_add] at this) (by first | (simp; done) | (simp; omega)) HB8.out.size ?_; intro v9 w9 ho9 hg9; have HB9 : Hid (Below w6.heap.size w6 w9) := grew_below HB8.out ho8 HB8.out.size hg9; have HK9 := Hid.mk2 (HK6.out.step HB9.out); clear k0 k1 k2 k3 k4 k5 k6 k7 k8 k9 kA; obtain ⟨k0, k1, k2, k3, k4, k5, k6, k7, k8, k9, kA⟩ := HK9.out.facts)
              rw [← HW.out] at ho9
              obtain ⟨lo, lc, hv, -⟩ := ho9.de
              subst hv
              have HO9 := Hid.mk2 ho9
              have z0 := set2_0 (a := .int .i64 now) (b := .slice lo (insT (y, u) S).length lc) k4
              have z1 := set2_1 (a := .int .i64 now) (b := .slice lo (insT (y, u) S).length lc) k5
              clear ho8 ho9 hg9 HB8
              go_wp2
              try simp only [Exit.inBlock, Exit.then]
              exact bodyPost_ret (v := .tuple #[wv now lo (insT (y, u) S).length lc, .int .i64 0]) (by simp [results, Try.results45, go_sem, z0, z1]) rfl ⟨lo, lc, rfl, (HO9.out.set2 hA6).down HK6.out.below.size, below_set2 HK9.out.below (by omega)⟩
end Go.Proofs.Ythcekkahkioibad
