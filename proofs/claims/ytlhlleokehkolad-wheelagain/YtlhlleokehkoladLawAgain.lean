/-
  WheelAgain is true for every moment, every list of names with moments, every name, every two moments, every later one: a name that is added again has its new moment alone, and one that is taken out is never due; no condition.
-/
import Derived.Test.YtlhlleokehkoladWhTwo
namespace Go.Proofs.Ytlhlleokehkolad
open Go.ChangeShapes Go.WideShapes Go.ChangeAt Go.RowKit
open Go.ChangeMaps (open_string shut_string)
set_option linter.unusedSimpArgs false
set_option linter.unusedVariables false
set_option maxRecDepth 100000

theorem again_eq {H : List NU} {now : Nat} {y : Nm} {u v : Int} (hu : addE now y u = 0) (hv : addE now y v = 0) : addL (addL H now y u) now y v = addL H now y v := by
  unfold addL
  rw [if_pos hu, if_pos hv, if_pos hv]
  congr 1
  have e : strike y ((y, u) :: strike y H) = strike y (strike y H) := by simp [strike]
  rw [e]
  exact strike_none (fun p hp => (mem_strike.1 hp).2)
theorem addE_ok {now : Nat} {y : Nm} {u : Int} (h : addE now y u = 0) : y.ok := by
  unfold addE at h
  by_cases hy : y.ok
  · exact hy
  · rw [if_neg hy] at h; cases h
theorem Two.len {w : World} {A : Nat → Prop} {p now : Nat} {L : List NU} {N q th : Nat} {M : List NU} {K : Nat} (h : Two w A p now L N q th M K) : L.length ≤ N := by
  obtain ⟨b0, mb, c0, mc, h1, h2, h3, h4⟩ := h
  exact h1.um.len
theorem due_le (t : Nat) (L : List NU) : (dueOf t L).length ≤ L.length := List.length_filter_le _ _
theorem Kept.to (A : Nat → Prop) {w w' : World} {B : Nat} (h : Kept (fun k => ¬ A k) w w') (hB : B ≤ w.heap.size) (hA : ∀ k, k < B → A k) : Below B w w' :=
  h.to_below hB (fun k hk => Nat.le_of_not_lt (fun hl => hk (hA k hl)))

set_option maxHeartbeats 4000000 in
theorem wheelAgain_none (w : World) (now : Int) (hn : now < 0 ∨ 1099511627776 < now) (v : Value) (y : Nm) (a b c : Int) :
    Calls Try.prog 7 #[.int .i64 now, v, .agg #[.int .i64 y.tenant, .string y.key], .int .i64 a, .int .i64 b, .int .i64 c] w fun e w' => e = .returned (.bool true) ∧ Below w.heap.size w w' := by
  go_enter Try.func7, Try.ntmps7
  go_upto_region 1 with fail
  obtain ⟨wX, hwX⟩ : ∃ wX, wX = w.alloc (.cells #[.int .i64 y.tenant, .string y.key] 24) := ⟨_, rfl⟩
  have hbX : Below w.heap.size w wX := by rw [hwX]; exact alb _ _
  rw [← hwX]
  clear hwX
  have HAL := Hid.mk2 (alive_any wX)
  go_upto_region 4 with (go_at_call 8; refine HAL.out.mono ?_; rintro e w0 ⟨rfl, hb0⟩)
  have HN := Hid.mk2 (new_bad w0 now hn)
  clear hn
  go_wp2_with (go_at_call 9; refine HN.out.mono ?_; rintro e wq ⟨rfl, hwq⟩; obtain rfl : w0 = wq := hwq.symm)
  go_ret
  exact ⟨rfl, hbX.trans (hb0.mono hbX.size)⟩

set_option maxHeartbeats 8000000 in
theorem wheelAgain_good (w : World) (now : Nat) (hn : now ≤ 1099511627776) (a1 : Option Addr) (cap1 : Nat) (T : List NU) (hc1 : T.length ≤ cap1) (hc2 : cap1 ≤ maxLen) (hT : TAt w a1 T) (y : Nm) (one two t : Int) :
    Calls Try.prog 7 #[.int .i64 now, .slice a1 T.length cap1, .agg #[.int .i64 y.tenant, .string y.key], .int .i64 one, .int .i64 two, .int .i64 t] w fun e w' => e = .returned (.bool true) ∧ Below w.heap.size w w' := by
  have HT := Hid.mk2 hT
  have hTm : T.length ≤ maxLen := Nat.le_trans hc1 hc2
  unfold maxLen at hc2
  clear hT
  go_enter Try.func7, Try.ntmps7
  go_upto_region 1 with fail
  obtain ⟨X, hX⟩ : ∃ X, X = w.heap.size := ⟨_, rfl⟩
  obtain ⟨wX, hwX⟩ : ∃ wX, wX = w.alloc (.cells #[.int .i64 y.tenant, .string y.key] 24) := ⟨_, rfl⟩
  have hbX : Below w.heap.size w wX := by rw [hwX]; exact alb _ _
  have hsX : X < wX.heap.size := by rw [hwX, hX]; simp
  have x0 : wX.cell? ⟨X, 0, none⟩ = some (.int .i64 y.tenant) := by rw [hwX, hX]; simp
  have x1 : wX.cell? ⟨X, 1, none⟩ = some (.string y.key) := by rw [hwX, hX]; simp
  first
    | rw [← hwX, ← hX]
    | (rw [← hX]; rw [← hwX])
  clear hwX hX
  have HBX := Hid.mk2 hbX
  have HTX := Hid.mk2 (HT.out.below hbX)
  obtain ⟨B, hB⟩ : ∃ B, B = wX.heap.size := ⟨_, rfl⟩
  have HAL := Hid.mk2 (alive_any wX)
  go_upto_region 4 with (go_at_call 8; refine HAL.out.mono ?_; rintro e w0 ⟨rfl, hb0⟩)
  have HN := Hid.mk2 (new_any w0 now hn)
  go_upto_region 5 with (go_at_call 9; refine HN.out.mono ?_; rintro e w1 ⟨p, rfl, hp, hb1, mu, hW1, hmu⟩)
  have HN2 := Hid.mk2 (new_any w1 now hn)
  clear HN
  go_upto_region 6 with (go_at_call 9; refine HN2.out.mono ?_; rintro e w2 ⟨q, rfl, hq, hb2, nu, hW2, hnu⟩)
  have HTW : Hid (Two w2 (fun k => k < B) p now [] 0 q now [] 0) := two_new (fun k hk => by have := hb0.size; omega) hp hmu hb1 hW1 hq hnu hb2 hW2
  have hb02 : Below wX.heap.size wX w2 := (hb0.trans (hb1.mono hb0.size)).trans (hb2.mono (Nat.le_trans hb0.size hb1.size))
  have HB2 := Hid.mk2 hb02
  have HT2 := Hid.mk2 (HTX.out.below hb02)
  have HBE : Hid (B = wX.heap.size) := hB
  have y0 := (hb02.cell (p := ⟨X, 0, none⟩) hsX).trans x0
  have y1 := (hb02.cell (p := ⟨X, 1, none⟩) hsX).trans x1
  have HSM := Hid.mk2 (small_any w2 a1 T cap1 HT2.out hTm)
  have hXB : X < B := by rw [hB]; exact hsX
  have hBs : B ≤ w2.heap.size := by rw [hB]; exact hb02.size
  have hX2 : X < w2.heap.size := by omega
  have HTA : Hid (T ≠ [] → ∀ b off, a1 = some ⟨b, off, none⟩ → b < B) := fun hne b off e => by
    rcases HTX.out with h0 | ⟨b', off', e', hb', _⟩
    · exact absurd h0 hne
    · rw [e'] at e
      cases e
      rw [HBE.out]
      exact hb'
  clear hb0 hb1 hb2 hp hmu hW1 hq hnu hW2 HN2 HAL x0 x1 hsX hbX hb02 hB
  have HFIN : Hid (Below w.heap.size w w2) := HBX.out.trans (HB2.out.mono HBX.out.size)
  by_cases hbig : (10000 : Int) < (y.key.size : Int)
  · go_wp2_with (go_at_call 18; refine HSM.out.mono ?_; rintro e wq ⟨⟨hv, rfl, hv2⟩, hwq⟩; obtain rfl : w2 = wq := hwq.symm; cases hv)
    · go_ret
      exact ⟨rfl, HFIN.out⟩
    · go_ret
      exact ⟨rfl, HFIN.out⟩
  have hbg2 : decide ((10000 : Int) < (y.key.size : Int)) = false := by simpa using hbig
  go_upto_region 8 with (go_at_call 18; refine HSM.out.mono ?_; rintro e wq ⟨⟨hv, rfl, hv2⟩, hwq⟩; obtain rfl : w2 = wq := hwq.symm; cases hv)
  · go_ret
    exact ⟨rfl, HFIN.out⟩
  have hT200 : T.length ≤ 200 := by
    rcases hv2 with h | h
    · cases h
    · exact h
  have HA1 := Hid.mk2 (addAll_two w2 _ p now q now [] 0 HTW.out a1 T cap1 HT2.out HTA.out hT200)
  clear hv2 HSM hbig hbg2
  go_upto_region 9 with (go_at_call 19; refine HA1.out.mono ?_; rintro e w3 ⟨⟨v3, rfl⟩, hW3, hK3⟩)
  have hb3 : Below wX.heap.size wX w3 := HB2.out.trans (hK3.to _ (by have := HBE.out; omega) (fun k hk => by have := HBE.out; omega))
  have HA2 := Hid.mk2 (addAll_two w3 _ q now p now (addedL now T) 400 hW3.swap a1 T cap1 (HTX.out.below hb3) HTA.out hT200)
  have hK3s := hK3.size
  have hX3 : X < w3.heap.size := by omega
  clear hW3 HA1
  go_upto_region 10 with (go_at_call 19; refine HA2.out.mono ?_; rintro e w4 ⟨⟨v4, rfl⟩, hW4, hK4⟩)
  have hb4 : Below wX.heap.size wX w4 := hb3.trans (hK4.to _ (by have := HBE.out; omega) (fun k hk => by have := HBE.out; omega))
  have HW4 := Hid.mk2 hW4.swap
  have HB4 : Hid (Below wX.heap.size wX w4) := hb4
  have hK4s := hK4.size
  have hX4 : X < w4.heap.size := by omega
  have z0 : w4.cell? ⟨X, 0, none⟩ = some (.int .i64 y.tenant) := (World.cell?_of_block (hK4.block X hX3 (fun h => h hXB))).trans ((World.cell?_of_block (hK3.block X hX2 (fun h => h hXB))).trans y0)
  have z1 : w4.cell? ⟨X, 1, none⟩ = some (.string y.key) := (World.cell?_of_block (hK4.block X hX3 (fun h => h hXB))).trans ((World.cell?_of_block (hK3.block X hX2 (fun h => h hXB))).trans y1)
  have hBs4 : B ≤ w4.heap.size := by omega
  clear hW4 hb4 hb3 hK3 hK4 HA2 y0 y1 HT2 HTX HT HTW HB2 HFIN hX2 hX3 hK3s hK4s hBs HTA
  clear hc1 hc2 hTm
  obtain ⟨H, hH⟩ : ∃ H, H = addedL now T := ⟨_, rfl⟩
  rw [← hH] at HW4
  clear hH
  have HA5 := Hid.mk2 (add_two w4 _ p now H 400 q now H 400 HW4.out (by omega) y one)
  by_cases hE1 : addE now y one = 0
  · rw [hE1] at HA5
    by_cases hE2 : addE now y two = 0
    · have HADD : Hid (∀ W L, Two W (fun k => k < B) p now L 402 q now H 400 → Calls Try.prog 10 #[.pointer (some ⟨p, 0, none⟩), .agg #[.int .i64 y.tenant, .string y.key], .int .i64 two] W fun e w' => e = .returned (.int .i64 0) ∧ Two w' (fun k => k < B) p now (addL L now y two) 404 q now H 400 ∧ Kept (fun k => ¬ k < B) W w') := fun W L h => by
        have := add_two W _ p now L 402 q now H 400 h (by omega) y two
        rwa [hE2] at this
      have HADD2 : Hid (∀ W L, Two W (fun k => k < B) p now L 404 q now H 400 → Calls Try.prog 10 #[.pointer (some ⟨q, 0, none⟩), .agg #[.int .i64 y.tenant, .string y.key], .int .i64 two] W fun e w' => e = .returned (.int .i64 0) ∧ Two w' (fun k => k < B) p now L 404 q now (addL H now y two) 402 ∧ Kept (fun k => ¬ k < B) W w') := fun W L h => by
        have := add_two W _ q now H 400 p now L 404 h.swap (by omega) y two
        rw [hE2] at this
        exact this.mono (fun e w' g => ⟨g.1, g.2.1.swap, g.2.2⟩)
      have HYO : Hid y.ok := addE_ok hE1
      have HAG := Hid.mk2 (again_eq (H := H) hE1 hE2)
      clear hE1 hE2
      go_upto_region 12 with (first | ((fail_if_success have hq := hm1); go_at_call 10; refine HA5.out.mono ?_; rintro e w5 ⟨rfl, hW5, hK5⟩; have hm1 : Hid True := trivial; have k0 : w5.cell? ⟨X, 0, none⟩ = some (.int .i64 y.tenant) := (World.cell?_of_block (hK5.block X hX4 (fun h => h hXB))).trans z0; have k1 : w5.cell? ⟨X, 1, none⟩ = some (.string y.key) := (World.cell?_of_block (hK5.block X hX4 (fun h => h hXB))).trans z1; have hX5 := Nat.lt_of_lt_of_le hX4 hK5.size; have hBs5 := Nat.le_trans hBs4 hK5.size; have HW5 := Hid.mk2 hW5; have HK5 := Hid.mk2 hK5; clear hW5 hK5) | ((fail_if_success have hq := hm2); go_at_call 10; refine (HADD.out w5 _ HW5.out).mono ?_; rintro e w6 ⟨rfl, hW6, hK6⟩; have hm2 : Hid True := trivial; have i0 : w6.cell? ⟨X, 0, none⟩ = some (.int .i64 y.tenant) := (World.cell?_of_block (hK6.block X hX5 (fun h => h hXB))).trans k0; have i1 : w6.cell? ⟨X, 1, none⟩ = some (.string y.key) := (World.cell?_of_block (hK6.block X hX5 (fun h => h hXB))).trans k1; have hX6 := Nat.lt_of_lt_of_le hX5 hK6.size; have hBs6 := Nat.le_trans hBs5 hK6.size; have HW6 := Hid.mk2 hW6; have HK6 := Hid.mk2 hK6; clear hW6 hK6) | (go_at_call 10; refine (HADD2.out w6 _ HW6.out).mono ?_; rintro e w7 ⟨rfl, hW7, hK7⟩; have j0 : w7.cell? ⟨X, 0, none⟩ = some (.int .i64 y.tenant) := (World.cell?_of_block (hK7.block X hX6 (fun h => h hXB))).trans i0; have j1 : w7.cell? ⟨X, 1, none⟩ = some (.string y.key) := (World.cell?_of_block (hK7.block X hX6 (fun h => h hXB))).trans i1; have hX7 := Nat.lt_of_lt_of_le hX6 hK7.size; have hBs7 := Nat.le_trans hBs6 hK7.size; have HW7 := Hid.mk2 hW7; have HK7 := Hid.mk2 hK7; clear hW7 hK7))
      rw [HAG.out] at HW7
      have HB7 : Hid (Below wX.heap.size wX w7) := ((HB4.out.trans (HK5.out.to _ (by have := HBE.out; omega) (fun k hk => by have := HBE.out; omega))).trans (HK6.out.to _ (by have := HBE.out; omega) (fun k hk => by have := HBE.out; omega))).trans (HK7.out.to _ (by have := HBE.out; omega) (fun k hk => by have := HBE.out; omega))
      clear HAG HADD HADD2 HA5 HW4 HW5 HW6 HK5 HK6 HK7 z0 z1 k0 k1 i0 i1 hX4 hX5 hX6 hBs4 hBs5 hBs6 hm1 hm2 HB4
      obtain ⟨L, hL⟩ : ∃ L, L = addL H now y two := ⟨_, rfl⟩
      rw [← hL] at HW7
      clear hL
      by_cases htb : t < (now : Int) ∨ 1099511627776 < t
      · have HTB := Hid.mk2 (tickBad_two w7 _ p now L 404 q now L 402 HW7.out t htb)
        have HTB2 := Hid.mk2 (tickBad_two w7 _ q now L 402 p now L 404 HW7.out.swap t htb)
        have HSN := Hid.mk2 (sameNames_nil w7)
        clear htb
        go_upto_region 13 with (go_at_call 11; refine HTB.out.mono ?_; rintro e wq ⟨rfl, hwq⟩; obtain rfl : w7 = wq := hwq.symm)
        go_upto_region 14 with (go_at_call 11; refine HTB2.out.mono ?_; rintro e wq ⟨rfl, hwq⟩; obtain rfl : w7 = wq := hwq.symm)
        go_upto_region 16 with (go_at_call 21; refine HSN.out.mono ?_; rintro e wq ⟨rfl, hwq⟩; obtain rfl : w7 = wq := hwq.symm)
        clear HTB HTB2 HSN
        obtain ⟨NN, KK, nw, th, hNN, hnw, LL, MM, HWz⟩ : ∃ NN KK nw th : Nat, NN ≤ 2000 ∧ nw ≤ 1099511627776 ∧ ∃ LL MM, Hid (Two w7 (fun k => k < B) p nw LL NN q th MM KK) := ⟨404, 402, now, now, by omega, hn, L, L, HW7⟩
        have HAA : Hid (∀ k, k < B → (fun k => k < B) k) := fun k hk => hk
        have HBz := HB7
        obtain ⟨wz, rfl⟩ : ∃ wz, wz = w7 := ⟨_, rfl⟩
        have z0 := j0
        have z1 := j1
        have hXz := hX7
        have hBz := hBs7
        clear j0 j1 hX7 hBs7 HB7 HW7
        have HAa := Hid.mk2 (add_two wz _ p nw LL NN q th MM KK HWz.out (by omega) y 1099511627776)
        clear HWz
        go_upto_region 17 with (go_at_call 10; refine HAa.out.mono ?_; rintro e wa ⟨rfl, hWa, hKa⟩)
        have a0 : wa.cell? ⟨X, 0, none⟩ = some (.int .i64 y.tenant) := (World.cell?_of_block (hKa.block X hXz (fun h => h (HAA.out X hXB)))).trans z0
        have a1' : wa.cell? ⟨X, 1, none⟩ = some (.string y.key) := (World.cell?_of_block (hKa.block X hXz (fun h => h (HAA.out X hXB)))).trans z1
        have hXa := Nat.lt_of_lt_of_le hXz hKa.size
        have hBa := Nat.le_trans hBz hKa.size
        have HBa : Hid (Below wX.heap.size wX wa) := HBz.out.trans (hKa.to _ (by have := HBE.out; omega) (fun k hk => HAA.out k (by have := HBE.out; omega)))
        obtain ⟨L2, hL2⟩ : ∃ L2, L2 = addL LL nw y 1099511627776 := ⟨_, rfl⟩
        rw [← hL2] at hWa
        have HDe := Hid.mk2 (del_two wa _ p nw L2 (NN + 2) q th MM KK hWa y)
        rw [if_pos HYO.out] at HDe
        clear hL2 hWa hKa HAa z0 z1 hXz hBz HBz
        go_upto_region 18 with (go_at_call 13; refine HDe.out.mono ?_; rintro e wb ⟨rfl, hWb, hKb⟩)
        have b0 : wb.cell? ⟨X, 0, none⟩ = some (.int .i64 y.tenant) := (World.cell?_of_block (hKb.block X hXa (fun h => h (HAA.out X hXB)))).trans a0
        have b1 : wb.cell? ⟨X, 1, none⟩ = some (.string y.key) := (World.cell?_of_block (hKb.block X hXa (fun h => h (HAA.out X hXB)))).trans a1'
        have hXb := Nat.lt_of_lt_of_le hXa hKb.size
        have hBb := Nat.le_trans hBa hKb.size
        have HBb : Hid (Below wX.heap.size wX wb) := HBa.out.trans (hKb.to _ (by have := HBE.out; omega) (fun k hk => HAA.out k (by have := HBE.out; omega)))
        have HUn := Hid.mk2 (until_two wb _ p nw (strike y L2) (NN + 2) q th MM KK hWb y HYO.out (fun q hq => (mem_strike.1 hq).2))
        have HWb := Hid.mk2 hWb
        clear hWb hKb HDe a0 a1' hXa hBa HBa
        go_upto_region 19 with (go_at_call 12; refine HUn.out.mono ?_; rintro e wc ⟨rfl, hbc⟩)
        have c0 := (hbc.cell (p := ⟨X, 0, none⟩) hXb).trans b0
        have c1 := (hbc.cell (p := ⟨X, 1, none⟩) hXb).trans b1
        have hXc := Nat.lt_of_lt_of_le hXb hbc.size
        have hBc := Nat.le_trans hBb hbc.size
        have HBc : Hid (Below wX.heap.size wX wc) := HBb.out.trans (hbc.mono (by have := HBE.out; omega))
        have HLN := Hid.mk2 HWb.out.len
        have HTi := Hid.mk2 (tick_two wc _ p nw (strike y L2) (NN + 2) q th MM KK (HWb.out.below hbc) (by omega) 1099511627776 hnw (Nat.le_refl _))
        clear HWb hbc HUn b0 b1 hXb hBb HBb
        go_upto_region 20 with (go_at_call 11; refine HTi.out.mono ?_; rintro e wd ⟨g3, S3, rfl, hA3, hP3, hR3, hW3, hKd⟩)
        have d0 : wd.cell? ⟨X, 0, none⟩ = some (.int .i64 y.tenant) := (World.cell?_of_block (hKd.block X hXc (fun h => h (HAA.out X hXB)))).trans c0
        have d1 : wd.cell? ⟨X, 1, none⟩ = some (.string y.key) := (World.cell?_of_block (hKd.block X hXc (fun h => h (HAA.out X hXB)))).trans c1
        have HBd : Hid (Below wX.heap.size wX wd) := HBc.out.trans (hKd.to _ (by have := HBE.out; omega) (fun k hk => HAA.out k (by have := HBE.out; omega)))
        have HFd : Hid (Below w.heap.size w wd) := HBX.out.trans (HBd.out.mono HBX.out.size)
        have hS3 : S3.length ≤ 10000 := by
          have e1 := hP3.length_eq
          have e2 := due_le 1099511627776 (strike y L2)
          have e3 := HLN.out
          omega
        have HA3 := Hid.mk2 hA3
        have HNE : Hid (∀ q ∈ S3, q.1 ≠ y) := fun q hq => (mem_strike.1 (List.mem_filter.1 (hP3.mem_iff.1 hq)).1).2
        clear hA3 hP3 hR3 hW3 hKd HTi c0 c1 hXc hBc HBc HLN HBd
        go_wp2
        go_loopw [26] (fun i wr => ∃ k n : Nat, k ≤ S3.length ∧ i = .int .i64 k ∧ wr = wd.drewN n) (fun i _ => S3.length - (intOf i).toNat)
        case atStart => exact ⟨0, 0, Nat.zero_le _, rfl, rfl⟩
        case round =>
          obtain ⟨k, n, hk, rfl, rfl⟩ := hrel
          by_cases hlt : k < S3.length
          · have hlt2 : (k : Int) < (S3.length : Int) := by omega
            obtain ⟨s0, s1⟩ := HA3.out.cells k (by simpa using hlt)
            have hne := HNE.out S3[k] (List.getElem_mem hlt)
            simp only [List.getElem_map] at s0 s1
            obtain ⟨nm, hnm⟩ : ∃ nm, nm = S3[k].1 := ⟨_, rfl⟩
            rw [← hnm] at s0 s1 hne
            have hnq := nm_eql nm y
            have hnd : decide (nm = y) = false := by simpa using hne
            rw [hnd] at hnq
            clear hnm hne hnd
            go_wp2
            go_quiet (fail)
            go_wp2
            go_roundw
            case rel => exact ⟨k + 1, _, by omega, by go_num, rfl⟩
            case measure => simp [intOf]; omega
          · have hlt2 : ¬ (k : Int) < (S3.length : Int) := by omega
            go_wp2
            go_ret
            exact ⟨rfl, below_drewN HFd.out n⟩
      · obtain ⟨tn, rfl⟩ : ∃ tn : Nat, t = tn := ⟨t.toNat, by omega⟩
        have htn1 : now ≤ tn := by omega
        have htn2 : tn ≤ 1099511627776 := by omega
        have HT1 := Hid.mk2 (tick_two w7 _ p now L 404 q now L 402 HW7.out (by omega) tn htn1 htn2)
        have HLL := Hid.mk2 HW7.out.len
        clear htb HW7
        go_upto_region 13 with (go_at_call 11; refine HT1.out.mono ?_; rintro e w8 ⟨g1, S1, rfl, hA1, hP1, hR1, hW8, hK8⟩)
        have HT2 := Hid.mk2 (tick_two w8 _ q now L 402 p tn _ _ hW8.swap (by omega) tn htn1 htn2)
        have k0 : w8.cell? ⟨X, 0, none⟩ = some (.int .i64 y.tenant) := (World.cell?_of_block (hK8.block X hX7 (fun h => h hXB))).trans j0
        have k1 : w8.cell? ⟨X, 1, none⟩ = some (.string y.key) := (World.cell?_of_block (hK8.block X hX7 (fun h => h hXB))).trans j1
        have HB8 : Hid (Below wX.heap.size wX w8) := HB7.out.trans (hK8.to _ (by have := HBE.out; omega) (fun k hk => by have := HBE.out; omega))
        have hX8 := Nat.lt_of_lt_of_le hX7 hK8.size
        have hBs8 := Nat.le_trans hBs7 hK8.size
        have HA1 := Hid.mk2 hA1
        have HP1 := Hid.mk2 hP1
        have HR1 := Hid.mk2 hR1
        have hS1 : S1.length ≤ 1000 := by
          have e1 := hP1.length_eq
          have e2 := due_le tn L
          have e3 := HLL.out
          omega
        clear hW8 hK8 hA1 hP1 hR1 HT1 j0 j1 hX7 hBs7 HB7 HLL
        go_upto_region 14 with (go_at_call 11; refine HT2.out.mono ?_; rintro e w9 ⟨g2, S2, rfl, hA2, hP2, hR2, hW9, hK9⟩)
        obtain rfl : S1 = S2 := rise_eq (HP1.out.trans hP2.symm) HR1.out hR2
        have l0 : w9.cell? ⟨X, 0, none⟩ = some (.int .i64 y.tenant) := (World.cell?_of_block (hK9.block X hX8 (fun h => h (.inl hXB)))).trans k0
        have l1 : w9.cell? ⟨X, 1, none⟩ = some (.string y.key) := (World.cell?_of_block (hK9.block X hX8 (fun h => h (.inl hXB)))).trans k1
        have HB9 : Hid (Below wX.heap.size wX w9) := HB8.out.trans (hK9.to _ (by have := HBE.out; omega) (fun k hk => .inl (by have := HBE.out; omega)))
        have hX9 := Nat.lt_of_lt_of_le hX8 hK9.size
        have hBs9 := Nat.le_trans hBs8 hK9.size
        have hsn := sameNames_any w9 g1 g2 (S1.map Prod.fst) (HA1.out.kept hK9 (fun h => h (.inr rfl))).cells hA2.cells (by simp; omega)
        rw [List.length_map] at hsn
        have HSN := Hid.mk2 hsn
        have HW9 := Hid.mk2 hW9.swap
        clear hsn hW9 hK9 hA2 hP2 hR2 HA1 HP1 HR1 HT2 k0 k1 hX8 hBs8 HB8
        go_upto_region 16 with (go_at_call 21; refine HSN.out.mono ?_; rintro e wz ⟨rfl, nd, hwz⟩; have hbz : Below w9.heap.size w9 wz := (by rw [hwz]; exact below_drewN (Below.refl _ _) nd); clear hwz)
        clear HSN
        have HWz0 := Hid.mk2 (HW9.out.below hbz)
        obtain ⟨NN, KK, nw, th, hNN, hnw, LL, MM, HWz⟩ : ∃ NN KK nw th : Nat, NN ≤ 2000 ∧ nw ≤ 1099511627776 ∧ ∃ LL MM, Hid (Two wz (fun k => (k < B ∨ k = g1) ∨ k = g2) p nw LL NN q th MM KK) := ⟨3 * 404, 3 * 402, tn, tn, by omega, htn2, _, _, HWz0⟩
        have HAA : Hid (∀ k, k < B → (fun k => (k < B ∨ k = g1) ∨ k = g2) k) := fun k hk => .inl (.inl hk)
        have HBz : Hid (Below wX.heap.size wX wz) := HB9.out.trans (hbz.mono (by have := HBE.out; omega))
        have z0 := (hbz.cell (p := ⟨X, 0, none⟩) hX9).trans l0
        have z1 := (hbz.cell (p := ⟨X, 1, none⟩) hX9).trans l1
        have hXz := Nat.lt_of_lt_of_le hX9 hbz.size
        have hBz := Nat.le_trans hBs9 hbz.size
        clear hbz l0 l1 hX9 hBs9 HB9 HW9 HWz0
        have HAa := Hid.mk2 (add_two wz _ p nw LL NN q th MM KK HWz.out (by omega) y 1099511627776)
        clear HWz
        go_upto_region 17 with (go_at_call 10; refine HAa.out.mono ?_; rintro e wa ⟨rfl, hWa, hKa⟩)
        have a0 : wa.cell? ⟨X, 0, none⟩ = some (.int .i64 y.tenant) := (World.cell?_of_block (hKa.block X hXz (fun h => h (HAA.out X hXB)))).trans z0
        have a1' : wa.cell? ⟨X, 1, none⟩ = some (.string y.key) := (World.cell?_of_block (hKa.block X hXz (fun h => h (HAA.out X hXB)))).trans z1
        have hXa := Nat.lt_of_lt_of_le hXz hKa.size
        have hBa := Nat.le_trans hBz hKa.size
        have HBa : Hid (Below wX.heap.size wX wa) := HBz.out.trans (hKa.to _ (by have := HBE.out; omega) (fun k hk => HAA.out k (by have := HBE.out; omega)))
        obtain ⟨L2, hL2⟩ : ∃ L2, L2 = addL LL nw y 1099511627776 := ⟨_, rfl⟩
        rw [← hL2] at hWa
        have HDe := Hid.mk2 (del_two wa _ p nw L2 (NN + 2) q th MM KK hWa y)
        rw [if_pos HYO.out] at HDe
        clear hL2 hWa hKa HAa z0 z1 hXz hBz HBz
        go_upto_region 18 with (go_at_call 13; refine HDe.out.mono ?_; rintro e wb ⟨rfl, hWb, hKb⟩)
        have b0 : wb.cell? ⟨X, 0, none⟩ = some (.int .i64 y.tenant) := (World.cell?_of_block (hKb.block X hXa (fun h => h (HAA.out X hXB)))).trans a0
        have b1 : wb.cell? ⟨X, 1, none⟩ = some (.string y.key) := (World.cell?_of_block (hKb.block X hXa (fun h => h (HAA.out X hXB)))).trans a1'
        have hXb := Nat.lt_of_lt_of_le hXa hKb.size
        have hBb := Nat.le_trans hBa hKb.size
        have HBb : Hid (Below wX.heap.size wX wb) := HBa.out.trans (hKb.to _ (by have := HBE.out; omega) (fun k hk => HAA.out k (by have := HBE.out; omega)))
        have HUn := Hid.mk2 (until_two wb _ p nw (strike y L2) (NN + 2) q th MM KK hWb y HYO.out (fun q hq => (mem_strike.1 hq).2))
        have HWb := Hid.mk2 hWb
        clear hWb hKb HDe a0 a1' hXa hBa HBa
        go_upto_region 19 with (go_at_call 12; refine HUn.out.mono ?_; rintro e wc ⟨rfl, hbc⟩)
        have c0 := (hbc.cell (p := ⟨X, 0, none⟩) hXb).trans b0
        have c1 := (hbc.cell (p := ⟨X, 1, none⟩) hXb).trans b1
        have hXc := Nat.lt_of_lt_of_le hXb hbc.size
        have hBc := Nat.le_trans hBb hbc.size
        have HBc : Hid (Below wX.heap.size wX wc) := HBb.out.trans (hbc.mono (by have := HBE.out; omega))
        have HLN := Hid.mk2 HWb.out.len
        have HTi := Hid.mk2 (tick_two wc _ p nw (strike y L2) (NN + 2) q th MM KK (HWb.out.below hbc) (by omega) 1099511627776 hnw (Nat.le_refl _))
        clear HWb hbc HUn b0 b1 hXb hBb HBb
        go_upto_region 20 with (go_at_call 11; refine HTi.out.mono ?_; rintro e wd ⟨g3, S3, rfl, hA3, hP3, hR3, hW3, hKd⟩)
        have d0 : wd.cell? ⟨X, 0, none⟩ = some (.int .i64 y.tenant) := (World.cell?_of_block (hKd.block X hXc (fun h => h (HAA.out X hXB)))).trans c0
        have d1 : wd.cell? ⟨X, 1, none⟩ = some (.string y.key) := (World.cell?_of_block (hKd.block X hXc (fun h => h (HAA.out X hXB)))).trans c1
        have HBd : Hid (Below wX.heap.size wX wd) := HBc.out.trans (hKd.to _ (by have := HBE.out; omega) (fun k hk => HAA.out k (by have := HBE.out; omega)))
        have HFd : Hid (Below w.heap.size w wd) := HBX.out.trans (HBd.out.mono HBX.out.size)
        have hS3 : S3.length ≤ 10000 := by
          have e1 := hP3.length_eq
          have e2 := due_le 1099511627776 (strike y L2)
          have e3 := HLN.out
          omega
        have HA3 := Hid.mk2 hA3
        have HNE : Hid (∀ q ∈ S3, q.1 ≠ y) := fun q hq => (mem_strike.1 (List.mem_filter.1 (hP3.mem_iff.1 hq)).1).2
        clear hA3 hP3 hR3 hW3 hKd HTi c0 c1 hXc hBc HBc HLN HBd
        go_wp2
        go_loopw [26] (fun i wr => ∃ k n : Nat, k ≤ S3.length ∧ i = .int .i64 k ∧ wr = wd.drewN n) (fun i _ => S3.length - (intOf i).toNat)
        case atStart => exact ⟨0, 0, Nat.zero_le _, rfl, rfl⟩
        case round =>
          obtain ⟨k, n, hk, rfl, rfl⟩ := hrel
          by_cases hlt : k < S3.length
          · have hlt2 : (k : Int) < (S3.length : Int) := by omega
            obtain ⟨s0, s1⟩ := HA3.out.cells k (by simpa using hlt)
            have hne := HNE.out S3[k] (List.getElem_mem hlt)
            simp only [List.getElem_map] at s0 s1
            obtain ⟨nm, hnm⟩ : ∃ nm, nm = S3[k].1 := ⟨_, rfl⟩
            rw [← hnm] at s0 s1 hne
            have hnq := nm_eql nm y
            have hnd : decide (nm = y) = false := by simpa using hne
            rw [hnd] at hnq
            clear hnm hne hnd
            go_wp2
            go_quiet (fail)
            go_wp2
            go_roundw
            case rel => exact ⟨k + 1, _, by omega, by go_num, rfl⟩
            case measure => simp [intOf]; omega
          · have hlt2 : ¬ (k : Int) < (S3.length : Int) := by omega
            go_wp2
            go_ret
            exact ⟨rfl, below_drewN HFd.out n⟩
    · obtain ⟨E, hEE⟩ : ∃ E, E = addE now y two := ⟨_, rfl⟩
      have HADD : Hid (∀ W L, Two W (fun k => k < B) p now L 402 q now H 400 → Calls Try.prog 10 #[.pointer (some ⟨p, 0, none⟩), .agg #[.int .i64 y.tenant, .string y.key], .int .i64 two] W fun e w' => e = .returned (.int .i64 E) ∧ Two w' (fun k => k < B) p now (addL L now y two) 404 q now H 400 ∧ Kept (fun k => ¬ k < B) W w') := fun W L h => by
        have := add_two W _ p now L 402 q now H 400 h (by omega) y two
        rwa [← hEE] at this
      rw [← hEE] at hE2
      have hE3 : (E == 0) = false := by simpa using hE2
      have hE4 : (E != 0) = true := by simpa using hE2
      clear hEE hE1
      go_wp2_with (first | ((fail_if_success have hq := hm1); go_at_call 10; refine HA5.out.mono ?_; rintro e w5 ⟨rfl, hW5, hK5⟩; have hm1 : Hid True := trivial; have k0 : w5.cell? ⟨X, 0, none⟩ = some (.int .i64 y.tenant) := (World.cell?_of_block (hK5.block X hX4 (fun h => h hXB))).trans z0; have k1 : w5.cell? ⟨X, 1, none⟩ = some (.string y.key) := (World.cell?_of_block (hK5.block X hX4 (fun h => h hXB))).trans z1; have hX5 := Nat.lt_of_lt_of_le hX4 hK5.size; have hBs5 := Nat.le_trans hBs4 hK5.size; have HW5 := Hid.mk2 hW5; have HK5 := Hid.mk2 hK5; clear hW5 hK5) | ((fail_if_success have hq := hm2); go_at_call 10; refine (HADD.out w5 _ HW5.out).mono ?_; rintro e w6 ⟨rfl, hW6, hK6⟩; have hm2 : Hid True := trivial; have i0 : w6.cell? ⟨X, 0, none⟩ = some (.int .i64 y.tenant) := (World.cell?_of_block (hK6.block X hX5 (fun h => h hXB))).trans k0; have i1 : w6.cell? ⟨X, 1, none⟩ = some (.string y.key) := (World.cell?_of_block (hK6.block X hX5 (fun h => h hXB))).trans k1; have hX6 := Nat.lt_of_lt_of_le hX5 hK6.size; have hBs6 := Nat.le_trans hBs5 hK6.size; have HW6 := Hid.mk2 hW6; have HK6 := Hid.mk2 hK6; clear hW6 hK6))
      go_ret
      exact ⟨rfl, HBX.out.trans (((HB4.out.trans (HK5.out.to _ (by have := HBE.out; omega) (fun k hk => by have := HBE.out; omega))).trans (HK6.out.to _ (by have := HBE.out; omega) (fun k hk => by have := HBE.out; omega))).mono HBX.out.size)⟩
  · obtain ⟨E, hEE⟩ : ∃ E, E = addE now y one := ⟨_, rfl⟩
    rw [← hEE] at HA5 hE1
    have hE2 : (E == 0) = false := by simpa using hE1
    have hE3 : (E != 0) = true := by simpa using hE1
    clear hEE
    go_wp2_with (go_at_call 10; refine HA5.out.mono ?_; rintro e w5 ⟨rfl, hW5, hK5⟩)
    go_ret
    exact ⟨rfl, HBX.out.trans ((HB4.out.trans (hK5.to _ (by have := HBE.out; omega) (fun k hk => by have := HBE.out; omega))).mono HBX.out.size)⟩

theorem wheelAgain_walk (w : World) (now : Int) (hwn : (Lit.int .i64 now).wf = true) (a1 : Option Addr) (len1 cap1 : Nat) (T : List NU) (h : InDues w a1 len1 cap1 T) (v : Value) (y : Nm) (hy : v = .agg #[.int .i64 y.tenant, .string y.key]) (one : Int) (hw3 : (Lit.int .i64 one).wf = true) (two : Int) (hw4 : (Lit.int .i64 two).wf = true) (t : Int) (hwt : (Lit.int .i64 t).wf = true) :
    Calls Try.prog 7 #[.int .i64 now, .slice a1 len1 cap1, v, .int .i64 one, .int .i64 two, .int .i64 t] w fun e w' => e = .returned (.bool true) ∧ Below w.heap.size w w' := by
  obtain ⟨rfl, hc1, hc2, hT⟩ := h
  subst hy
  by_cases hn : now < 0 ∨ 1099511627776 < now
  · exact wheelAgain_none w now hn _ y one two t
  · obtain ⟨n, rfl⟩ : ∃ n : Nat, now = n := ⟨now.toNat, by omega⟩
    exact wheelAgain_good w n (by omega) a1 cap1 T hc1 hc2 hT y one two t

theorem inName_of {H : Type} {enc : TypeId × Value → H} {W : World} {base : Nat} {sp : Nat → Bool} {bb : Bool} {v : Value} {r : Reach} {b0 : Nat} {d : DataW H} {p : List MemPlace} (hv : Value.okWide Try.prog W r b0 24 v)
    (hf : DataW.Trod enc Try.prog W base sp bb 24 v d p) : ∃ y : Nm, v = .agg #[.int .i64 y.tenant, .string y.key] := by
  obtain ⟨cs, rfl, hs⟩ := okWide_struct Try.underlying24 hv
  obtain ⟨fuel, hf⟩ := hf
  obtain ⟨y, e⟩ := name_of_cells hf
  refine ⟨y, ?_⟩
  simp [Value.cells] at e
  congr 1
  cases cs
  simpa using e

set_option maxRecDepth 100000 in
theorem wheelAgain_lifted (os : Os) (started : os.Started) (H : Type) (enc : TypeId × Value → H) :
    ReturnsInHanded {} Try.checked os 7 .any (Rows.wheelAgainSpec.pre6 enc Try.prog Try.f7 Rows.wheelAgainRow.domain false) (Rows.wheelAgainSpec.post enc Try.prog Try.f7 false true false false) := by
  refine returnsInHanded_of_change (C := Try.checked) (by kernel_rfl) started (by kernel_rfl) Try.func7
    (ChangeSpec.witness6 (enc := enc) (C := Try.checked) false ⟨#[], #[.int .i64 0, .slice none 0 0, .agg #[.int .i64 0, .string ⟨#[]⟩], .int .i64 0, .int .i64 0, .int .i64 0], []⟩ 8 (by kernel_rfl) (by kernel_rfl) (by kernel_rfl) (by kernel_rfl)) ?_
  intro W base args ds gs before hval0 hW hcnd _
  have hval : ∀ (j : Nat) t v, Try.f7.params[j]? = some t → args[j]? = some v → Value.okWide Try.prog W .any base t v := hval0
  have hW' := hW
  obtain ⟨p, q, hA0, hV, rfl, hfz, hnd⟩ := hW
  have hA : DataW.TrodAll enc Try.prog W 0 (fun _ => true) true Try.f7.params.toList args.toList ds p := hA0
  rw [Try.params7] at hA hval
  obtain ⟨v0, vs0, d0, ds0, p0, q0, hargs, rfl, rfl, h0, r0⟩ := trodAll_cons hA
  obtain ⟨v1, vs1, d1, ds1, p1, q1, rfl, rfl, rfl, h1, r1⟩ := trodAll_cons r0
  obtain ⟨v2, vs2, d2, ds2, p2, q2, rfl, rfl, rfl, h2, r2⟩ := trodAll_cons r1
  obtain ⟨v3, vs3, d3, ds3, p3, q3, rfl, rfl, rfl, h3, r3⟩ := trodAll_cons r2
  obtain ⟨v4, vs4, d4, ds4, p4, q4, rfl, rfl, rfl, h4, r4⟩ := trodAll_cons r3
  obtain ⟨v5, vs5, d5, ds5, p5, q5, rfl, rfl, rfl, h5, r5⟩ := trodAll_cons r4
  obtain ⟨rfl, rfl, rfl⟩ := trodAll_nil r5
  obtain rfl : args = #[v0, v1, v2, v3, v4, v5] := by cases args; simp_all
  obtain ⟨rfl, rfl⟩ := trodVars_none hV
  obtain ⟨a0, rfl, rfl, rfl, w0⟩ := open_int Try.underlying3 (hval 0 3 v0 rfl rfl) h0
  have k1 := h1
  have lt1 : ∀ x ∈ p1, x.block < W.heap.size := by obtain ⟨m, hm⟩ := k1; exact DataW.trod_lt m _ _ _ hm
  obtain ⟨a1, len1, cap1, rfl⟩ := okWide_slice Try.underlying53 (hval 1 53 v1 rfl rfl)
  obtain ⟨l1, w1⟩ := inDues_of (fun _ => rfl) h1
  have k2 := h2
  have lt2 : ∀ x ∈ p2, x.block < W.heap.size := by obtain ⟨m, hm⟩ := k2; exact DataW.trod_lt m _ _ _ hm
  obtain ⟨l2, w2⟩ := inName_of (hval 2 24 v2 rfl rfl) h2
  obtain ⟨a3, rfl, rfl, rfl, w3⟩ := open_int Try.underlying3 (hval 3 3 v3 rfl rfl) h3
  obtain ⟨a4, rfl, rfl, rfl, w4⟩ := open_int Try.underlying3 (hval 4 3 v4 rfl rfl) h4
  obtain ⟨a5, rfl, rfl, rfl, w5⟩ := open_int Try.underlying3 (hval 5 3 v5 rfl rfl) h5
  clear hA0 hval0
  refine (wheelAgain_walk W a0 w0 a1 len1 cap1 l1 w1 v2 l2 w2 a3 w3 a4 w4 a5 w5).mono fun e W' ⟨he, bel⟩ => ?_
  subst he
  exact ⟨_, rfl, _, _, _, [], _, [], hW', trodAll_mk1 (shut_bool Try.underlying4 _), (trodAll_cons_mk (shut_int Try.underlying3 w0) (trodAll_cons_mk (Below.trod laidOut_all (by kernel_rfl) (of_decide_eq_true (by kernel_rfl)) k1 bel lt1) (trodAll_cons_mk (Below.trod laidOut_all (by kernel_rfl) (of_decide_eq_true (by kernel_rfl)) k2 bel lt2) (trodAll_cons_mk (shut_int Try.underlying3 w3) (trodAll_cons_mk (shut_int Try.underlying3 w4) (trodAll_cons_mk (shut_int Try.underlying3 w5) trodAll_mk0)))))), rfl, bel.frame _, fun h => by cases h⟩

theorem wheelAgain_proved : Rows.WheelAgainSaid :=
  OpenClaim.holds_of_wide 7 Try.f7 rfl rfl rfl rfl rfl rfl rfl ⟨rfl, rfl, rfl, rfl, rfl⟩ rfl rfl rfl rfl rfl (by kernel_rfl) Try.func7 (by kernel_rfl)
    (of_decide_eq_true (by kernel_rfl)) (by unfold Func.isWrapper; first | (rw [if_pos (by decide +kernel)]; kernel_rfl) | (rw [if_neg (by decide +kernel)]; exact ⟨rfl, rfl⟩))
    (fun os started H enc _ => wheelAgain_lifted os started H enc)
#print axioms wheelAgain_proved
end Go.Proofs.Ytlhlleokehkolad
