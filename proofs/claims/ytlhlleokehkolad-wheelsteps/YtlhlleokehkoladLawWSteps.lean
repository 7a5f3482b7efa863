/-
  WheelSteps is true for every moment, every list of names with moments, all moments on the way: however the clock goes, the same names are due by then, in the same order; no condition.
-/
import Derived.Test.YtlhlleokehkoladWhNames
import Derived.ChangeSlices
namespace Go.Proofs.Ytlhlleokehkolad
open Go.ChangeShapes Go.WideShapes Go.ChangeAt Go.RowKit
open Go.ChangeMaps (open_string shut_string)
set_option linter.unusedSimpArgs false
set_option linter.unusedVariables false
set_option maxRecDepth 100000

theorem Kept.to (A : Nat → Prop) {w w' : World} {B : Nat} (h : Kept (fun k => ¬ A k) w w') (hB : B ≤ w.heap.size) (hA : ∀ k, k < B → A k) : Below B w w' :=
  h.to_below hB (fun k hk => Nat.le_of_not_lt (fun hl => hk (hA k hl)))
theorem Two.grown {w w' : World} {A A' : Nat → Prop} {p now : Nat} {L : List NU} {N q th : Nat} {M : List NU} {K : Nat} (h : Two w A p now L N q th M K) {row : Option Nat} (hg : w.grownBy w' row) (hr : ∀ k, row = some k → A k)
    (hA : ∀ k, A' k → A k ∨ (w.heap.size ≤ k ∧ k < w'.heap.size)) : Two w' A' p now L N q th M K := by
  obtain ⟨b0, mb, c0, mc, h1, h2, h3, h4⟩ := h
  have e : ∀ k, k < w.heap.size → ¬ A k → w'.heap[k]? = w.heap[k]? := fun k hk hn => hg.block k hk (fun e => hn (hr k e.symm))
  refine ⟨b0, mb, c0, mc, h1.same (fun k hk => e k (h1.lt hk) (fun ha => (h3 k ha).2.1 hk)), h2.same (fun k hk => e k (h2.lt hk) (fun ha => (h3 k ha).2.2 hk)), fun k hk => ?_, h4⟩
  rcases hA k hk with g | g
  · exact ⟨Nat.lt_of_lt_of_le (h3 k g).1 hg.size, (h3 k g).2⟩
  · exact ⟨g.2, fun hf => by have := h1.lt hf; omega, fun hf => by have := h2.lt hf; omega⟩
theorem Two.less {w : World} {A A' : Nat → Prop} {p now : Nat} {L : List NU} {N q th : Nat} {M : List NU} {K : Nat} (h : Two w A p now L N q th M K) (hA : ∀ k, A' k → A k) : Two w A' p now L N q th M K := by
  obtain ⟨b0, mb, c0, mc, h1, h2, h3, h4⟩ := h
  exact ⟨b0, mb, c0, mc, h1, h2, fun k hk => h3 k (hA k hk), h4⟩
theorem Two.mono {w : World} {A : Nat → Prop} {p now : Nat} {L : List NU} {N N' q th : Nat} {M : List NU} {K : Nat} (h : Two w A p now L N q th M K) (hN : N ≤ N') : Two w A p now L N' q th M K := by
  obtain ⟨b0, mb, c0, mc, h1, h2, h3, h4⟩ := h
  exact ⟨b0, mb, c0, mc, h1.mono hN, h2, h3, h4⟩
theorem now_two (w : World) (A : Nat → Prop) (p now : Nat) (L : List NU) (N q th : Nat) (M : List NU) (K : Nat) (h : Two w A p now L N q th M K) :
    Calls Try.prog 15 #[.pointer (some ⟨p, 0, none⟩)] w fun e w' => e = .returned (.tuple #[.int .i64 now, .int .i64 0]) ∧ w' = w := by
  obtain ⟨b0, mb, c0, mc, h1, h2, h3, h4⟩ := h
  exact now_any w p now L b0 mb N h1
theorem len_two (w : World) (A : Nat → Prop) (p now : Nat) (L : List NU) (N q th : Nat) (M : List NU) (K : Nat) (h : Two w A p now L N q th M K) :
    Calls Try.prog 14 #[.pointer (some ⟨p, 0, none⟩)] w fun e w' => e = .returned (.tuple #[.int .i64 (L.length : Nat), .int .i64 0]) ∧ w' = w := by
  obtain ⟨b0, mb, c0, mc, h1, h2, h3, h4⟩ := h
  exact len_any w p now L b0 mb N h1
theorem rest_le (t : Nat) (L : List NU) : (restOf t L).length ≤ L.length := List.length_filter_le _ _
theorem due_le (t : Nat) (L : List NU) : (dueOf t L).length ≤ L.length := List.length_filter_le _ _
/-- moments that came in -/
def WyAt (w : World) (ao : Option Addr) (l : List Int) : Prop := l = [] ∨ ∃ b off, ao = some ⟨b, off, none⟩ ∧ b < w.heap.size ∧ ∀ j (hj : j < l.length), w.cell? ⟨b, off + j, none⟩ = some (.int .i64 l[j])
def InWay (w : World) (a : Option Addr) (len cap : Nat) (l : List Int) : Prop := l.length = len ∧ len ≤ cap ∧ cap ≤ maxLen ∧ WyAt w a l
theorem inInts_of {H : Type} {enc : TypeId × Value → H} {W : World} {base : Nat} {sp : Nat → Bool} {bb : Bool} {a : Option Addr} {len cap : Nat} {d : DataW H} {p : List MemPlace} (hsp : ∀ b, sp b = true)
    (hf : DataW.Trod enc Try.prog W base sp bb 60 (.slice a len cap) d p) : ∃ l, InWay W a len cap l := by
  obtain ⟨fuel, hf⟩ := hf
  rcases open_ints Try.underlying60 Try.underlying3 (by kernel_rfl) hf with ⟨hcs, _⟩ | ⟨x, l, c, zs, hcs, _, hl, hm, hz, _, hcell, hwz⟩
  · simp [Value.cells] at hcs
    obtain ⟨rfl, rfl, rfl⟩ := hcs
    exact ⟨[], rfl, Nat.le_refl _, by simp [maxLen], .inl rfl⟩
  · simp [Value.cells] at hcs
    obtain ⟨rfl, rfl, rfl⟩ := hcs
    rw [if_pos (hsp _)] at hz
    have hlen : (zs.take len).length = len := by simp; omega
    refine ⟨zs.take len, hlen, by omega, hm, ?_⟩
    by_cases h0 : len = 0
    · subst h0; exact .inl rfl
    · obtain ⟨b, off, spot⟩ := x
      have hspot : spot = none := by simpa [Addr.add] using World.cell?_spot (hcell 0 (by omega))
      subst hspot
      refine .inr ⟨b, off, rfl, World.block_lt_of_cell? W _ (hcell 0 (by omega)), fun j hj => ?_⟩
      have hj' : j < zs.length := by simp at hj; omega
      have := hcell j hj'
      rw [addr_add] at this
      rw [this]
      have hg : zs.getD j 0 = zs[j] := by simp [hj']
      rw [hg]
      simp

set_option maxHeartbeats 4000000 in
theorem wheelSteps_none (w : World) (now : Int) (hn : now < 0 ∨ 1099511627776 < now) (v u : Value) :
    Calls Try.prog 6 #[.int .i64 now, v, u] w fun e w' => e = .returned (.bool true) ∧ Below w.heap.size w w' := by
  have HAL := Hid.mk2 (alive_any w)
  go_enter Try.func6, Try.ntmps6
  go_upto_region 4 with (go_at_call 8; refine HAL.out.mono ?_; rintro e w0 ⟨rfl, hb0⟩)
  have HN := Hid.mk2 (new_bad w0 now hn)
  clear hn
  go_wp2_with (go_at_call 9; refine HN.out.mono ?_; rintro e wq ⟨rfl, hwq⟩; obtain rfl : w0 = wq := hwq.symm)
  go_ret
  exact ⟨rfl, hb0⟩

set_option maxHeartbeats 8000000 in
theorem wheelSteps_good (w : World) (now : Nat) (hn : now ≤ 1099511627776) (a1 : Option Addr) (cap1 : Nat) (T : List NU) (hc1 : T.length ≤ cap1) (hc2 : cap1 ≤ maxLen) (hT : TAt w a1 T) (a2 : Option Addr) (cap2 : Nat) (Y : List Int) (hd1 : Y.length ≤ cap2) (hd2 : cap2 ≤ maxLen) (hY : WyAt w a2 Y) :
    Calls Try.prog 6 #[.int .i64 now, .slice a1 T.length cap1, .slice a2 Y.length cap2] w fun e w' => e = .returned (.bool true) ∧ Below w.heap.size w w' := by
  have HT := Hid.mk2 hT
  have HY := Hid.mk2 hY
  have hTm : T.length ≤ maxLen := Nat.le_trans hc1 hc2
  unfold maxLen at hc2 hd2
  clear hT hY
  obtain ⟨B, hB⟩ : ∃ B, B = w.heap.size := ⟨_, rfl⟩
  have HBE : Hid (B = w.heap.size) := hB
  clear hB
  have HAL := Hid.mk2 (alive_any w)
  go_enter Try.func6, Try.ntmps6
  go_upto_region 4 with (go_at_call 8; refine HAL.out.mono ?_; rintro e w0 ⟨rfl, hb0⟩)
  have HN := Hid.mk2 (new_any w0 now hn)
  go_upto_region 5 with (go_at_call 9; refine HN.out.mono ?_; rintro e w1 ⟨p, rfl, hp, hb1, mu, hW1, hmu⟩)
  have HN2 := Hid.mk2 (new_any w1 now hn)
  clear HN
  go_upto_region 6 with (go_at_call 9; refine HN2.out.mono ?_; rintro e w2 ⟨q, rfl, hq, hb2, nu, hW2, hnu⟩)
  have HTW : Hid (Two w2 (fun k => k < B) p now [] 0 q now [] 0) := two_new (fun k hk => by have := hb0.size; have := HBE.out; omega) hp hmu hb1 hW1 hq hnu hb2 hW2
  have hb02 : Below w.heap.size w w2 := (hb0.trans (hb1.mono hb0.size)).trans (hb2.mono (Nat.le_trans hb0.size hb1.size))
  have HB2 := Hid.mk2 hb02
  have HT2 := Hid.mk2 (HT.out.below hb02)
  have HSM := Hid.mk2 (small_any w2 a1 T cap1 HT2.out hTm)
  have hBs : B ≤ w2.heap.size := by rw [HBE.out]; exact hb02.size
  have HTA : Hid (T ≠ [] → ∀ b off, a1 = some ⟨b, off, none⟩ → b < B) := fun hne b off e => by
    rcases HT.out with h0 | ⟨b', off', e', hb', _⟩
    · exact absurd h0 hne
    · rw [e'] at e
      cases e
      rw [HBE.out]
      exact hb'
  clear hb0 hb1 hb2 hp hmu hW1 hq hnu hW2 HN2 HAL hb02
  by_cases hbig : (60 : Int) < (Y.length : Int)
  · go_wp2_with (go_at_call 18; refine HSM.out.mono ?_; rintro e wq ⟨⟨hv, rfl, hv2⟩, hwq⟩; obtain rfl : w2 = wq := hwq.symm; cases hv)
    · go_ret
      exact ⟨rfl, HB2.out⟩
    · go_ret
      exact ⟨rfl, HB2.out⟩
  have hbg2 : decide ((60 : Int) < (Y.length : Int)) = false := by simpa using hbig
  go_upto_region 8 with (go_at_call 18; refine HSM.out.mono ?_; rintro e wq ⟨⟨hv, rfl, hv2⟩, hwq⟩; obtain rfl : w2 = wq := hwq.symm; cases hv)
  · go_ret
    exact ⟨rfl, HB2.out⟩
  have hT200 : T.length ≤ 200 := by
    rcases hv2 with h | h
    · cases h
    · exact h
  have hY60 : Y.length ≤ 60 := by omega
  have HA1 := Hid.mk2 (addAll_two w2 _ p now q now [] 0 HTW.out a1 T cap1 HT2.out HTA.out hT200)
  clear hv2 HSM hbig hbg2
  go_upto_region 9 with (go_at_call 19; refine HA1.out.mono ?_; rintro e w3 ⟨⟨v3, rfl⟩, hW3, hK3⟩)
  have hb3 : Below w.heap.size w w3 := HB2.out.trans (hK3.to _ (by have := HBE.out; omega) (fun k hk => by have := HBE.out; omega))
  have HA2 := Hid.mk2 (addAll_two w3 _ q now p now (addedL now T) 400 hW3.swap a1 T cap1 (HT.out.below hb3) HTA.out hT200)
  have hK3s := hK3.size
  clear hW3 HA1
  go_upto_region 12 with (go_at_call 19; refine HA2.out.mono ?_; rintro e w4 ⟨⟨v4, rfl⟩, hW4, hK4⟩)
  have HB4 : Hid (Below w.heap.size w w4) := hb3.trans (hK4.to _ (by have := HBE.out; omega) (fun k hk => by have := HBE.out; omega))
  have hK4s := hK4.size
  have hBs4 : B ≤ w4.heap.size := by omega
  have HHL := Hid.mk2 (added_len now T)
  have HGB := Hid.mk2 hW4.gb
  obtain ⟨H, hH⟩ : ∃ H, H = addedL now T := ⟨_, rfl⟩
  rw [← hH] at hW4 HHL HGB
  have HH2 : Hid (H.length ≤ 200) := Nat.le_trans HHL.out hT200
  have HW4 : Hid (Two w4 (fun k => k < B ∨ (Value.slice none 0 0).ownBlock = some k) p now (restOf now H) 400 q now H 400) := by
    show Two _ _ _ _ _ _ _ _ _ _
    rw [rest_all (fun q hq => (HGB.out q hq).2.1)]
    exact hW4.swap.less (fun k hk => by
      rcases hk with g | g
      · exact g
      · cases g)
  have HD0 : Hid (([] : List NU).Perm (dueOf now H)) := by
    show List.Perm _ _
    rw [due_none (fun q hq => (HGB.out q hq).2.1)]
  clear hH hW4 hb3 hK3 hK4 HA2 HT2 HT HTW HB2 hK3s hK4s hBs HTA hc1 hc2 hTm HHL HGB
  go_wp2
  go_loopw [12, 13, 14] (fun u l i wr => ∃ (k c : Nat) (D : List NU), k ≤ Y.length ∧ i = .int .i64 k ∧ l = .int .i64 c ∧ now ≤ c ∧ c ≤ 1099511627776 ∧ OwnN wr B u (D.map Prod.fst) ∧ Hid (D.Perm (dueOf c H)) ∧ Hid (D.Pairwise tlt) ∧ Hid (Two wr (fun k => k < B ∨ u.ownBlock = some k) p c (restOf c H) (400 + 400 * k) q now H 400) ∧ Hid (Below w.heap.size w wr)) (fun _ _ i _ => Y.length - (intOf i).toNat)
  case atStart => exact ⟨0, now, [], Nat.zero_le _, rfl, rfl, Nat.le_refl _, hn, OwnN.nil _ _, HD0, List.Pairwise.nil, HW4, HB4⟩
  case round =>
    obtain ⟨k, c, D, hk, rfl, rfl, hnc, hc40, hO, HDP, HDR, HTW, HBW⟩ := hrel
    obtain ⟨ws, rfl⟩ : ∃ ws, ws = wr := ⟨_, rfl⟩
    have hBs : B ≤ ws.heap.size := by rw [HBE.out]; exact HBW.out.size
    obtain ⟨uo, uc, rfl, hu1, hu2, hNS, hub⟩ := hO.at
    rw [List.length_map] at hu1 hO hub HTW ⊢
    have HNS := Hid.mk2 hNS
    have HO := Hid.mk2 hO
    have HUB := Hid.mk2 hub
    unfold maxLen at hu2
    have hDl : D.length ≤ 200 := by
      have e1 := HDP.out.length_eq
      have e2 := due_le c H
      have e3 := HH2.out
      omega
    clear hO hNS hub HW4 HB4 HD0
    by_cases hlt : k < Y.length
    · have hlt2 : (k : Int) < (Y.length : Int) := by omega
      rcases HY.out with h0 | ⟨yb, yoff, rfl, hyb, hyc⟩
      · rw [h0] at hlt; simp at hlt
      have c0 := (HBW.out.cell (p := ⟨yb, yoff + k, none⟩) hyb).trans (hyc k hlt)
      obtain ⟨z, hz⟩ : ∃ z, z = Y[k] := ⟨_, rfl⟩
      rw [← hz] at c0
      clear hz hyc
      have hybB : yb < B := by rw [HBE.out]; exact hyb
      by_cases hzb : z < (c : Int) ∨ 1099511627776 < z
      · have HTB := Hid.mk2 (tickBad_two ws _ p c _ _ q now H 400 HTW.out z hzb)
        clear hzb
        go_wp2_with (go_at_call 11; refine HTB.out.mono ?_; rintro e wq ⟨rfl, hwq⟩; obtain rfl : ws = wq := hwq.symm)
        go_roundw
        case rel => exact ⟨k + 1, c, D, by omega, by go_num, rfl, hnc, hc40, HO.out, HDP, HDR, HTW.out.mono (by omega), HBW⟩
        case measure => simp [intOf]; omega
      · obtain ⟨tn, rfl⟩ : ∃ tn : Nat, z = tn := ⟨z.toNat, by omega⟩
        have ht1 : c ≤ tn := by omega
        have ht2 : tn ≤ 1099511627776 := by omega
        have HTI := Hid.mk2 (tickLen_two ws _ p c (restOf c H) (400 + 400 * k) q now H 400 HTW.out (by omega) tn ht1 ht2)
        clear hzb
        go_upto_region 17 with (go_at_call 11; refine HTI.out.mono ?_; rintro e w5 ⟨g, S, rfl, hA5, hP5, hR5, hW5, hK5⟩)
        have hO5 : OwnN w5 B (.slice uo D.length uc) (D.map Prod.fst) := HO.out.kept hK5 (fun g hg h => h (.inr hg))
        have hBs5 : B ≤ w5.heap.size := Nat.le_trans hBs hK5.size
        have hyb5 : yb < w5.heap.size := by omega
        have c5 : w5.cell? ⟨yb, yoff + k, none⟩ = some (.int .i64 tn) := (World.cell?_of_block (hK5.block yb (by omega) (fun h => h (.inl hybB)))).trans c0
        have HRL := Hid.mk2 (rest_le c H)
        have hSl : S.length ≤ 200 := by
          have e1 := hP5.length_eq
          have e2 := due_le tn (restOf c H)
          have e3 := HH2.out
          have e4 := HRL.out
          omega
        have HB5 : Hid (Below w.heap.size w w5) := HBW.out.trans (hK5.to _ (by have := HBE.out; omega) (fun k hk => .inl (by have := HBE.out; omega)))
        have HW5 := Hid.mk2 hW5
        have HP5 := Hid.mk2 hP5
        have HR5 := Hid.mk2 hR5
        clear hW5 hP5 hR5 hK5 HTI c0
        go_upto_region 18 with (at_builtin; refine app_n rfl (.tmp 84) (.tmp 85) rfl B _ (D.map Prod.fst) hO5 rfl g _ (S.map Prod.fst) hA5 (by rw [List.length_map]; rfl) (by simp; omega) hBs5 ?_; intro v6 w6 ho6 hg6; have c6 : w6.cell? ⟨yb, yoff + k, none⟩ = some (.int .i64 tn) := (World.cell?_of_block (hg6.grown.block yb hyb5 (fun e => by have := (hO5.lt yb e.symm).1; omega))).trans c5; have hyb6 : yb < w6.heap.size := Nat.lt_of_lt_of_le hyb5 hg6.grown.size)
        go_wp2
        go_roundw
        case rel =>
          have hTW6 : Two w6 (fun k => k < B ∨ v6.ownBlock = some k) p tn (restOf tn H) (400 + 400 * (k + 1)) q now H 400 := by
            have h1 := HW5.out
            rw [rest_rest ht1] at h1
            refine (h1.grown hg6.grown (fun j hj => .inl (.inr hj)) (fun j hj => ?_)).mono (by have := HRL.out; have := HH2.out; omega)
            rcases hj with h2 | h2
            · exact .inl (.inl (.inl h2))
            · rcases hg6.lies j h2 with h3 | h3
              · exact .inl (.inl (.inr h3))
              · exact .inr ⟨h3, (ho6.lt j h2).2⟩
          have hB6 : Below w.heap.size w w6 := HB5.out.trans ⟨hg6.grown.os, hg6.grown.tape, hg6.grown.output, hg6.grown.size, fun j hj => hg6.grown.block j (by have := HBE.out; omega) (fun e => by have := (hO5.lt j e.symm).1; have := HBE.out; omega)⟩
          exact ⟨k + 1, tn, D ++ S, by omega, by go_num, rfl, by omega, ht2, by rw [List.map_append]; exact ho6, due_grow ht1 HDP.out HP5.out, due_rise HDP.out HP5.out HDR.out HR5.out, hTW6, hB6⟩
        case measure => simp [intOf]; omega
    · have hkY : k = Y.length := by omega
      have hlt2 : ¬ (k : Int) < (Y.length : Int) := by omega
      subst hkY
      have HNW := Hid.mk2 (now_two ws _ p c _ _ q now H 400 HTW.out)
      have HT6 := Hid.mk2 (tick_two ws _ q now H 400 p c _ _ HTW.out.swap (by omega) c hnc hc40)
      clear HTW
      go_upto_region 20 with (go_at_call 15; refine HNW.out.mono ?_; rintro e wq ⟨rfl, hwq⟩; obtain rfl : ws = wq := hwq.symm)
      go_upto_region 21 with (go_at_call 11; refine HT6.out.mono ?_; rintro e w6 ⟨g2, S2, rfl, hA6, hP6, hR6, hW6, hK6⟩)
      obtain rfl : D = S2 := rise_eq (HDP.out.trans hP6.symm) HDR.out hR6
      have hO6 : OwnN w6 B (.slice uo D.length uc) (D.map Prod.fst) := HO.out.kept hK6 (fun g hg h => h (.inr hg))
      have hns6 : NsOr w6 uo (D.map Prod.fst) := by
        obtain ⟨ao, cp, e, _, _, hns, _⟩ := hO6.at
        rw [List.length_map] at e
        cases e
        exact hns
      have hsn := sameNames_or w6 uo (some ⟨g2, 0, none⟩) uc D.length (D.map Prod.fst) hns6 (.inr ⟨g2, rfl, hA6.cells⟩) (by simp; omega) (by simpa using hu1) (by simp) (by unfold maxLen; omega) (by unfold maxLen; omega)
      rw [List.length_map] at hsn
      have HSN := Hid.mk2 hsn
      have HL1 := Hid.mk2 (len_two w6 _ p c _ _ q c _ _ hW6.swap)
      have HL2 := Hid.mk2 (len_two w6 _ q c _ _ p c _ _ hW6)
      have HB6 : Hid (Below w.heap.size w w6) := HBW.out.trans (hK6.to _ (by have := HBE.out; omega) (fun k hk => .inl (by have := HBE.out; omega)))
      obtain ⟨rl, hrl⟩ : ∃ rl, rl = (restOf c H).length := ⟨_, rfl⟩
      rw [← hrl] at HL1 HL2
      clear hrl hsn hns6 hO6 hA6 hP6 hR6 hW6 hK6 HT6 HNW
      go_upto_region 22 with (go_at_call 14; refine HL1.out.mono ?_; rintro e wq ⟨rfl, hwq⟩; obtain rfl : w6 = wq := hwq.symm)
      go_upto_region 23 with (go_at_call 14; refine HL2.out.mono ?_; rintro e wq ⟨rfl, hwq⟩; obtain rfl : w6 = wq := hwq.symm)
      go_wp2_with (go_at_call 21; refine HSN.out.mono ?_; rintro e wz ⟨rfl, nd, hwz⟩; have hbz : Below w6.heap.size w6 wz := (by rw [hwz]; exact below_drewN (Below.refl _ _) nd); clear hwz)
      go_ret
      exact ⟨by simp, HB6.out.trans (hbz.mono HB6.out.size)⟩

theorem wheelSteps_walk (w : World) (now : Int) (hwn : (Lit.int .i64 now).wf = true) (a1 : Option Addr) (len1 cap1 : Nat) (T : List NU) (h : InDues w a1 len1 cap1 T) (a2 : Option Addr) (len2 cap2 : Nat) (Y : List Int) (h2 : InWay w a2 len2 cap2 Y) :
    Calls Try.prog 6 #[.int .i64 now, .slice a1 len1 cap1, .slice a2 len2 cap2] w fun e w' => e = .returned (.bool true) ∧ Below w.heap.size w w' := by
  obtain ⟨rfl, hc1, hc2, hT⟩ := h
  obtain ⟨rfl, hd1, hd2, hY⟩ := h2
  by_cases hn : now < 0 ∨ 1099511627776 < now
  · exact wheelSteps_none w now hn _ _
  · obtain ⟨n, rfl⟩ : ∃ n : Nat, now = n := ⟨now.toNat, by omega⟩
    exact wheelSteps_good w n (by omega) a1 cap1 T hc1 hc2 hT a2 cap2 Y hd1 hd2 hY

set_option maxRecDepth 100000 in
theorem wheelSteps_lifted (os : Os) (started : os.Started) (H : Type) (enc : TypeId × Value → H) :
    ReturnsInHanded {} Try.checked os 6 .any (Rows.wheelStepsSpec.pre6 enc Try.prog Try.f6 Rows.wheelStepsRow.domain false) (Rows.wheelStepsSpec.post enc Try.prog Try.f6 false true false false) := by
  refine returnsInHanded_of_change (C := Try.checked) (by kernel_rfl) started (by kernel_rfl) Try.func6
    (ChangeSpec.witness6 (enc := enc) (C := Try.checked) false ⟨#[], #[.int .i64 0, .slice none 0 0, .slice none 0 0], []⟩ 8 (by kernel_rfl) (by kernel_rfl) (by kernel_rfl) (by kernel_rfl)) ?_
  intro W base args ds gs before hval0 hW hcnd _
  have hval : ∀ (j : Nat) t v, Try.f6.params[j]? = some t → args[j]? = some v → Value.okWide Try.prog W .any base t v := hval0
  have hW' := hW
  obtain ⟨p, q, hA0, hV, rfl, hfz, hnd⟩ := hW
  have hA : DataW.TrodAll enc Try.prog W 0 (fun _ => true) true Try.f6.params.toList args.toList ds p := hA0
  rw [Try.params6] at hA hval
  obtain ⟨v0, vs0, d0, ds0, p0, q0, hargs, rfl, rfl, h0, r0⟩ := trodAll_cons hA
  obtain ⟨v1, vs1, d1, ds1, p1, q1, rfl, rfl, rfl, h1, r1⟩ := trodAll_cons r0
  obtain ⟨v2, vs2, d2, ds2, p2, q2, rfl, rfl, rfl, h2, r2⟩ := trodAll_cons r1
  obtain ⟨rfl, rfl, rfl⟩ := trodAll_nil r2
  obtain rfl : args = #[v0, v1, v2] := by cases args; simp_all
  obtain ⟨rfl, rfl⟩ := trodVars_none hV
  obtain ⟨a0, rfl, rfl, rfl, w0⟩ := open_int Try.underlying3 (hval 0 3 v0 rfl rfl) h0
  have k1 := h1
  have lt1 : ∀ x ∈ p1, x.block < W.heap.size := by obtain ⟨m, hm⟩ := k1; exact DataW.trod_lt m _ _ _ hm
  obtain ⟨a1, len1, cap1, rfl⟩ := okWide_slice Try.underlying53 (hval 1 53 v1 rfl rfl)
  obtain ⟨l1, w1⟩ := inDues_of (fun _ => rfl) h1
  have k2 := h2
  have lt2 : ∀ x ∈ p2, x.block < W.heap.size := by obtain ⟨m, hm⟩ := k2; exact DataW.trod_lt m _ _ _ hm
  obtain ⟨a2, len2, cap2, rfl⟩ := okWide_slice Try.underlying60 (hval 2 60 v2 rfl rfl)
  obtain ⟨l2, w2⟩ := inInts_of (fun _ => rfl) h2
  clear hA0 hval0
  refine (wheelSteps_walk W a0 w0 a1 len1 cap1 l1 w1 a2 len2 cap2 l2 w2).mono fun e W' ⟨he, bel⟩ => ?_
  subst he
  exact ⟨_, rfl, _, _, _, [], _, [], hW', trodAll_mk1 (shut_bool Try.underlying4 _), (trodAll_cons_mk (shut_int Try.underlying3 w0) (trodAll_cons_mk (Below.trod laidOut_all (by kernel_rfl) (of_decide_eq_true (by kernel_rfl)) k1 bel lt1) (trodAll_cons_mk (Below.trod laidOut_all (by kernel_rfl) (of_decide_eq_true (by kernel_rfl)) k2 bel lt2) trodAll_mk0))), rfl, bel.frame _, fun h => by cases h⟩

theorem wheelSteps_proved : Rows.WheelStepsSaid :=
  OpenClaim.holds_of_wide 6 Try.f6 rfl rfl rfl rfl rfl rfl rfl ⟨rfl, rfl, rfl, rfl, rfl⟩ rfl rfl rfl rfl rfl (by kernel_rfl) Try.func6 (by kernel_rfl)
    (of_decide_eq_true (by kernel_rfl)) (by unfold Func.isWrapper; first | (rw [if_pos (by decide +kernel)]; kernel_rfl) | (rw [if_neg (by decide +kernel)]; exact ⟨rfl, rfl⟩))
    (fun os started H enc _ => wheelSteps_lifted os started H enc)
#print axioms wheelSteps_proved
end Go.Proofs.Ytlhlleokehkolad
