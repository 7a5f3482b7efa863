/-
  Contracts of Pieces and Join.
-/
import Derived.Test.YtgfhjkphdmkmoacBgCalls
namespace Go.Proofs.Ytgfhjkphdmkmoac
open Go.RowKit
set_option linter.unusedSimpArgs false
set_option linter.unusedVariables false
set_option maxRecDepth 100000

theorem pcs_end (b : List UInt8) (F : Nat) : pcs b F [] = [(b.take b.length).drop F] := by simp [pcs]
theorem pcs_step (b : List UInt8) (F X : Nat) (xs : List Int) : pcs b F ((X : Int) :: xs) = (b.take X).drop F :: pcs b X xs := by simp [pcs]

set_option maxHeartbeats 2000000 in
theorem pieces_good (w : World) (ao : Option Addr) (b : List UInt8) (cap : Nat) (hb : Sl w ao b cap) (io : Option Addr) (at_ : List Int) (ic : Nat) (hi : Il w io at_ ic) (h1 : b.length ≤ 16384) (h2 : at_.length ≤ 256) (h3 : plOk b.length 0 at_ = true) :
    Calls Try.prog 15 #[.slice ao b.length cap, .slice io at_.length ic] w fun e w' => ∃ v', e = .returned (.tuple #[v', .int .i64 0]) ∧ OwnLs w' w.heap.size v' (pcs b 0 at_) ∧ Below w.heap.size w w' := by
  have g1 : decide ((16384 : Int) < (b.length : Int)) = false := by simp; omega
  have g2 : decide ((256 : Int) < (at_.length : Int)) = false := by simp; omega
  have hap := arePlaces_any w io at_ ic hi b.length
  rw [h3] at hap
  have hil := hi.hl
  have him := hi.hc
  have HB : Hid (Sl w ao b cap) := hb
  have HI : Hid (IsAt w w.heap.size io at_) := hi.at_
  have H3 : Hid (plOk b.length 0 at_ = true) := h3
  clear hb hi h3
  obtain ⟨i0, hi, hz0, hz1, hz2⟩ := info_parts Try.infoBytes
  go_enter Try.func15, Try.ntmps15
  go_wp2_with (first
    | (go_at_call 39; refine hap.mono ?_; rintro e w' ⟨rfl, rfl⟩)
    | (at_make; refine wpList_make_own _ rfl (.const (.int .i64 0)) (.tmp 23) 36 rfl w.heap.size 22 i0 _ 1 Try.underlying36 hi hz0 hz1 .i64 .i64 _ (at_.length + 1) rfl rfl (by first | rfl | go_num) (by rw [hz2]; omega) (by unfold maxLen; omega) (Nat.le_refl _) ?_; intro w1 ho1 hg1))
  have hb1 : Below w.heap.size w w1 := (Below.refl _ _).grown hg1 (Nat.le_refl _) (fun k hk => by cases hk)
  have hop : OwnLs w1 w.heap.size (.slice (some ⟨w.heap.size, 0, none⟩) 0 (at_.length + 1)) [] := ⟨[], rfl, ho1, fun i hi => by simp at hi⟩
  clear hz0 hz1 hz2 hi i0 hg1 ho1 hap
  go_loopw [6, 7, 27] (fun u f i wr => ∃ (k F : Nat) (LL : List (List UInt8)), k ≤ at_.length ∧ i = .int .i64 k ∧ f = .int .i64 F ∧ F ≤ b.length ∧ OwnLs wr w.heap.size u LL ∧ Hid (LL.length = k) ∧ Hid (pcs b 0 at_ = LL ++ pcs b F (at_.drop k)) ∧ Hid (plOk b.length F (at_.drop k) = true) ∧ Below w.heap.size w wr) (fun _ _ i _ => at_.length - (intOf i).toNat)
  case atStart => exact ⟨0, 0, [], Nat.zero_le _, rfl, rfl, Nat.zero_le _, hop, rfl, by simp [Hid], H3.out, hb1⟩
  case round =>
    obtain ⟨k, F, LL, hk, rfl, rfl, hF, how, HL, HP, HO, hbr⟩ := hrel
    clear hop hb1
    have hsr := hbr.size
    have HSL : Hid (Sl wr ao b cap) := HB.out.below hbr
    have hln : LL.length + 1 ≤ 1000000 := by rw [HL.out]; omega
    have hlo : ∀ j, u6.ownBlock = some j → j < wr.heap.size := fun j hj => (how.lt j hj).2
    have HLO : Hid (∀ j, u6.ownBlock = some j → j < wr.heap.size) := hlo
    clear hlo
    by_cases hlt : k < at_.length
    · have hlt3 : (k : Int) < (at_.length : Int) := by omega
      have hdr : at_.drop k = at_[k] :: at_.drop (k + 1) := List.drop_eq_getElem_cons hlt
      have hO := HO.out
      rw [hdr] at hO
      obtain ⟨o1, o2, o3⟩ := plOk_cons hO
      obtain ⟨X, hX⟩ : ∃ X : Nat, at_[k] = (X : Int) := ⟨at_[k].toNat, by omega⟩
      rcases HI.out with h | ⟨bk, off, rfl, hbk, hc⟩
      · rw [h] at hlt; simp at hlt
      · have hx := (hbr.cell (p := ⟨bk, off + k, none⟩) hbk).trans (hc k hlt)
        rw [hX] at hdr o1 o2 o3 hx
        have hFX : F ≤ X := by omega
        have hXl : X ≤ b.length := by omega
        have HP2 : Hid (pcs b 0 at_ = (LL ++ [(b.take X).drop F]) ++ pcs b X (at_.drop (k + 1))) := by
          rw [HP.out, hdr, pcs_step]; simp [Hid]
        have HO2 : Hid (plOk b.length X (at_.drop (k + 1)) = true) := o3
        have hcall := piece_any wr ao b cap HSL.out h1 F X hFX hXl
        obtain ⟨p, hpe⟩ : ∃ p, p = (b.take X).drop F := ⟨_, rfl⟩
        rw [← hpe] at hcall HP2
        clear hpe hc hX hdr hO o1 o2 o3
        go_wp2_with (first
          | (go_at_call 40; refine hcall.mono ?_; rintro e w5 ⟨v5, rfl, hf5, hb5⟩; obtain ⟨ao5, c5, hv5⟩ := hf5.val; subst hv5; have how5 := how.below hb5; have hfb : FreshBut w5 w.heap.size u6.ownBlock _ p := (hf5.but HLO.out).mono hsr; have hs5 := hb5.size)
          | (at_builtin; refine app_ls (w0 := w5) rfl (.tmp 31) (.tmp 36) rfl w.heap.size _ _ how5 rfl p _ hfb rfl rfl hln (by omega) ?_; intro v7 w7 ho7 hg7))
        have hb7 : Below w.heap.size w w7 := (hbr.trans (hb5.mono hsr)).trans (hg7.below_ls how5 (by omega))
        go_roundw
        case rel => exact ⟨k + 1, X, LL ++ [p], by omega, by go_num, rfl, hXl, ho7, by simp [Hid, HL.out], HP2, HO2, hb7⟩
        case measure => simp [intOf]; omega
    · have hlt3 : decide ((k : Int) < (at_.length : Int)) = false := by simp; omega
      have HP2 : Hid (LL ++ [(b.take b.length).drop F] = pcs b 0 at_) := by
        have e0 : at_.drop k = [] := List.drop_of_length_le (by omega)
        rw [HP.out, e0, pcs_end]; exact rfl
      have hcall := piece_any wr ao b cap HSL.out h1 F b.length hF (Nat.le_refl _)
      obtain ⟨p, hpe⟩ : ∃ p, p = (b.take b.length).drop F := ⟨_, rfl⟩
      rw [← hpe] at hcall HP2
      clear hpe
      go_wp2_with (first
        | (go_at_call 40; refine hcall.mono ?_; rintro e w5 ⟨v5, rfl, hf5, hb5⟩; obtain ⟨ao5, c5, hv5⟩ := hf5.val; subst hv5; have how5 := how.below hb5; have hfb : FreshBut w5 w.heap.size u6.ownBlock _ p := (hf5.but HLO.out).mono hsr; have hs5 := hb5.size)
        | (at_builtin; refine app_ls (w0 := w5) rfl (.tmp 40) (.tmp 46) rfl w.heap.size _ _ how5 rfl p _ hfb rfl rfl hln (by omega) ?_; intro v7 w7 ho7 hg7))
      have hb7 : Below w.heap.size w w7 := (hbr.trans (hb5.mono hsr)).trans (hg7.below_ls how5 (by omega))
      rw [HP2.out] at ho7
      go_ret2
      exact ⟨_, rfl, ho7, hb7⟩

theorem pieces_any (w : World) (ao : Option Addr) (b : List UInt8) (cap : Nat) (hb : Sl w ao b cap) (io : Option Addr) (at_ : List Int) (ic : Nat) (hi : Il w io at_ ic) :
    Calls Try.prog 15 #[.slice ao b.length cap, .slice io at_.length ic] w fun e w' => ∃ v', e = .returned (.tuple #[v', .int .i64 (piecesE b at_)]) ∧ OwnLs w' w.heap.size v' (piecesL b at_) ∧ Below w.heap.size w w' := by
  have hbl := hb.hl
  have hbm := hb.hc
  have hil := hi.hl
  have him := hi.hc
  by_cases h1 : 16384 < b.length
  · have hE : piecesE b at_ = 3 := by unfold piecesE; rw [if_pos h1]
    have hR : piecesL b at_ = [] := by unfold piecesL; rw [hE, if_neg (by decide)]
    rw [hE, hR]
    have g1 : (16384 : Int) < (b.length : Int) := by omega
    clear hb hi
    go_enter Try.func15, Try.ntmps15
    go_wp2
    go_ret2
    exact ⟨_, rfl, OwnLs.nil _ _, Below.refl _ _⟩
  · have g1 : decide ((16384 : Int) < (b.length : Int)) = false := by simp; omega
    by_cases h2 : 256 < at_.length
    · have hE : piecesE b at_ = 4 := by unfold piecesE; rw [if_neg h1, if_pos h2]
      have hR : piecesL b at_ = [] := by unfold piecesL; rw [hE, if_neg (by decide)]
      rw [hE, hR]
      have g2 : (256 : Int) < (at_.length : Int) := by omega
      clear hb hi
      go_enter Try.func15, Try.ntmps15
      go_wp2
      go_ret2
      exact ⟨_, rfl, OwnLs.nil _ _, Below.refl _ _⟩
    · have g2 : decide ((256 : Int) < (at_.length : Int)) = false := by simp; omega
      by_cases h3 : plOk b.length 0 at_ = true
      · have hE : piecesE b at_ = 0 := by unfold piecesE; rw [if_neg h1, if_neg h2, if_neg (by rw [h3]; decide)]
        have hR : piecesL b at_ = pcs b 0 at_ := by unfold piecesL; rw [if_pos hE]
        rw [hE, hR]
        exact pieces_good w ao b cap hb io at_ ic hi (by omega) (by omega) h3
      · have h3' : plOk b.length 0 at_ = false := by simpa using h3
        have hE : piecesE b at_ = 2 := by unfold piecesE; rw [if_neg h1, if_neg h2, if_pos h3']
        have hR : piecesL b at_ = [] := by unfold piecesL; rw [hE, if_neg (by decide)]
        rw [hE, hR]
        have hap := arePlaces_any w io at_ ic hi b.length
        rw [h3'] at hap
        clear hb hi
        go_enter Try.func15, Try.ntmps15
        go_wp2_with (go_at_call 39; refine hap.mono ?_; rintro e w' ⟨rfl, rfl⟩)
        go_ret2
        exact ⟨_, rfl, OwnLs.nil _ _, Below.refl _ _⟩

set_option maxHeartbeats 2000000 in
theorem join_short (w : World) (ao : Option Addr) (ls : List (List UInt8)) (cap : Nat) (h : Ll w ao ls cap) (hroom : ∀ p ∈ ls, p.length ≤ 140737488355328) (h1 : ls.length ≤ 257) :
    Calls Try.prog 24 #[.slice ao ls.length cap] w fun e w' => ∃ v', e = .returned (.tuple #[v', .int .i64 (joinE ls)]) ∧ Own w' w.heap.size v' (joinB ls) ∧ Below w.heap.size w w' := by
  have g1 : decide ((257 : Int) < (ls.length : Int)) = false := by simp; omega
  have hll := h.hl
  have hlm := h.hc
  have HL : Hid (LsAt w w.heap.size ao ls) := h.at_
  have HR : Hid (∀ p ∈ ls, p.length ≤ 140737488355328) := hroom
  clear h hroom
  obtain ⟨i0, hi, hz0, hz1, hz2⟩ := info_parts Try.infoByte
  go_enter Try.func24, Try.ntmps24
  go_wp2
  go_loop [4, 15] (fun m i => ∃ k M : Nat, k ≤ ls.length ∧ i = .int .i64 k ∧ m = .int .i64 M ∧ M ≤ 16384 ∧ Hid (M = (ls.take k).flatten.length)) (fun _ i => ls.length - (intOf i).toNat)
  case atStart => exact ⟨0, 0, Nat.zero_le _, rfl, rfl, Nat.zero_le _, rfl⟩
  case round =>
    obtain ⟨k, M, hk, rfl, rfl, hM, HM⟩ := hrel
    by_cases hlt : k < ls.length
    · have hlt3 : (k : Int) < (ls.length : Int) := by omega
      have hroom := HR.out ls[k] (List.getElem_mem hlt)
      have hfl := flat_take_succ ls k hlt
      have hle := flat_take_le ls (k + 1)
      rcases HL.out with h | ⟨bk, off, rfl, hbk, hc⟩
      · rw [h] at hlt; simp at hlt
      · obtain ⟨v, hv, hd⟩ := hc k hlt
        obtain ⟨p, hpe⟩ : ∃ p, p = ls[k] := ⟨_, rfl⟩
        rw [← hpe] at hroom hfl hd
        have HM2 : Hid (M + p.length = (ls.take (k + 1)).flatten.length) := by rw [hfl, List.length_append, HM.out]; exact rfl
        rw [← HM2.out] at hle
        have HLE : Hid (M + p.length ≤ ls.flatten.length) := hle
        obtain ⟨a1, c1, rfl, -, -, -, -⟩ := hd
        clear hc hpe hfl hle
        by_cases hbig : (16384 : Int) < (M : Int) + (p.length : Int)
        · have hE : joinE ls = 3 := by unfold joinE; rw [if_neg (by omega), if_pos (by have := HLE.out; omega)]
          have hB : joinB ls = [] := by unfold joinB; rw [hE, if_neg (by decide)]
          have HE : Hid (joinE ls = 3 ∧ joinB ls = []) := ⟨hE, hB⟩
          clear hE hB
          go_wp2
          go_ret2
          rw [HE.out.1, HE.out.2]
          exact ⟨_, rfl, Own.nil _ _, Below.refl _ _⟩
        · have hbig2 : decide ((16384 : Int) < (M : Int) + (p.length : Int)) = false := by simp; omega
          go_wp2
          go_round
          case rel => exact ⟨k + 1, M + p.length, by omega, by go_num, by go_num, by omega, HM2⟩
          case measure => simp [intOf]; omega
    · have hlt3 : decide ((k : Int) < (ls.length : Int)) = false := by simp; omega
      have hM2 : M = ls.flatten.length := by
        have e0 : ls.take k = ls := List.take_of_length_le (by omega)
        rw [HM.out, e0]
      have hE : joinE ls = 0 := by unfold joinE; rw [if_neg (by omega), if_neg (by omega)]
      have hB : joinB ls = ls.flatten := by unfold joinB; rw [if_pos hE]
      have HE : Hid (joinE ls = 0 ∧ joinB ls = ls.flatten) := ⟨hE, hB⟩
      clear hE hB HM
      have HM2 : Hid (M = ls.flatten.length) := hM2
      clear hM2
      go_wp2_with (at_make; refine wpList_make_own _ rfl (.const (.int .i64 0)) (.tmp 26) 22 rfl w.heap.size 5 i0 _ 1 Try.underlying22 hi hz0 hz1 .i64 .i64 _ M rfl rfl (by first | rfl | go_num) (by rw [hz2]; omega) (by unfold maxLen; omega) (Nat.le_refl _) ?_; intro w1 ho1 hg1)
      have hb1 : Below w.heap.size w w1 := (Below.refl _ _).grown hg1 (Nat.le_refl _) (fun k hk => by cases hk)
      have hop : Own w1 w.heap.size (.slice (some ⟨w.heap.size, 0, none⟩) 0 M) [] := ho1
      clear hz0 hz1 hz2 hi i0 hg1 ho1
      go_loopw [7, 30] (fun u i wr => ∃ k : Nat, k ≤ ls.length ∧ i = .int .i64 k ∧ Own wr w.heap.size u (ls.take k).flatten ∧ Below w.heap.size w wr) (fun _ i _ => ls.length - (intOf i).toNat)
      case atStart => exact ⟨0, Nat.zero_le _, rfl, hop, hb1⟩
      case round =>
        obtain ⟨j, hj, rfl, how, hbr⟩ := hrel
        clear hop hb1
        have hsr := hbr.size
        by_cases hjt : j < ls.length
        · have hjt3 : (j : Int) < (ls.length : Int) := by omega
          have hfl := flat_take_succ ls j hjt
          have hle := flat_take_le ls (j + 1)
          rw [hfl, List.length_append] at hle
          rcases HL.out with h | ⟨bk, off, rfl, hbk, hc⟩
          · rw [h] at hjt; simp at hjt
          · obtain ⟨v, hv, hd⟩ := hc j hjt
            obtain ⟨p, hpe⟩ : ∃ p, p = ls[j] := ⟨_, rfl⟩
            rw [← hpe] at hfl hd hle
            have HFL : Hid ((ls.take (j + 1)).flatten = (ls.take j).flatten ++ p) := hfl
            have hv2 := (hbr.cell (p := ⟨bk, off + j, none⟩) hbk).trans hv
            obtain ⟨a1, c1, rfl, d1, d2, d3, d4⟩ := hd.below hbr (Nat.le_refl _)
            have HN : Hid (a1 = none → c1 = 0) := d3
            have hln : (ls.take j).flatten.length + p.length ≤ 140737488355328 := by have := HM2.out; omega
            obtain ⟨LL, hLL⟩ : ∃ LL, LL = (ls.take j).flatten := ⟨_, rfl⟩
            rw [← hLL] at how hln HFL
            clear hc hpe hfl hle hv d1 d2 d3 hLL hd
            go_wp2_with (at_builtin; refine app_bytes rfl (.tmp 34) (.tmp 35) rfl w.heap.size _ LL how rfl a1 c1 p p.length rfl rfl w.heap.size HN.out d4 hln hsr ?_; intro v2 w2 ho2 hg2)
            have hb2 : Below w.heap.size w w2 := hbr.trans (hg2.below how hsr)
            rw [← HFL.out] at ho2
            go_roundw
            case rel => exact ⟨j + 1, by omega, by go_num, ho2, hb2⟩
            case measure => simp [intOf]; omega
        · have hjt3 : decide ((j : Int) < (ls.length : Int)) = false := by simp; omega
          have e0 : ls.take j = ls := List.take_of_length_le (by omega)
          rw [e0] at how
          clear e0
          go_wp2
          go_ret2
          rw [HE.out.1, HE.out.2]
          exact ⟨_, rfl, how, hbr⟩

theorem join_any (w : World) (ao : Option Addr) (ls : List (List UInt8)) (cap : Nat) (h : Ll w ao ls cap) (hroom : ∀ p ∈ ls, p.length ≤ 140737488355328) :
    Calls Try.prog 24 #[.slice ao ls.length cap] w fun e w' => ∃ v', e = .returned (.tuple #[v', .int .i64 (joinE ls)]) ∧ Own w' w.heap.size v' (joinB ls) ∧ Below w.heap.size w w' := by
  by_cases h1 : 257 < ls.length
  · have hE : joinE ls = 4 := by unfold joinE; rw [if_pos h1]
    have hR : joinB ls = [] := by unfold joinB; rw [hE, if_neg (by decide)]
    rw [hE, hR]
    have g1 : (257 : Int) < (ls.length : Int) := by omega
    clear h hroom
    go_enter Try.func24, Try.ntmps24
    go_wp2
    go_ret2
    exact ⟨_, rfl, Own.nil _ _, Below.refl _ _⟩
  · exact join_short w ao ls cap h hroom (by omega)
end Go.Proofs.Ytgfhjkphdmkmoac
