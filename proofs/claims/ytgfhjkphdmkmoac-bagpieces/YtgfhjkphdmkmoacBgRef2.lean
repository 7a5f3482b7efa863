/-
  Contracts of the document's own functions on pieces: Join, Pieces.
-/
import Derived.Test.YtgfhjkphdmkmoacBgRef
namespace Go.Proofs.Ytgfhjkphdmkmoac
open Go.RowKit
set_option linter.unusedSimpArgs false
set_option linter.unusedVariables false
set_option maxRecDepth 100000

set_option maxHeartbeats 1000000 in
theorem rjoin_any (w : World) (ao : Option Addr) (ls : List (List UInt8)) (cap : Nat) (h : Ll w ao ls cap) (hroom : ∀ p ∈ ls, p.length ≤ 140737488355328) :
    Calls Try.prog 25 #[.slice ao ls.length cap] w fun e w' => ∃ v', e = .returned (.tuple #[v', .int .i64 (joinE ls)]) ∧ Own w' w.heap.size v' (joinB ls) ∧ Below w.heap.size w w' := by
  have hll := h.hl
  have hlm := h.hc
  by_cases h1 : 257 < ls.length
  · have hE : joinE ls = 4 := by unfold joinE; rw [if_pos h1]
    have hR : joinB ls = [] := by unfold joinB; rw [hE, if_neg (by decide)]
    rw [hE, hR]
    have g1 : (257 : Int) < (ls.length : Int) := by omega
    clear h hroom
    go_enter Try.func25, Try.ntmps25
    go_wp2
    go_ret2
    exact ⟨_, rfl, Own.nil _ _, Below.refl _ _⟩
  · have g1 : decide ((257 : Int) < (ls.length : Int)) = false := by simp; omega
    have HL : Hid (LsAt w w.heap.size ao ls) := h.at_
    have HR : Hid (∀ p ∈ ls, p.length ≤ 140737488355328) := hroom
    clear h hroom
    go_enter Try.func25, Try.ntmps25
    go_wp2
    go_loopw [4, 5] (fun u i wr => ∃ k : Nat, k ≤ ls.length ∧ i = .int .i64 k ∧ (ls.take k).flatten.length ≤ 16384 ∧ Own wr w.heap.size u (ls.take k).flatten ∧ Below w.heap.size w wr) (fun _ i _ => ls.length - (intOf i).toNat)
    case atStart => exact ⟨0, Nat.zero_le _, rfl, by simp, Own.nil _ _, Below.refl _ _⟩
    case round =>
      obtain ⟨j, hj, rfl, hsm, how, hbr⟩ := hrel
      have hsr := hbr.size
      obtain ⟨uo, uc, hu, -, -, -, -⟩ := how.at
      by_cases hjt : j < ls.length
      · have hjt3 : (j : Int) < (ls.length : Int) := by omega
        have hfl := flat_take_succ ls j hjt
        have hle := flat_take_le ls (j + 1)
        rw [hfl, List.length_append] at hle
        have hroom := HR.out ls[j] (List.getElem_mem hjt)
        rcases HL.out with h | ⟨bk, off, rfl, hbk, hc⟩
        · rw [h] at hjt; simp at hjt
        · obtain ⟨v, hv, hd⟩ := hc j hjt
          obtain ⟨p, hpe⟩ : ∃ p, p = ls[j] := ⟨_, rfl⟩
          rw [← hpe] at hfl hd hle hroom
          have HFL : Hid ((ls.take (j + 1)).flatten = (ls.take j).flatten ++ p) := hfl
          have hv2 := (hbr.cell (p := ⟨bk, off + j, none⟩) hbk).trans hv
          obtain ⟨a1, c1, rfl, d1, d2, d3, d4⟩ := hd.below hbr (Nat.le_refl _)
          have HN : Hid (a1 = none → c1 = 0) := d3
          have hln : (ls.take j).flatten.length + p.length ≤ 140737488355328 + 16384 := by omega
          obtain ⟨LL, hLL⟩ : ∃ LL, LL = (ls.take j).flatten := ⟨_, rfl⟩
          rw [← hLL] at how hln HFL hsm hu hle
          have HLE : Hid (LL.length + p.length ≤ ls.flatten.length) := hle
          clear hc hpe hfl hle hv d1 d2 d3 hLL hd
          subst hu
          by_cases hbig : (16384 : Int) < (LL.length : Int) + (p.length : Int)
          · have hE : joinE ls = 3 := by unfold joinE; rw [if_neg (by omega), if_pos (by have := HLE.out; omega)]
            have hB : joinB ls = [] := by unfold joinB; rw [hE, if_neg (by decide)]
            have HE : Hid (joinE ls = 3 ∧ joinB ls = []) := ⟨hE, hB⟩
            clear hE hB
            go_wp2
            go_ret2
            rw [HE.out.1, HE.out.2]
            exact ⟨_, rfl, Own.nil _ _, hbr⟩
          · have hbig2 : decide ((16384 : Int) < (LL.length : Int) + (p.length : Int)) = false := by simp; omega
            go_wp2_with (at_builtin; refine app_bytes rfl (.tmp 24) (.tmp 28) rfl w.heap.size _ LL how rfl a1 c1 p p.length rfl rfl w.heap.size HN.out d4 (by omega) hsr ?_; intro v2 w2 ho2 hg2)
            have hb2 : Below w.heap.size w w2 := hbr.trans (hg2.below how hsr)
            rw [← HFL.out] at ho2
            go_roundw
            case rel => exact ⟨j + 1, by omega, by go_num, by rw [HFL.out]; simp; omega, ho2, hb2⟩
            case measure => simp [intOf]; omega
      · have hjt3 : decide ((j : Int) < (ls.length : Int)) = false := by simp; omega
        have e0 : ls.take j = ls := List.take_of_length_le (by omega)
        rw [e0] at how hsm
        clear e0 hu
        have hE : joinE ls = 0 := by unfold joinE; rw [if_neg (by omega), if_neg (by omega)]
        have hB : joinB ls = ls.flatten := by unfold joinB; rw [if_pos hE]
        have HE : Hid (joinE ls = 0 ∧ joinB ls = ls.flatten) := ⟨hE, hB⟩
        clear hE hB
        go_wp2
        go_ret2
        rw [HE.out.1, HE.out.2]
        exact ⟨_, rfl, how, hbr⟩

/-- b[F:X], of whatever room -/
theorem BsAt.cut {w : World} {B : Nat} {a : Addr} {b : List UInt8} (h : BsAt w B (some a) b) (F X cap : Nat) (hF : F ≤ X) (hX : X ≤ b.length) (hc : b.length ≤ cap) : BsAt w B (if cap = F then some a else some (a.add F)) ((b.take X).drop F) := by
  by_cases hcF : cap = F
  · exact .inl (List.drop_of_length_le (by simp; omega))
  · rw [if_neg hcF]
    have := (h.take X).drop F
    simpa using this
theorem cut_len {b : List UInt8} {F X : Nat} (hF : F ≤ X) (hX : X ≤ b.length) : ((b.take X).drop F).length = X - F := by simp; omega

set_option maxHeartbeats 2000000 in
theorem rpieces_good (w : World) (a : Addr) (b : List UInt8) (cap : Nat) (hb : Sl w (some a) b cap) (io : Option Addr) (at_ : List Int) (ic : Nat) (hi : Il w io at_ ic) (h1 : b.length ≤ 16384) (h2 : at_.length ≤ 256) :
    Calls Try.prog 23 #[.slice (some a) b.length cap, .slice io at_.length ic] w fun e w' => ∃ v', e = .returned (.tuple #[v', .int .i64 (piecesE b at_)]) ∧ OwnLs w' w.heap.size v' (piecesL b at_) ∧ Below w.heap.size w w' := by
  have g1 : decide ((16384 : Int) < (b.length : Int)) = false := by simp; omega
  have g2 : decide ((256 : Int) < (at_.length : Int)) = false := by simp; omega
  have hil := hi.hl
  have him := hi.hc
  have hbl := hb.hl
  have hbc := hb.hc
  have HB : Hid (BsAt w w.heap.size (some a) b) := hb.at_
  have HI : Hid (IsAt w w.heap.size io at_) := hi.at_
  clear hb hi
  go_enter Try.func23, Try.ntmps23
  go_wp2
  go_loopw [6, 7, 8] (fun f u i wr => ∃ (k F : Nat) (LL : List (List UInt8)), k ≤ at_.length ∧ i = .int .i64 k ∧ f = .int .i64 F ∧ F ≤ b.length ∧ OwnLs wr w.heap.size u LL ∧ Hid (LL.length = k) ∧ Hid (pcs b 0 at_ = LL ++ pcs b F (at_.drop k)) ∧ Hid (plOk b.length 0 at_ = plOk b.length F (at_.drop k)) ∧ Below w.heap.size w wr) (fun _ _ i _ => at_.length - (intOf i).toNat)
  case atStart => exact ⟨0, 0, [], Nat.zero_le _, rfl, rfl, Nat.zero_le _, OwnLs.nil _ _, rfl, by simp [Hid], rfl, Below.refl _ _⟩
  case round =>
    obtain ⟨k, F, LL, hk, rfl, rfl, hF, how, HL, HP, HO, hbr⟩ := hrel
    have hsr := hbr.size
    have hln : LL.length + 1 ≤ 1000000 := by rw [HL.out]; omega
    have hlo : ∀ j, u7.ownBlock = some j → j < wr.heap.size := fun j hj => (how.lt j hj).2
    have HLO : Hid (∀ j, u7.ownBlock = some j → j < wr.heap.size) := hlo
    have HBR : Hid (BsAt wr wr.heap.size (some a) b) := HB.out.below hbr hsr
    clear hlo
    by_cases hlt : k < at_.length
    · have hlt3 : (k : Int) < (at_.length : Int) := by omega
      have hdr : at_.drop k = at_[k] :: at_.drop (k + 1) := List.drop_eq_getElem_cons hlt
      rcases HI.out with h | ⟨bk, off, rfl, hbk, hc⟩
      · rw [h] at hlt; simp at hlt
      have hx0 := hc k hlt
      have hx := (hbr.cell (p := ⟨bk, off + k, none⟩) hbk).trans hx0
      obtain ⟨x, hxe⟩ : ∃ x, x = at_[k] := ⟨_, rfl⟩
      rw [← hxe] at hx hdr hx0
      have HD : Hid (at_.drop k = x :: at_.drop (k + 1)) := hdr
      clear hxe hdr hc
      by_cases q1 : x < (F : Int)
      · have HE : Hid (piecesE b at_ = 2 ∧ piecesL b at_ = []) := by
          have e0 : plOk b.length 0 at_ = false := by rw [HO.out, HD.out]; exact plOk_bad (.inl q1)
          have e1 : piecesE b at_ = 2 := by unfold piecesE; rw [if_neg (by omega), if_neg (by omega), if_pos e0]
          exact ⟨e1, by unfold piecesL; rw [e1, if_neg (by decide)]⟩
        go_wp2
        go_ret2
        rw [HE.out.1, HE.out.2]
        exact ⟨_, rfl, OwnLs.nil _ _, hbr⟩
      · have q1' : decide (x < (F : Int)) = false := by simp; omega
        by_cases q2 : (b.length : Int) < x
        · have HE : Hid (piecesE b at_ = 2 ∧ piecesL b at_ = []) := by
            have e0 : plOk b.length 0 at_ = false := by rw [HO.out, HD.out]; exact plOk_bad (.inr q2)
            have e1 : piecesE b at_ = 2 := by unfold piecesE; rw [if_neg (by omega), if_neg (by omega), if_pos e0]
            exact ⟨e1, by unfold piecesL; rw [e1, if_neg (by decide)]⟩
          go_wp2
          go_ret2
          rw [HE.out.1, HE.out.2]
          exact ⟨_, rfl, OwnLs.nil _ _, hbr⟩
        · have q2' : decide ((b.length : Int) < x) = false := by simp; omega
          obtain ⟨X, rfl⟩ : ∃ X : Nat, x = (X : Int) := ⟨x.toNat, by omega⟩
          have hFX : F ≤ X := by omega
          have hXl : X ≤ b.length := by omega
          have HP2 : Hid (pcs b 0 at_ = (LL ++ [(b.take X).drop F]) ++ pcs b X (at_.drop (k + 1))) := by
            rw [HP.out, HD.out, pcs_step]; simp [Hid]
          have HO2 : Hid (plOk b.length 0 at_ = plOk b.length X (at_.drop (k + 1))) := by
            rw [HO.out, HD.out]; exact plOk_good (by omega) (by omega)
          have hcb := HBR.out.cut F X cap hFX hXl hbl
          have hcl := cut_len hFX hXl
          obtain ⟨p, hpe⟩ : ∃ p, p = (b.take X).drop F := ⟨_, rfl⟩
          rw [← hpe] at HP2 hcb hcl
          have HCB : Hid (BsAt wr wr.heap.size (if cap = F then some a else some (a.add F)) p) := hcb
          have HCL : Hid (X - F = p.length) := hcl.symm
          have hpl : p.length ≤ 16384 := by omega
          have g8 : (X : Int) ≤ (cap : Int) := by omega
          have g9 : (F : Int) ≤ (X : Int) := by omega
          clear hpe hcb hcl
          go_wp2_with (first
            | (at_builtin; refine app_ls (w0 := w5) rfl (.tmp 36) (.tmp 45) rfl w.heap.size _ _ how5 rfl p _ hfb rfl rfl hln (by omega) ?_; intro v7 w7 ho7 hg7; have hb7 : Below w.heap.size w w7 := (hbr.trans (hb5.mono hsr)).trans (hg7.below_ls how5 (by omega)); have x7 := (hb7.cell (p := ⟨bk, off + k, none⟩) hbk).trans hx0)
            | (at_builtin; refine app_bytes rfl (.const (.slice none 0 0)) (.tmp 43) rfl wr.heap.size _ [] (Own.nil _ _) rfl _ _ p _ HCL.out rfl wr.heap.size (by intro e; split at e <;> cases e) HCB.out (by simp; omega) (Nat.le_refl _) ?_; intro v5 w5 ho5 hg5; rw [List.nil_append] at ho5; obtain ⟨ao5, c5, hv5⟩ := ho5.fresh.val; subst hv5; have hb5 := hg5.below_nil; have how5 := how.below hb5; have hfb : FreshBut w5 w.heap.size u7.ownBlock _ p := (ho5.fresh.but HLO.out).mono hsr; have hs5 := hb5.size))
          all_goals
            go_roundw
            case rel => exact ⟨k + 1, X, LL ++ [p], by omega, by go_num, rfl, hXl, ho7, by simp [Hid, HL.out], HP2, HO2, hb7⟩
            case measure => simp [intOf]; omega
    · have hlt3 : decide ((k : Int) < (at_.length : Int)) = false := by simp; omega
      have e0 : at_.drop k = [] := List.drop_of_length_le (by omega)
      have HP2 : Hid (LL ++ [(b.take b.length).drop F] = pcs b 0 at_) := by
        rw [HP.out, e0, pcs_end]; exact rfl
      have HE : Hid (piecesE b at_ = 0 ∧ piecesL b at_ = pcs b 0 at_) := by
        have o1 : plOk b.length 0 at_ = true := by rw [HO.out, e0]; rfl
        have e1 : piecesE b at_ = 0 := by unfold piecesE; rw [if_neg (by omega), if_neg (by omega), if_neg (by rw [o1]; decide)]
        exact ⟨e1, by unfold piecesL; rw [if_pos e1]⟩
      have hcb := HBR.out.cut F b.length cap hF (Nat.le_refl _) hbl
      have hcl := cut_len hF (Nat.le_refl b.length)
      obtain ⟨p, hpe⟩ : ∃ p, p = (b.take b.length).drop F := ⟨_, rfl⟩
      rw [← hpe] at HP2 hcb hcl
      have HCB : Hid (BsAt wr wr.heap.size (if cap = F then some a else some (a.add F)) p) := hcb
      have HCL : Hid (b.length - F = p.length) := hcl.symm
      have hpl : p.length ≤ 16384 := by omega
      have g9 : (F : Int) ≤ (b.length : Int) := by omega
      clear hpe hcb hcl e0
      go_wp2_with (first
        | (at_builtin; refine app_ls (w0 := w5) rfl (.tmp 51) (.tmp 56) rfl w.heap.size _ _ how5 rfl p _ hfb rfl rfl hln (by omega) ?_; intro v7 w7 ho7 hg7; have hb7 : Below w.heap.size w w7 := (hbr.trans (hb5.mono hsr)).trans (hg7.below_ls how5 (by omega)))
        | (at_builtin; refine app_bytes rfl (.const (.slice none 0 0)) (.tmp 54) rfl wr.heap.size _ [] (Own.nil _ _) rfl _ _ p _ HCL.out rfl wr.heap.size (by intro e; split at e <;> cases e) HCB.out (by simp; omega) (Nat.le_refl _) ?_; intro v5 w5 ho5 hg5; rw [List.nil_append] at ho5; obtain ⟨ao5, c5, hv5⟩ := ho5.fresh.val; subst hv5; have hb5 := hg5.below_nil; have how5 := how.below hb5; have hfb : FreshBut w5 w.heap.size u7.ownBlock _ p := (ho5.fresh.but HLO.out).mono hsr; have hs5 := hb5.size))
      all_goals
        rw [HP2.out] at ho7
        go_ret2
        rw [HE.out.1, HE.out.2]
        exact ⟨_, rfl, ho7, hb7⟩
set_option maxHeartbeats 2000000 in
theorem rpieces_nil (w : World) (io : Option Addr) (at_ : List Int) (ic : Nat) (hi : Il w io at_ ic) (h2 : at_.length ≤ 256) :
    Calls Try.prog 23 #[.slice none 0 0, .slice io at_.length ic] w fun e w' => ∃ v', e = .returned (.tuple #[v', .int .i64 (piecesE [] at_)]) ∧ OwnLs w' w.heap.size v' (piecesL [] at_) ∧ Below w.heap.size w w' := by
  have g2 : decide ((256 : Int) < (at_.length : Int)) = false := by simp; omega
  have hil := hi.hl
  have him := hi.hc
  have HI : Hid (IsAt w w.heap.size io at_) := hi.at_
  clear hi
  go_enter Try.func23, Try.ntmps23
  go_wp2
  go_loopw [6, 7, 8] (fun f u i wr => ∃ (k F : Nat) (LL : List (List UInt8)), k ≤ at_.length ∧ i = .int .i64 k ∧ f = .int .i64 F ∧ F ≤ 0 ∧ OwnLs wr w.heap.size u LL ∧ Hid (LL.length = k) ∧ Hid (pcs [] 0 at_ = LL ++ pcs [] F (at_.drop k)) ∧ Hid (plOk 0 0 at_ = plOk 0 F (at_.drop k)) ∧ Below w.heap.size w wr) (fun _ _ i _ => at_.length - (intOf i).toNat)
  case atStart => exact ⟨0, 0, [], Nat.zero_le _, rfl, rfl, Nat.zero_le _, OwnLs.nil _ _, rfl, by simp [Hid], rfl, Below.refl _ _⟩
  case round =>
    obtain ⟨k, F, LL, hk, rfl, rfl, hF, how, HL, HP, HO, hbr⟩ := hrel
    have hsr := hbr.size
    have hln : LL.length + 1 ≤ 1000000 := by rw [HL.out]; omega
    have hlo : ∀ j, u7.ownBlock = some j → j < wr.heap.size := fun j hj => (how.lt j hj).2
    have HLO : Hid (∀ j, u7.ownBlock = some j → j < wr.heap.size) := hlo
    clear hlo
    by_cases hlt : k < at_.length
    · have hlt3 : (k : Int) < (at_.length : Int) := by omega
      have hdr : at_.drop k = at_[k] :: at_.drop (k + 1) := List.drop_eq_getElem_cons hlt
      rcases HI.out with h | ⟨bk, off, rfl, hbk, hc⟩
      · rw [h] at hlt; simp at hlt
      have hx0 := hc k hlt
      have hx := (hbr.cell (p := ⟨bk, off + k, none⟩) hbk).trans hx0
      obtain ⟨x, hxe⟩ : ∃ x, x = at_[k] := ⟨_, rfl⟩
      rw [← hxe] at hx hdr hx0
      have HD : Hid (at_.drop k = x :: at_.drop (k + 1)) := hdr
      clear hxe hdr hc
      by_cases q1 : x < (F : Int)
      · have HE : Hid (piecesE [] at_ = 2 ∧ piecesL [] at_ = []) := by
          have e0 : plOk 0 0 at_ = false := by rw [HO.out, HD.out]; exact plOk_bad (.inl q1)
          have e1 : piecesE [] at_ = 2 := by unfold piecesE; rw [List.length_nil, if_neg (by omega), if_neg (by omega), if_pos e0]
          exact ⟨e1, by unfold piecesL; rw [e1, if_neg (by decide)]⟩
        go_wp2
        go_ret2
        rw [HE.out.1, HE.out.2]
        exact ⟨_, rfl, OwnLs.nil _ _, hbr⟩
      · have q1' : decide (x < (F : Int)) = false := by simp; omega
        by_cases q2 : (0 : Int) < x
        · have HE : Hid (piecesE [] at_ = 2 ∧ piecesL [] at_ = []) := by
            have e0 : plOk 0 0 at_ = false := by rw [HO.out, HD.out]; exact plOk_bad (.inr q2)
            have e1 : piecesE [] at_ = 2 := by unfold piecesE; rw [List.length_nil, if_neg (by omega), if_neg (by omega), if_pos e0]
            exact ⟨e1, by unfold piecesL; rw [e1, if_neg (by decide)]⟩
          go_wp2
          go_ret2
          rw [HE.out.1, HE.out.2]
          exact ⟨_, rfl, OwnLs.nil _ _, hbr⟩
        · have q2' : decide ((0 : Int) < x) = false := by simp; omega
          obtain ⟨X, rfl⟩ : ∃ X : Nat, x = (X : Int) := ⟨x.toNat, by omega⟩
          have hFX : F ≤ X := by omega
          have hXl : X ≤ 0 := by omega
          have HP2 : Hid (pcs [] 0 at_ = (LL ++ [(([] : List UInt8).take X).drop F]) ++ pcs [] X (at_.drop (k + 1))) := by
            rw [HP.out, HD.out, pcs_step]; simp [Hid]
          have HO2 : Hid (plOk 0 0 at_ = plOk 0 X (at_.drop (k + 1))) := by
            rw [HO.out, HD.out]; exact plOk_good (by omega) (by omega)
          have hcb : BsAt wr wr.heap.size none ((([] : List UInt8).take X).drop F) := .inl (by simp)
          have hcl := cut_len (b := []) hFX hXl
          obtain ⟨p, hpe⟩ : ∃ p, p = (([] : List UInt8).take X).drop F := ⟨_, rfl⟩
          rw [← hpe] at HP2 hcb hcl
          have HCB : Hid (BsAt wr wr.heap.size none p) := hcb
          have HCL : Hid (X - F = p.length) := hcl.symm
          have hpl : p.length ≤ 16384 := by omega
          have hX0 : X = 0 := by simpa using hXl
          have hF0 : F = 0 := by omega
          subst hX0 hF0
          clear hpe hcb hcl
          go_wp2_with (first
            | (at_builtin; refine app_ls (w0 := w5) rfl (.tmp 36) (.tmp 45) rfl w.heap.size _ _ how5 rfl p _ hfb rfl rfl hln (by omega) ?_; intro v7 w7 ho7 hg7; have hb7 : Below w.heap.size w w7 := (hbr.trans (hb5.mono hsr)).trans (hg7.below_ls how5 (by omega)); have x7 := (hb7.cell (p := ⟨bk, off + k, none⟩) hbk).trans hx0)
            | (at_builtin; refine app_bytes rfl (.const (.slice none 0 0)) (.tmp 43) rfl wr.heap.size _ [] (Own.nil _ _) rfl _ _ p _ HCL.out rfl wr.heap.size (fun _ => rfl) HCB.out (by simp; omega) (Nat.le_refl _) ?_; intro v5 w5 ho5 hg5; rw [List.nil_append] at ho5; obtain ⟨ao5, c5, hv5⟩ := ho5.fresh.val; subst hv5; have hb5 := hg5.below_nil; have how5 := how.below hb5; have hfb : FreshBut w5 w.heap.size u7.ownBlock _ p := (ho5.fresh.but HLO.out).mono hsr; have hs5 := hb5.size))
          all_goals
            go_roundw
            case rel => exact ⟨k + 1, 0, LL ++ [p], by omega, by go_num, rfl, hXl, ho7, by simp [Hid, HL.out], HP2, HO2, hb7⟩
            case measure => simp [intOf]; omega
    · have hlt3 : decide ((k : Int) < (at_.length : Int)) = false := by simp; omega
      have e0 : at_.drop k = [] := List.drop_of_length_le (by omega)
      have HP2 : Hid (LL ++ [(([] : List UInt8).take 0).drop F] = pcs [] 0 at_) := by
        rw [HP.out, e0, pcs_end]; exact rfl
      have HE : Hid (piecesE [] at_ = 0 ∧ piecesL [] at_ = pcs [] 0 at_) := by
        have o1 : plOk 0 0 at_ = true := by rw [HO.out, e0]; rfl
        have e1 : piecesE [] at_ = 0 := by unfold piecesE; rw [List.length_nil, if_neg (by omega), if_neg (by omega), if_neg (by rw [o1]; decide)]
        exact ⟨e1, by unfold piecesL; rw [if_pos e1]⟩
      have hcb : BsAt wr wr.heap.size none ((([] : List UInt8).take 0).drop F) := .inl (by simp)
      have hcl := cut_len (b := []) hF (Nat.le_refl 0)
      obtain ⟨p, hpe⟩ : ∃ p, p = (([] : List UInt8).take 0).drop F := ⟨_, rfl⟩
      rw [← hpe] at HP2 hcb hcl
      have HCB : Hid (BsAt wr wr.heap.size none p) := hcb
      have HCL : Hid (0 - F = p.length) := hcl.symm
      have hpl : p.length ≤ 16384 := by omega
      have hF0 : F = 0 := by simpa using hF
      subst hF0
      clear hpe hcb hcl e0
      go_wp2_with (first
        | (at_builtin; refine app_ls (w0 := w5) rfl (.tmp 51) (.tmp 56) rfl w.heap.size _ _ how5 rfl p _ hfb rfl rfl hln (by omega) ?_; intro v7 w7 ho7 hg7; have hb7 : Below w.heap.size w w7 := (hbr.trans (hb5.mono hsr)).trans (hg7.below_ls how5 (by omega)))
        | (at_builtin; refine app_bytes rfl (.const (.slice none 0 0)) (.tmp 54) rfl wr.heap.size _ [] (Own.nil _ _) rfl _ _ p _ HCL.out rfl wr.heap.size (fun _ => rfl) HCB.out (by simp; omega) (Nat.le_refl _) ?_; intro v5 w5 ho5 hg5; rw [List.nil_append] at ho5; obtain ⟨ao5, c5, hv5⟩ := ho5.fresh.val; subst hv5; have hb5 := hg5.below_nil; have how5 := how.below hb5; have hfb : FreshBut w5 w.heap.size u7.ownBlock _ p := (ho5.fresh.but HLO.out).mono hsr; have hs5 := hb5.size))
      all_goals
        rw [HP2.out] at ho7
        go_ret2
        rw [HE.out.1, HE.out.2]
        exact ⟨_, rfl, ho7, hb7⟩

theorem rpieces_any (w : World) (ao : Option Addr) (b : List UInt8) (cap : Nat) (hb : Sl w ao b cap) (io : Option Addr) (at_ : List Int) (ic : Nat) (hi : Il w io at_ ic) :
    Calls Try.prog 23 #[.slice ao b.length cap, .slice io at_.length ic] w fun e w' => ∃ v', e = .returned (.tuple #[v', .int .i64 (piecesE b at_)]) ∧ OwnLs w' w.heap.size v' (piecesL b at_) ∧ Below w.heap.size w w' := by
  have hbl := hb.hl
  have hbm := hb.hc
  have hil := hi.hl
  have him := hi.hc
  by_cases h1 : 16384 < b.length
  · have hE : piecesE b at_ = 3 := by unfold piecesE; rw [if_pos h1]
    have hR : piecesL b at_ = [] := by unfold piecesL; rw [hE, if_neg (by decide)]
    rw [hE, hR]
    have g1 : (16384 : Int) < (b.length : Int) := by omega
    clear hb hi
    go_enter Try.func23, Try.ntmps23
    go_wp2
    go_ret2
    exact ⟨_, rfl, OwnLs.nil _ _, Below.refl _ _⟩
  · have g1 : decide ((16384 : Int) < (b.length : Int)) = false := by simp; omega
    by_cases h2 : 256 < at_.length
    · have hE : piecesE b at_ = 4 := by unfold piecesE; rw [if_neg h1, if_pos h2]
      have hR : piecesL b at_ = [] := by unfold piecesL; rw [hE, if_neg (by decide)]
      rw [hE, hR]
      have g2 : (256 : Int) < (at_.length : Int) := by omega
      clear hb hi
      go_enter Try.func23, Try.ntmps23
      go_wp2
      go_ret2
      exact ⟨_, rfl, OwnLs.nil _ _, Below.refl _ _⟩
    · cases ao with
      | some a => exact rpieces_good w a b cap hb io at_ ic hi (by omega) (by omega)
      | none =>
        have hc := hb.hn rfl
        subst hc
        have hb0 : b = [] := List.eq_nil_of_length_eq_zero (by omega)
        subst hb0
        exact rpieces_nil w io at_ ic hi (by omega)
end Go.Proofs.Ytgfhjkphdmkmoac
