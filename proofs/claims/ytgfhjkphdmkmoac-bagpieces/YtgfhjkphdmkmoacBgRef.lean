/-
  Contracts of the document's own functions on pieces and bags: Heavy, Twin, Pieces, Join, Send.
-/
import Derived.Test.YtgfhjkphdmkmoacBgCalls
import Derived.Test.YtgfhjkphdmkmoacBgPieces
namespace Go.Proofs.Ytgfhjkphdmkmoac
open Go.RowKit
set_option linter.unusedSimpArgs false
set_option linter.unusedVariables false
set_option maxRecDepth 100000

structure HeavyL (e : Ending) (L : Nat) : Prop where
  ex : ∃ h : Bool, e = .returned (.bool h) ∧ (h = false → L ≤ 1000)
theorem min1c (m a : Nat) : ∃ m' : Nat, ((m : Int) + (if (100000 : Int) < (a : Int) then 100000 else (a : Int))) = (m' : Int) ∧ m' ≤ m + 100000 := by
  refine ⟨((m : Int) + (if (100000 : Int) < (a : Int) then 100000 else (a : Int))).toNat, ?_, ?_⟩ <;> (split <;> omega)

set_option maxHeartbeats 1000000 in
theorem rheavy_any (w : World) (ao : Option Addr) (ls : List (List UInt8)) (cap : Nat) (h : Ll w ao ls cap) :
    Calls Try.prog 21 #[.slice ao ls.length cap] w fun e w' => HeavyL e ls.length ∧ w = w' := by
  have hm : ls.length ≤ 9223372036854775807 := Nat.le_trans h.hl h.hc
  have HL : Hid (LsAt w w.heap.size ao ls) := h.at_
  clear h
  go_enter Try.func21, Try.ntmps21
  go_wp2
  go_loop [3, 4] (fun n i => ∃ k m : Nat, k ≤ ls.length ∧ k ≤ 10000 ∧ m ≤ 100000 * k ∧ i = .int .i64 k ∧ n = .int .i64 m) (fun _ i => ls.length - (intOf i).toNat)
  case atStart => exact ⟨0, 0, by omega, by omega, by omega, rfl, rfl⟩
  case round =>
    obtain ⟨k, m, hk, hk1, hmb, rfl, rfl⟩ := hrel
    by_cases hlt : k < ls.length
    · have hlt2 : (k : Int) < (ls.length : Int) := by omega
      by_cases h1 : k < 10000
      · have h12 : (k : Int) < 10000 := by omega
        rcases HL.out with h | ⟨bk, off, rfl, hbk, hc⟩
        · rw [h] at hlt; simp at hlt
        · obtain ⟨v, hv, hd⟩ := hc k hlt
          obtain ⟨p, hpe⟩ : ∃ p, p = ls[k] := ⟨_, rfl⟩
          rw [← hpe] at hd
          obtain ⟨a2, c2, rfl, -, -, -, -⟩ := hd
          obtain ⟨n', em, hn'⟩ := min1c m p.length
          have EM : Hid (((m : Int) + (if (100000 : Int) < (p.length : Int) then 100000 else (p.length : Int))) = (n' : Int)) := em
          clear em hc hpe
          go_wp2
          go_round
          case rel => exact ⟨k + 1, n', by omega, by omega, by omega, by go_num, by rw [EM.out]⟩
          case measure => simp [intOf]; omega
      · have h12 : decide ((k : Int) < 10000) = false := by simp; omega
        have g1 : (1000 : Int) < (ls.length : Int) := by omega
        go_wp2
        go_ret
        exact ⟨⟨_, rfl, by intro h; simp at h⟩, rfl⟩
    · have hlt2 : decide ((k : Int) < (ls.length : Int)) = false := by simp; omega
      by_cases g1 : (1000 : Int) < (ls.length : Int)
      · go_wp2
        go_ret
        exact ⟨⟨_, rfl, by intro h; simp at h⟩, rfl⟩
      · have g2 : decide ((1000 : Int) < (ls.length : Int)) = false := by simp; omega
        go_wp2
        all_goals
          go_ret
          exact ⟨⟨_, rfl, fun _ => by omega⟩, rfl⟩

set_option maxHeartbeats 1000000 in
theorem rtwin_any (w : World) (ao : Option Addr) (ls : List (List UInt8)) (cap : Nat) (h : Ll w ao ls cap) (hroom : ∀ p ∈ ls, p.length ≤ 140737488351232) (hmany : ls.length ≤ 1000) :
    Calls Try.prog 22 #[.slice ao ls.length cap] w fun e w' => ∃ v', e = .returned v' ∧ OwnLs w' w.heap.size v' ls ∧ Below w.heap.size w w' := by
  have hm : ls.length ≤ 9223372036854775807 := Nat.le_trans h.hl h.hc
  have HL : Hid (LsAt w w.heap.size ao ls) := h.at_
  have HR : Hid (∀ p ∈ ls, p.length ≤ 140737488351232) := hroom
  clear h hroom
  go_enter Try.func22, Try.ntmps22
  go_wp2
  go_loopw [3, 4] (fun u i wr => ∃ k : Nat, k ≤ ls.length ∧ i = .int .i64 k ∧ OwnLs wr w.heap.size u (ls.take k) ∧ Below w.heap.size w wr) (fun _ i _ => ls.length - (intOf i).toNat)
  case atStart => exact ⟨0, Nat.zero_le _, rfl, OwnLs.nil _ _, Below.refl _ _⟩
  case round =>
    obtain ⟨k, hk, rfl, how, hbr⟩ := hrel
    have hsr := hbr.size
    by_cases hlt2 : k < ls.length
    · have hlt3 : (k : Int) < (ls.length : Int) := by omega
      rcases HL.out with h | ⟨bk, off, rfl, hbk, hc⟩
      · rw [h] at hlt2; simp at hlt2
      obtain ⟨v1, hv1, hd1⟩ := hc k hlt2
      have hroom := HR.out ls[k] (List.getElem_mem hlt2)
      have hsn : ls.take (k + 1) = ls.take k ++ [ls[k]] := List.take_succ_eq_append_getElem hlt2
      obtain ⟨p, hpe⟩ : ∃ p, p = ls[k] := ⟨_, rfl⟩
      rw [← hpe] at hd1 hroom hsn
      have HSN : Hid (ls.take (k + 1) = ls.take k ++ [p]) := hsn
      clear hpe hsn hc
      have hv2 : wr.cell? ⟨bk, off + k, none⟩ = some v1 := (hbr.cell (p := ⟨bk, off + k, none⟩) hbk).trans hv1
      obtain ⟨a1, c1, rfl, hsl⟩ := (hd1.below hbr (Nat.le_refl _)).sl hsr
      have hln : (ls.take k).length + 1 ≤ 1000000 := by simp; omega
      have hlo : ∀ j, u3.ownBlock = some j → j < wr.heap.size := fun j hj => (how.lt j hj).2
      obtain ⟨LL, hLL⟩ : ∃ LL, LL = ls.take k := ⟨_, rfl⟩
      rw [← hLL] at how hln HSN
      have HLO : Hid (∀ j, u3.ownBlock = some j → j < wr.heap.size) := hlo
      have HN : Hid (a1 = none → c1 = 0) := hsl.hn
      have HBS : Hid (BsAt wr wr.heap.size a1 p) := hsl.at_
      clear hlo hsl hd1 hv1 hLL
      go_wp2_with (first
        | (at_builtin; refine app_ls (w0 := w5) rfl (.tmp 11) (.tmp 17) rfl w.heap.size _ _ how5 rfl p _ hfb rfl rfl hln (by omega) ?_; intro v7 w7 ho7 hg7)
        | (at_builtin; refine app_bytes rfl (.const (.slice none 0 0)) (.tmp 15) rfl wr.heap.size _ [] (Own.nil _ _) rfl a1 c1 p _ rfl rfl wr.heap.size HN.out HBS.out (by simp; omega) (Nat.le_refl _) ?_; intro v5 w5 ho5 hg5; rw [List.nil_append] at ho5; obtain ⟨ao5, c5, hv5⟩ := ho5.fresh.val; subst hv5; have hb5 := hg5.below_nil; have how5 := how.below hb5; have hfb : FreshBut w5 w.heap.size u3.ownBlock _ p := (ho5.fresh.but HLO.out).mono hsr; have hs5 := hb5.size))
      have hb7 : Below w.heap.size w w7 := (hbr.trans (hb5.mono hsr)).trans (hg7.below_ls how5 (by omega))
      rw [← HSN.out] at ho7
      go_roundw
      case rel => exact ⟨k + 1, by omega, by go_num, ho7, hb7⟩
      case measure => simp [intOf]; omega
    · have hlt3 : decide ((k : Int) < (ls.length : Int)) = false := by simp; omega
      have hqe : ls.take k = ls := List.take_of_length_le (by omega)
      rw [hqe] at how
      clear hqe
      go_wp2
      go_ret
      exact ⟨_, rfl, how, hbr⟩

set_option maxHeartbeats 1000000 in
theorem rsend_any (w : World) (ao : Option Addr) (ls : List (List UInt8)) (cap : Nat) (h : Ll w ao ls cap) (hroom : ∀ p ∈ ls, p.length ≤ 140737488351232) (mo : Option Addr) (m : List UInt8) (mc : Nat) (hm : Sl w mo m mc) :
    Calls Try.prog 27 #[.slice ao ls.length cap, .slice mo m.length mc] w fun e w' => ∃ v', e = .returned (.tuple #[v', .int .i64 (sendE ls m)]) ∧ OwnLs w' w.heap.size v' (sendL ls m) ∧ Below w.heap.size w w' := by
  have hll := h.hl
  have hlm := h.hc
  have hml := hm.hl
  have hmm := hm.hc
  by_cases h1 : 64 < ls.length
  · have hE : sendE ls m = 4 := by unfold sendE; rw [if_pos h1]
    have hR : sendL ls m = [] := by unfold sendL; rw [hE, if_neg (by decide)]
    rw [hE, hR]
    have g1 : (64 : Int) < (ls.length : Int) := by omega
    clear h hroom hm
    go_enter Try.func27, Try.ntmps27
    go_wp2
    go_ret2
    exact ⟨_, rfl, OwnLs.nil _ _, Below.refl _ _⟩
  · have g1 : decide ((64 : Int) < (ls.length : Int)) = false := by simp; omega
    by_cases h2 : 65600 < m.length
    · have hE : sendE ls m = 3 := by unfold sendE; rw [if_neg h1, if_pos h2]
      have hR : sendL ls m = [] := by unfold sendL; rw [hE, if_neg (by decide)]
      rw [hE, hR]
      have g2 : (65600 : Int) < (m.length : Int) := by omega
      clear h hroom hm
      go_enter Try.func27, Try.ntmps27
      go_wp2
      go_ret2
      exact ⟨_, rfl, OwnLs.nil _ _, Below.refl _ _⟩
    · have g2 : decide ((65600 : Int) < (m.length : Int)) = false := by simp; omega
      by_cases h3 : ls.length = 64
      · have hE : sendE ls m = 9 := by unfold sendE; rw [if_neg h1, if_neg h2, if_pos h3]
        have hR : sendL ls m = [] := by unfold sendL; rw [hE, if_neg (by decide)]
        rw [hE, hR]
        have g3 : ((ls.length : Int) == 64) = true := by simp; omega
        clear h hroom hm
        go_enter Try.func27, Try.ntmps27
        go_wp2
        go_ret2
        exact ⟨_, rfl, OwnLs.nil _ _, Below.refl _ _⟩
      · have hE : sendE ls m = 0 := by unfold sendE; rw [if_neg h1, if_neg h2, if_neg h3]
        have hR : sendL ls m = ls ++ [m] := by unfold sendL; rw [if_pos hE]
        rw [hE, hR]
        have g3 : ((ls.length : Int) == 64) = false := by simp; omega
        have htw := rtwin_any w ao ls cap h hroom (by omega)
        have HM : Hid (Sl w mo m mc) := hm
        have HN : Hid (mo = none → mc = 0) := hm.hn
        clear h hroom hm
        go_enter Try.func27, Try.ntmps27
        go_wp2_with (first
          | (go_at_call 22; refine htw.mono ?_; rintro e w2 ⟨v2, rfl, ho2, hb2⟩)
          | (at_builtin; refine app_ls (w0 := w5) rfl (.tmp 16) (.tmp 19) rfl w.heap.size _ _ how5 rfl m _ hfb rfl rfl (by omega) (by omega) ?_; intro v7 w7 ho7 hg7)
          | (at_builtin; refine app_bytes rfl (.const (.slice none 0 0)) (.tmp 17) rfl w2.heap.size _ [] (Own.nil _ _) rfl mo mc m _ rfl rfl w2.heap.size HN.out (HM.out.below hb2).at_ (by simp; omega) (Nat.le_refl _) ?_; intro v5 w5 ho5 hg5; rw [List.nil_append] at ho5; obtain ⟨ao5, c5, hv5⟩ := ho5.fresh.val; subst hv5; have hb5 := hg5.below_nil; have how5 := ho2.below hb5; have hfb : FreshBut w5 w.heap.size v2.ownBlock _ m := (ho5.fresh.but (fun k hk => (ho2.lt k hk).2)).mono hb2.size; have hs5 := hb5.size; have hs2 := hb2.size))
        have hb7 : Below w.heap.size w w7 := (hb2.trans (hb5.mono hs2)).trans (hg7.below_ls how5 (by omega))
        go_ret2
        exact ⟨_, rfl, ho7, hb7⟩
end Go.Proofs.Ytgfhjkphdmkmoac
