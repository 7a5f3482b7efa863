/-
  The document's orders: Key, find, all, first, without.
-/
import Derived.Test.YtmdlampmoeiihaaLrGreat
import Derived.Test.YtmdlampmoeiihaaLrPure2
namespace Go.Proofs.Ytmdlampmoeiihaa
open Go.RowKit Go.Shelf Go.Lib Go.Sort
set_option linter.unusedSimpArgs false
set_option linter.unusedVariables false
set_option maxRecDepth 100000

theorem rkey_any (k : ByteArray) (w : World) : Calls Try.prog 49 #[.string k] w fun e w' => e = .returned (.bool (kOk k)) ∧ w' = w := by
  by_cases h1 : k.size < 1
  · have e : kOk k = false := by simp [kOk]; omega
    rw [e]
    have h2 : decide ((1 : Int) ≤ (k.size : Int)) = false := by simp; omega
    go_enter Try.func49, Try.ntmps49
    go_wp2
    go_ret
    exact ⟨by simp; try omega, rfl⟩
  · have h2 : decide ((1 : Int) ≤ (k.size : Int)) = true := by simp; omega
    by_cases h3 : 32 < k.size
    · have e : kOk k = false := by simp [kOk]; omega
      rw [e]
      go_enter Try.func49, Try.ntmps49
      go_wp2
      go_ret
      exact ⟨by simp; try omega, rfl⟩
    · have e : kOk k = true := by simp [kOk]; omega
      rw [e]
      go_enter Try.func49, Try.ntmps49
      go_wp2
      go_ret
      exact ⟨by simp; try omega, rfl⟩
/-- a key's place; -1: none -/
def ixf (ks : List ByteArray) (key : ByteArray) : Int := if key ∈ ks then (ks.idxOf key : Int) else -1
theorem ixf_in {ks : List ByteArray} {key : ByteArray} (h : key ∈ ks) : 0 ≤ ixf ks key := by unfold ixf; rw [if_pos h]; omega
theorem ixf_no {ks : List ByteArray} {key : ByteArray} (h : key ∉ ks) : ixf ks key = -1 := by unfold ixf; rw [if_neg h]
theorem rfind_any (ao : Option Addr) (ks : List ByteArray) (n cap : Nat) (key : ByteArray) (w : World) (h : Tl w ao ks cap) (hn : n = ks.length) :
    Calls Try.prog 44 #[.slice ao n cap, .string key] w fun e w' => e = .returned (.int .i64 (ixf ks key)) ∧ w' = w := by
  subst hn
  have hm : ks.length ≤ 9223372036854775807 := Nat.le_trans h.hl h.hc
  have HT := Hid.mk2 h
  obtain ⟨I, hI⟩ : ∃ I, I = ixf ks key := ⟨_, rfl⟩
  rw [← hI]
  have HI := Hid.mk2 hI
  clear h hI
  go_enter Try.func44, Try.ntmps44
  go_wp2
  go_loop [5] (fun i => ∃ k : Nat, k ≤ ks.length ∧ i = .int .i64 k ∧ Hid (∀ j (hj : j < ks.length), j < k → ks[j] ≠ key)) (fun i => ks.length - (intOf i).toNat)
  case atStart => exact ⟨0, Nat.zero_le _, rfl, fun j hj h => by omega⟩
  case round =>
    obtain ⟨k, hk, rfl, HA⟩ := hrel
    by_cases hlt : k < ks.length
    · have hlt2 : (k : Int) < (ks.length : Int) := by omega
      obtain ⟨b, off, rfl, hb, hx⟩ := at_of HT.out hlt
      obtain ⟨s, hs⟩ : ∃ s, s = ks[k] := ⟨_, rfl⟩
      have HS := Hid.mk2 hs
      rw [← hs] at hx
      clear hs
      by_cases e : s = key
      · have e2 := ba_eq e
        have HE := Hid.mk2 e
        clear e
        have HIK : Hid (I = (k : Int)) := by
          show I = _
          have hk1 : ks[k] = key := HS.out.symm.trans HE.out
          have hidx : ks.idxOf key = k := by
            have h1 : ks.idxOf key ≤ k := by
              refine Classical.byContradiction fun hc => ?_
              have := List.not_of_lt_findIdx (p := (· == key)) (xs := ks) (i := k) (by unfold List.idxOf at hc; omega)
              simp [hk1] at this
            have h2 : ks.idxOf key < ks.length := by omega
            refine Nat.le_antisymm h1 (Nat.le_of_not_lt fun hc => ?_)
            exact HA.out _ h2 hc (List.getElem_idxOf h2)
          rw [HI.out]
          unfold ixf
          rw [if_pos (by rw [← hk1]; exact List.getElem_mem hlt), hidx]
        go_wp2
        go_ret
        exact ⟨by rw [HIK.out]; rfl, rfl⟩
      · have e2 := ba_ne e
        have HE := Hid.mk2 e
        clear e
        go_wp2
        go_round
        case rel => exact ⟨k + 1, by omega, by go_num, fun j hj hjk => by
          by_cases ej : j = k
          · subst ej; rw [← HS.out]; exact HE.out
          · exact HA.out j hj (by omega)⟩
        case measure => simp [intOf]; omega
    · have hlt2 : ¬ (k : Int) < (ks.length : Int) := by omega
      have HN : Hid (I = -1) := by
        show I = _
        rw [HI.out]
        exact ixf_no fun hm2 => by
          obtain ⟨j, hj, e⟩ := List.getElem_of_mem hm2
          exact HA.out j hj (by omega) e
      go_wp2
      go_ret
      exact ⟨by rw [HN.out]; rfl, rfl⟩
theorem rall_any (T K L : List ByteArray) (hL : L = T ++ K) (aT aK : Option Addr) (cT cK : Nat) (w : World) (hTl : Tl w aT T cT) (hKl : Tl w aK K cK) (hT : T.length ≤ 300) (hK : K.length ≤ 300) :
    Calls Try.prog 45 #[.agg #[.slice aT T.length cT, .slice aK K.length cK]] w fun e w' => ∃ ao cap, e = .returned (.slice ao L.length cap) ∧ Tl w' ao L cap ∧ Below w.heap.size w w' := by
  obtain ⟨W, hW⟩ : ∃ W, W = w.alloc (Obj.cells #[.slice aT T.length cT, .slice aK K.length cK] 24) := ⟨_, rfl⟩
  have HB : Hid (Below w.heap.size w W) := by rw [hW]; exact (Below.refl _ _).alloc (Nat.le_refl _) _
  have HOB : Hid (OB W w.heap.size (.slice aT T.length cT) (.slice aK K.length cK)) := by rw [hW]; exact OB.made _ _ _
  have HTW := Hid.mk2 (hTl.below HB.out)
  have HKW := Hid.mk2 (hKl.below HB.out)
  have HL := Hid.mk2 hL
  clear hTl hKl hL
  go_enter Try.func45, Try.ntmps45
  go_upto_region 1 with (fail)
  rw [← hW]
  clear hW
  obtain ⟨c0, c1, f0, f1, l0⟩ := HOB.out
  go_upto_region 3 with (at_builtin; refine app_row rfl _ _ rfl W.heap.size (.slice none 0 0) [] (OwnTs.nil _ _) rfl aT cT T T.length rfl rfl W.heap.size HTW.out.hn HTW.out.at_ (by simp; omega) (Nat.le_refl _) ?_; intro v1 w1 hO1 hG1; have HO1 : Hid (OwnTs w1 W.heap.size v1 T) := hO1; have HB1 : Hid (Below W.heap.size W w1) := ⟨hG1.grown.os, hG1.grown.tape, hG1.grown.output, hG1.grown.size, fun k hk => hG1.grown.block k hk (by intro e; cases e)⟩; clear hO1 hG1)
  clear c0 c1 f0 f1 l0
  obtain ⟨c0, c1, f0, f1, l0⟩ := HOB.out.below HB1.out
  go_wp2_with (at_builtin; refine app_row rfl _ _ rfl W.heap.size v1 T HO1.out rfl aK cK K K.length rfl rfl W.heap.size HKW.out.hn (HKW.out.at_.below HB1.out (Nat.le_refl _)) (by omega) HB1.out.size ?_; intro v2 w2 hO2 hG2; rw [← HL.out] at hO2; have HO2 := Hid.mk2 hO2; have HB2 : Hid (Below W.heap.size W w2) := HB1.out.grown hG2.grown HB1.out.size (fun g hg => (HO1.out.lt g hg).1); clear hO2 hG2)
  go_ret
  obtain ⟨ao, cap, rfl, hh⟩ := HO2.out.tl
  exact ⟨ao, cap, rfl, hh, HB.out.trans (HB2.out.mono HB.out.size)⟩
theorem rfirst_any (key : ByteArray) (ks L : List ByteArray) (hL : L = key :: ks) (ao : Option Addr) (cap : Nat) (w : World) (h : Tl w ao ks cap) (hn : ks.length ≤ 600) :
    Calls Try.prog 46 #[.string key, .slice ao ks.length cap] w fun e w' => ∃ ao' cap', e = .returned (.slice ao' L.length cap') ∧ OwnTs w' w.heap.size (.slice ao' L.length cap') L ∧ Below w.heap.size w w' := by
  have HO : Hid (OwnTs (w.alloc (Obj.cells #[.string key] 9)) w.heap.size (.slice (some ⟨w.heap.size, 0, none⟩) 1 1) [key]) :=
    OwnTs.mk' (ks := [key]) (Nat.le_refl _) (alloc_heap w _) rfl (by simp) (by unfold maxLen; omega) (fun j hj => by
      have : j = 0 := by simp at hj; omega
      subst this
      simp)
  have HT := Hid.mk2 (h.alloc (Obj.cells #[.string key] 9))
  have HL := Hid.mk2 hL
  have hnil := h.hn
  clear h hL
  go_enter Try.func46, Try.ntmps46
  go_wp2_with (at_builtin; refine app_row rfl _ _ rfl w.heap.size _ [key] HO.out rfl ao cap ks ks.length rfl rfl (w.alloc (Obj.cells #[.string key] 9)).heap.size hnil HT.out.at_ (by simp; omega) (by simp) ?_; intro v2 w2 hO2 hG2; rw [show [key] ++ ks = key :: ks from rfl, ← HL.out] at hO2; have HO2 := Hid.mk2 hO2; have HB2 : Hid (Below w.heap.size w w2) := ((Below.refl _ _).alloc (Nat.le_refl _) _).grown hG2.grown (by simp) (fun g hg => (HO.out.lt g hg).1); clear hO2 hG2)
  go_ret
  obtain ⟨ao', cap', rfl, hh⟩ := HO2.out.tl
  exact ⟨ao', cap', rfl, HO2.out, HB2.out⟩
set_option maxHeartbeats 1000000 in
theorem rwithout_any (ks L : List ByteArray) (key : ByteArray) (hL : L = ks.filter (fun x => decide (x ≠ key))) (ao : Option Addr) (cap : Nat) (w : World) (h : Tl w ao ks cap) (hn : ks.length ≤ 600) :
    Calls Try.prog 58 #[.slice ao ks.length cap, .string key] w fun e w' => ∃ ao' cap', e = .returned (.slice ao' L.length cap') ∧ OwnTs w' w.heap.size (.slice ao' L.length cap') L ∧ Below w.heap.size w w' := by
  have HT := Hid.mk2 h
  have HL := Hid.mk2 hL
  clear h hL
  go_enter Try.func58, Try.ntmps58
  go_wp2
  go_loopw [5, 6] (fun s5 i wr => ∃ (k : Nat) (v : Value), k ≤ ks.length ∧ i = .int .i64 k ∧ s5 = v ∧ Hid (OwnTs wr w.heap.size v ((ks.take k).filter (fun x => decide (x ≠ key)))) ∧ Hid (Below w.heap.size w wr)) (fun _ i _ => ks.length - (intOf i).toNat)
  case atStart => exact ⟨0, _, Nat.zero_le _, rfl, rfl, by rw [List.take_zero]; exact OwnTs.nil _ _, Below.refl _ _⟩
  case round =>
    obtain ⟨k, v5, hk, rfl, rfl, HO, HB⟩ := hrel
    have hkb : (k : Int) ≤ 600 := by omega
    by_cases hlt : k < ks.length
    · have hlt2 : (k : Int) < (ks.length : Int) := by omega
      obtain ⟨b, off, rfl, hb, hx⟩ := at_of (HT.out.below HB.out) hlt
      have hts : (ks.take (k + 1)).filter (fun x => decide (x ≠ key)) = (ks.take k).filter (fun x => decide (x ≠ key)) ++ if ks[k] = key then [] else [ks[k]] := by
        rw [List.take_succ_eq_append_getElem hlt, List.filter_append]
        congr 1
        by_cases e : ks[k] = key <;> simp [e]
      obtain ⟨s, hs⟩ : ∃ s, s = ks[k] := ⟨_, rfl⟩
      rw [← hs] at hx hts
      clear hs
      have hfl : ((ks.take k).filter (fun x => decide (x ≠ key))).length ≤ 600 := by
        have h1 := List.length_filter_le (fun x => decide (x ≠ key)) (ks.take k)
        have h2 := List.length_take_le k ks
        omega
      obtain ⟨F, hF⟩ : ∃ F, F = (ks.take k).filter (fun x => decide (x ≠ key)) := ⟨_, rfl⟩
      rw [← hF] at HO hts hfl
      have HTS := Hid.mk2 hts
      clear hts hF
      by_cases e : s = key
      · have e2 := ba_eq e
        have HE := Hid.mk2 e
        clear e
        go_wp2
        go_roundw
        case rel => exact ⟨k + 1, _, by omega, by go_num, rfl, by rw [HTS.out, if_pos HE.out, List.append_nil]; exact HO.out, HB.out⟩
        case measure => simp [intOf]; omega
      · have e2 := ba_ne e
        have HE := Hid.mk2 e
        clear e
        have hbs := HB.out.size
        go_wp2_with (at_builtin; refine app_key (w0 := wr) rfl _ _ rfl w.heap.size _ F HO.out rfl s rfl _ rfl rfl (by omega) hbs ?_; intro v7 w7 hO7 hG7; have HO7 := Hid.mk2 hO7; have HB7 : Hid (Below w.heap.size w w7) := HB.out.grown hG7.grown hbs (fun g hg => (HO.out.lt g hg).1); clear hO7 hG7)
        go_roundw
        case rel => exact ⟨k + 1, _, by omega, by go_num, rfl, by rw [HTS.out, if_neg HE.out]; exact HO7.out, HB7.out⟩
        case measure => simp [intOf]; omega
    · have hlt2 : ¬ (k : Int) < (ks.length : Int) := by omega
      have HO2 := HO
      rw [List.take_of_length_le (by omega), ← HL.out] at HO2
      clear HO
      go_wp2
      go_ret
      obtain ⟨ao', cap', rfl, hh⟩ := HO2.out.tl
      exact ⟨ao', cap', rfl, HO2.out, HB.out⟩
end Go.Proofs.Ytmdlampmoeiihaa
