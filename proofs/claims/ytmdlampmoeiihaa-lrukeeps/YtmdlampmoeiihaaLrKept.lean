/-
  The statements' helpers over orders, on: keeps.
-/
import Derived.Test.YtmdlampmoeiihaaLrHas
namespace Go.Proofs.Ytmdlampmoeiihaa
open Go.RowKit Go.Shelf Go.Lib Go.Sort
set_option linter.unusedSimpArgs false
set_option linter.unusedVariables false
set_option maxRecDepth 100000

set_option maxHeartbeats 2000000 in
theorem keeps_any (T K T' K' : List ByteArray) (aT aK aX aY : Option Addr) (cT cK cX cY : Nat) (but : ByteArray) (w : World) (hTl : Tl w aT T cT) (hKl : Tl w aK K cK) (hXl : Tl w aX T' cX) (hYl : Tl w aY K' cY) (hT : T.length ≤ 300) (hK : K.length ≤ 300) (hX : T'.length ≤ 400) (hY : K'.length ≤ 400)
    (hall : ∀ k ∈ T ++ K, k ≠ but → cnt T' K' k = 1) :
    Calls Try.prog 29 #[.agg #[.slice aT T.length cT, .slice aK K.length cK], .agg #[.slice aX T'.length cX, .slice aY K'.length cY], .string but] w fun e w' => e = .returned (.bool true) ∧ Below w.heap.size w w' := by
  have mixed := Try.layInsert.mixed
  obtain ⟨W, hW⟩ : ∃ W, W = (w.alloc (Obj.cells #[.slice aT T.length cT, .slice aK K.length cK] 24)).alloc (Obj.cells #[.slice aX T'.length cX, .slice aY K'.length cY] 24) := ⟨_, rfl⟩
  have HB : Hid (Below w.heap.size w W) := by rw [hW]; exact ((Below.refl _ _).alloc (Nat.le_refl _) _).alloc (by simp) _
  have HA : Hid (OB W w.heap.size (.slice aT T.length cT) (.slice aK K.length cK)) := by rw [hW]; exact (OB.made _ _ _).alloc _
  have HX : Hid (OB W (w.heap.size + 1) (.slice aX T'.length cX) (.slice aY K'.length cY)) := by
    rw [hW]
    have := OB.made (w.alloc (Obj.cells #[.slice aT T.length cT, .slice aK K.length cK] 24)) (.slice aX T'.length cX) (.slice aY K'.length cY)
    rw [show (w.alloc (Obj.cells #[.slice aT T.length cT, .slice aK K.length cK] 24)).heap.size = w.heap.size + 1 by simp] at this
    exact this
  have HTW := Hid.mk2 (hTl.below HB.out)
  have HKW := Hid.mk2 (hKl.below HB.out)
  have HXW := Hid.mk2 (hXl.below HB.out)
  have HYW := Hid.mk2 (hYl.below HB.out)
  have HLL : Hid (T.length ≤ 300 ∧ K.length ≤ 300 ∧ T'.length ≤ 400 ∧ K'.length ≤ 400) := ⟨hT, hK, hX, hY⟩
  obtain ⟨L, hL⟩ : ∃ L, L = T ++ K := ⟨_, rfl⟩
  rw [← hL] at hall
  have HL := Hid.mk2 hL
  have HALL := Hid.mk2 hall
  have HLN : Hid (L.length ≤ 600) := by show _ ≤ _; rw [hL, List.length_append]; omega
  clear hTl hKl hXl hYl hT hK hX hY hL hall
  go_enter Try.func29, Try.ntmps29
  go_upto_region 1 with (fail)
  rw [← hW]
  clear hW
  obtain ⟨c0, c1, f0, f1, l0⟩ := HA.out
  go_cut [7] from 9 (fun s7 wx => ∃ ao cap, s7 = .slice ao L.length cap ∧ Hid (Below W.heap.size W wx) ∧ Hid (Tl wx ao L cap))
  case first =>
    go_region_law
      (first
        | (refine step_app_row (by rfl) (.tmp 11) (.tmp 13) (by rfl) W.heap.size _ T HO1.out (by rfl) aK cK K K.length rfl (by rfl) W.heap.size HKW.out.hn (HKW.out.at_.below HB1.out (Nat.le_refl _)) (by have := HLL.out; omega) HB1.out.size ?_; intro v2 w2 hO2 hG2; rw [← HL.out] at hO2; have HO2 := Hid.mk2 hO2; obtain ⟨a2, k2, rfl, hT2⟩ := hO2.tl; have HT2 := Hid.mk2 hT2; have HB2 : Hid (Below W.heap.size W w2) := HB1.out.grown hG2.grown HB1.out.size (fun g hg => (HO1.out.lt g hg).1); clear hO2 hT2 hG2)
        | (refine step_app_row (by rfl) (.const (.slice none 0 0)) (.tmp 10) (by rfl) W.heap.size (.slice none 0 0) [] (OwnTs.nil _ _) (by rfl) aT cT T T.length rfl (by rfl) W.heap.size HTW.out.hn HTW.out.at_ (by have := HLL.out; simp; omega) (Nat.le_refl _) ?_; intro v1 w1 hO1 hG1; have HO1 : Hid (OwnTs w1 W.heap.size v1 T) := hO1; obtain ⟨a1, k1, rfl, hT1⟩ := hO1.tl; have HB1 : Hid (Below W.heap.size W w1) := ⟨hG1.grown.os, hG1.grown.tape, hG1.grown.output, hG1.grown.size, fun k hk => hG1.grown.block k hk (by intro e; cases e)⟩; clear hO1 hT1 hG1 c0 c1 f0 f1 l0; obtain ⟨c0, c1, f0, f1, l0⟩ := HA.out.below HB1.out))
    all_goals
      go_wp2
      go_meet
      case rel => exact ⟨a2, k2, rfl, HB2, HT2⟩
  case rest =>
    obtain ⟨ao, cap, rfl, HB3, HT3⟩ := hcut
    obtain ⟨w3, hw3⟩ : ∃ x, x = wc := ⟨_, rfl⟩
    rw [← hw3] at HB3 HT3 ⊢
    clear hw3 c0 c1 f0 f1 l0
    have HX3 := Hid.mk2 (HX.out.below HB3.out)
    have hs3 : Hid (W.heap.size ≤ w3.heap.size) := HB3.out.size
    go_wp2
    go_loopw [8] (fun i wr => ∃ k : Nat, k ≤ L.length ∧ i = .int .i64 k ∧ Hid (Below w3.heap.size w3 wr)) (fun i _ => L.length - (intOf i).toNat)
    case atStart => exact ⟨0, Nat.zero_le _, rfl, Below.refl _ _⟩
    case round =>
      obtain ⟨k, hk, rfl, HBr⟩ := hrel
      have hkb : (k : Int) ≤ 600 := by have := HLN.out; omega
      by_cases hlt : k < L.length
      · have hlt2 : (k : Int) < (L.length : Int) := by omega
        have HTr := Hid.mk2 (HT3.out.below HBr.out)
        obtain ⟨b, off, rfl, hb, hc⟩ := at_of HTr.out hlt
        have hmem : L[k] ∈ L := List.getElem_mem hlt
        have hone := HALL.out L[k] hmem
        obtain ⟨s, hs⟩ : ∃ s, s = L[k] := ⟨_, rfl⟩
        rw [← hs] at hc hone
        clear hs hmem
        have HXr := Hid.mk2 (HX3.out.below HBr.out)
        obtain ⟨x0, x1, y0, y1, xl⟩ := HXr.out
        have d0 : ∀ n os, (grow (wr.drewN n) os).cell? ⟨w.heap.size + 1, 0, none⟩ = some (.slice aX T'.length cX) := cell_grown xl x0
        have d1 : ∀ n os, (grow (wr.drewN n) os).cell? ⟨w.heap.size + 1, 1, none⟩ = some (.slice aY K'.length cY) := cell_grown xl x1
        have dc : ∀ n os, (grow (wr.drewN n) os).cell? ⟨b, off + k, none⟩ = some (.string s) := cell_grown hb hc
        have HHS : Hid (∀ n os, Calls Try.prog 28 #[.agg #[.slice aX T'.length cX, .slice aY K'.length cY], .string s] (grow (wr.drewN n) os) fun e w' => e = .returned (.int .i64 (cnt T' K' s : Nat)) ∧ ∃ q os', w' = grow ((grow (wr.drewN n) os).drewN q) os') := by
          intro n os
          have hbb : Below W.heap.size W (grow (wr.drewN n) os) := HB3.out.trans ((HBr.out.trans ((below_grow wr n os).mono HBr.out.size)).mono hs3.out)
          refine (has_any T' K' aX aY cX cY s _ (HXW.out.below hbb) (HYW.out.below hbb) HLL.out.2.2.1 HLL.out.2.2.2).mono ?_
          rintro e w' ⟨rfl, rfl⟩
          exact ⟨rfl, 0, _, alloc_eq_grow _ _⟩
        clear x0 x1 y0 y1 hc
        by_cases e : s = but
        · have e2 := ba_eq e
          have e3 : (!(s.toList == but.toList)) = false := by rw [e2]; rfl
          have e4 : (s.toList != but.toList) = false := by simp [bne, e2]
          clear hone e
          go_wp2
          go_quiet_grown ((go_at_call 28; exact Calls.grown_of (HHS.out _ _)))
          go_wp2
          go_roundw
          case rel => exact ⟨k + 1, by omega, by go_num, HBr.out.trans ((below_grow wr nq osq).mono HBr.out.size)⟩
          case measure => simp [intOf]; omega
        · have e2 := ba_ne e
          have e3 : (!(s.toList == but.toList)) = true := by rw [e2]; rfl
          have e4 : (s.toList != but.toList) = true := by simp [bne, e2]
          have h1 := hone e
          rw [h1] at HHS
          clear hone e h1
          go_wp2
          go_quiet_grown ((go_at_call 28; exact Calls.grown_of (HHS.out _ _)))
          go_wp2
          go_roundw
          case rel => exact ⟨k + 1, by omega, by go_num, HBr.out.trans ((below_grow wr nq osq).mono HBr.out.size)⟩
          case measure => simp [intOf]; omega
      · have hlt2 : ¬ (k : Int) < (L.length : Int) := by omega
        go_wp2
        go_ret
        exact ⟨rfl, (HB.out.trans (HB3.out.mono HB.out.size)).trans (HBr.out.mono (Nat.le_trans HB.out.size hs3.out))⟩
end Go.Proofs.Ytmdlampmoeiihaa
