/-
  The walk of SlabOwns, where a chunk is taken.
-/
import Derived.Test.YtcmfgofknjlmgaaSbOwns2
namespace Go.Proofs.Ytcmfgofknjlmgaa
open Go.RowKit
set_option linter.unusedSimpArgs false
set_option linter.unusedVariables false
set_option maxRecDepth 100000

theorem below_two {B : Nat} {a w : World} (h : Below B a w) (hs : B ≤ w.heap.size) (o o' : Obj) : Below B a ((w.alloc o).alloc o').drew := by
  have hba := (h.alloc hs o).alloc (by simp; omega) o'
  exact ⟨hba.os, hba.tape, hba.output, hba.size, hba.block⟩
theorem two_lt (w : World) (o o' : Obj) : w.heap.size < ((w.alloc o).alloc o').drew.heap.size := by
  show _ < ((w.alloc o).alloc o').heap.size
  simp
  omega
theorem two_lt' (w : World) (o o' : Obj) : w.heap.size + 1 < ((w.alloc o).alloc o').drew.heap.size := by
  show _ < ((w.alloc o).alloc o').heap.size
  simp
theorem two_cells (w : World) (a0 a1 a2 b0 b1 b2 : Value) (t : TypeId) :
    ((w.alloc (Obj.cells #[a0, a1, a2] t)).alloc (Obj.cells #[b0, b1, b2] t)).drew.cell? ⟨w.heap.size, 0, none⟩ = some a0 ∧
    ((w.alloc (Obj.cells #[a0, a1, a2] t)).alloc (Obj.cells #[b0, b1, b2] t)).drew.cell? ⟨w.heap.size, 1, none⟩ = some a1 ∧
    ((w.alloc (Obj.cells #[a0, a1, a2] t)).alloc (Obj.cells #[b0, b1, b2] t)).drew.cell? ⟨w.heap.size, 2, none⟩ = some a2 ∧
    ((w.alloc (Obj.cells #[a0, a1, a2] t)).alloc (Obj.cells #[b0, b1, b2] t)).drew.cell? ⟨w.heap.size + 1, 0, none⟩ = some b0 ∧
    ((w.alloc (Obj.cells #[a0, a1, a2] t)).alloc (Obj.cells #[b0, b1, b2] t)).drew.cell? ⟨w.heap.size + 1, 1, none⟩ = some b1 ∧
    ((w.alloc (Obj.cells #[a0, a1, a2] t)).alloc (Obj.cells #[b0, b1, b2] t)).drew.cell? ⟨w.heap.size + 1, 2, none⟩ = some b2 := by
  refine ⟨?_, ?_, ?_, ?_, ?_, ?_⟩
  all_goals
    show ((w.alloc (Obj.cells #[a0, a1, a2] t)).alloc (Obj.cells #[b0, b1, b2] t)).cell? _ = _
    simp
set_option maxHeartbeats 10000000 in
theorem owns0 (w : World) (b off : Nat) (ps : List Pg) (cap : Nat) (h : Sb w (some ⟨b, off, none⟩) ps cap) (ho : sOk ps = true) (hbl : b < w.heap.size) (hcs : ∀ i (hi : i < ps.length), PgLies w b (off + i * 3) ps[i]) (t c q : Int) (ht : isT t = true) (hc : isC c = true) (hq : isQ q = true) (I K : Nat) (hp : place ps t c q = some (I, K)) :
    Calls Try.prog 6 #[.agg #[.slice (some ⟨b, off, none⟩) ps.length cap], .int .i64 t, .int .i64 c, .int .i64 q] w fun e w' => e = .returned (.bool true) ∧ Below w.heap.size w w' := by
  have hlen := sOk_len ho
  have HS := Hid.mk2 h
  have HC := Hid.mk2 hcs
  have HCK := Hid.mk2 (fun W (hb : Below w.heap.size w W) => scheck_any W _ ps cap (h.below hb))
  rw [show sE ps = 0 by unfold sE; rw [ho]; rfl] at HCK
  have hE : takeE ps t c q = 0 := by unfold takeE; rw [if_neg (by rw [ho]; decide), if_neg (by rw [ht]; decide), if_neg (by rw [hc]; decide), if_neg (by rw [hq]; decide), if_neg (by rw [hp]; simp)]
  have hR : takeR ps t c q = (ps.set I (taken ps t c I K), I, K) := by unfold takeR; rw [if_pos hE, hp]
  obtain ⟨hI, hK, hbt, hor⟩ := place_lt hc hp
  have hK16 : K < 16 := by have := chunks_le hc; omega
  have HSO := Hid.mk2 (taken_ok ho ht hc hI hK hor)
  have HOS := Hid.mk2 (owned_set hI hor hK16)
  have HTN := Hid.mk2 ht
  have HTK := Hid.mk2 (fun W (hb : Below w.heap.size w W) => take_sb W _ ps cap (h.below hb) t c q 0 (ps.set I (taken ps t c I K)) I K hE hR)
  rw [List.length_set] at HTK
  have hcase : rms t c (mOf c) ps = true ∨ (rms t c (mOf c) ps = false ∧ (owned ps t : Int) < q ∧ 0 < frees ps) := by
    rw [mOf_c hc, rms_room ho]
    rcases place_some hp with h | ⟨h1, h2, h3, _⟩
    · exact .inl (by rw [h]; rfl)
    · exact .inr ⟨by rw [h1]; rfl, h2, frees_pos h3⟩
  have HCA := Hid.mk2 hcase
  have HPQ : Hid (ps[I].u = 0 → (owned ps t : Int) < q) := by
    intro hz
    rcases place_some hp with h | ⟨h1, h2, h3, _⟩
    · obtain ⟨_, h4, _⟩ := room_some h; exact absurd hz h4
    · exact h2
  have HOR := Hid.mk2 hor
  obtain ⟨P, hP⟩ : ∃ P, P = taken ps t c I K := ⟨_, rfl⟩
  have hPt : P.t = t := by rw [hP]; rfl
  have hPc : P.c = c := by rw [hP]; rfl
  have hPu : P.u = ps[I].u ||| 2 ^ K := by rw [hP]; show ((ps[I]?.getD pz).u ||| 2 ^ K) % 65536 = _; rw [List.getElem?_eq_getElem hI]; exact or_mod ps[I].hu hK16
  rw [← hP] at HSO HOS HTK
  have HPt := Hid.mk2 hPt
  have HPc := Hid.mk2 hPc
  have HPu := Hid.mk2 hPu
  have HBT := Hid.mk2 hbt
  have HRN := Hid.mk2 (show ps.set I P ≠ [] by intro e; have := congrArg List.length e; simp at this; subst this; simp at hI)
  clear hE hR hcase hor hbt hP hPt hPc hPu hp ht hc hq hK
  have HO := Hid.mk2 ho
  have h100 : decide ((100 : Int) < ps.length) = false := by simp; omega
  have h100n : decide (100 < ps.length) = false := by simp; omega
  clear h hcs ho
  go_enter Try.func6, Try.ntmps6
  go_upto_region 1 with (fail)
  obtain ⟨w0, hw0⟩ : ∃ w0, w0 = w.alloc (Obj.cells #[Value.slice (some ⟨b, off, none⟩) ps.length cap] 46) := ⟨_, rfl⟩
  rw [← hw0]
  have T0 : OW w w0 (.slice (some ⟨b, off, none⟩) ps.length cap) := by rw [hw0]; exact OW.begin _ _ _
  have HT0 := Hid.mk2 T0
  clear hw0 T0
  go_upto_region 6 with (first
    | (go_at_call 12; refine (alive_any _).mono ?_; rintro e w1 ⟨rfl, hb1⟩; have HT1 := Hid.mk2 (HT0.out.step hb1); have a1 := HT1.out.c0; have x1 := HT1.out.x0; clear hb1 HT0)
    | (go_at_call 22; refine (HCK.out _ HT1.out.below).mono ?_; rintro e w2 ⟨rfl, hb2⟩; have HT2 := Hid.mk2 (HT1.out.step hb2); have a2 := HT2.out.c0; have x2 := HT2.out.x0; clear hb2 a1 x1))
  go_upto_region 7 with (go_at_call 17; refine (HTK.out _ HT2.out.below).mono ?_; rintro e w3 ⟨ro, rc, rfl, hs3, -, hb3⟩; have HT3 := Hid.mk2 (HT2.out.step hb3); have a3 := HT3.out.c0; have x3 := HT3.out.x0; have HS3 := Hid.mk2 hs3; clear hb3 hs3 a2 x2)
  obtain ⟨w4, hw4⟩ : ∃ w4, w4 = w3.alloc (Obj.cells #[Value.slice ro ps.length rc] 46) := ⟨_, rfl⟩
  obtain ⟨ab, hab⟩ : ∃ ab, ab = w3.heap.size := ⟨_, rfl⟩
  rw [← hw4, ← hab]
  have hb4 : Below w3.heap.size w3 w4 := by rw [hw4]; exact (Below.refl _ _).alloc (Nat.le_refl _) _
  have a4 : w4.cell? ⟨ab, 0, none⟩ = some (.slice ro ps.length rc) := by rw [hw4, hab]; simp
  have x4 : ab < w4.heap.size := by rw [hw4, hab]; simp
  have HT4 := Hid.mk2 (HT3.out.step hb4)
  have HS4 := Hid.mk2 (HS3.out.below hb4)
  have c4 := HT4.out.c0
  have y4 := HT4.out.x0
  clear hw4 hab hb4 a3 x3 HT1 HT2 HT3 HS3 HCK HTK
  obtain ⟨b2, off2, hro, hb2l, hcs2⟩ := HS4.out.lies HRN.out
  subst hro
  have hrc : ps.length ≤ rc := by have := HS4.out.hl; simpa using this
  have HC2 := Hid.mk2 hcs2
  have HCK2 := Hid.mk2 (fun W (hb : Below w4.heap.size w4 W) => scheck_any W _ _ rc (HS4.out.below hb))
  rw [show sE (ps.set I P) = 0 by unfold sE; rw [HSO.out]; rfl, List.length_set] at HCK2
  have HOW2 := Hid.mk2 (fun W (hb : Below w4.heap.size w4 W) => Owned_any W _ _ rc (HS4.out.below hb) HSO.out t HTN.out)
  rw [HOS.out, List.length_set] at HOW2
  clear hcs2
  go_wp2
  go_loopw [14, 15, 16, 17] (fun s14 s15 s16 s17 wr => ∃ (k nf mn : Nat) (rm : Bool), k ≤ ps.length ∧ s14 = .int .i64 nf ∧ s15 = .bool rm ∧ s16 = .int .i64 mn ∧ s17 = .int .i64 k ∧ nf ≤ k ∧ mn ≤ k ∧ Hid (nf = frees (ps.take k)) ∧ Hid (rm = rms t c (mOf c) (ps.take k)) ∧ Hid (mn = owned (ps.take k) t) ∧ Hid (Below w4.heap.size w4 wr)) (fun _ _ _ s17 _ => ps.length - (intOf s17).toNat)
  case atStart => exact ⟨0, 0, 0, false, Nat.zero_le _, rfl, rfl, rfl, rfl, Nat.le_refl _, Nat.le_refl _, rfl, rfl, rfl, Below.refl _ _⟩
  case round =>
    obtain ⟨k, nf, mn, rm, hk, rfl, rfl, rfl, rfl, hnk, hmk, HNF, HRM, HMN, HB⟩ := hrel
    have hsz := HB.out.size
    have d4 := (below_cells HB.out _ 0 y4).trans c4
    have e4 := (below_cells HB.out _ 0 x4).trans a4
    have z4 : w.heap.size < wr.heap.size := by omega
    have z5 : ab < wr.heap.size := by omega
    have hbw : b < wr.heap.size := by omega
    have HBW : Hid (Below w.heap.size w wr) := HT4.out.below.trans (HB.out.mono (by omega))
    by_cases hlt : k < ps.length
    · have hlt2 : (k : Int) < (ps.length : Int) := by omega
      obtain ⟨p, hpe⟩ : ∃ p, p = ps[k] := ⟨_, rfl⟩
      have hL := HC.out k hlt
      have f1 := frees_take hlt
      have f2 := rms_take t c (mOf c) hlt
      have f3 := owned_take t hlt
      rw [← hpe] at hL f1 f2 f3
      have HF1 := Hid.mk2 f1
      have HF2 := Hid.mk2 f2
      have HF3 := Hid.mk2 f3
      obtain ⟨r0, r1, r2⟩ := hL.below HBW.out hbl
      clear hpe hL f1 f2 f3
      by_cases hu : p.u = 0
      · have g1 : ((p.u : Int) == 0) = true := by simp [hu]
        have HU := Hid.mk2 hu
        clear hu
        as_aux_lemma =>
          go_wp2
          go_roundw
          case rel => exact ⟨k + 1, nf + 1, mn, rm, by omega, by go_num, rfl, rfl, by go_num, by omega, by omega, by show _ = _; rw [HF1.out, HNF.out, if_pos HU.out], by show _ = _; rw [HF2.out, ← HRM.out]; simp [rmP, isOf, HU.out], by show _ = _; rw [HF3.out, HMN.out]; simp [isOf, HU.out], HB.out.alloc HB.out.size _⟩
          case measure => simp [intOf]; omega
      · have g1 : ((p.u : Int) == 0) = false := by simp [hu]
        have HU := Hid.mk2 hu
        clear hu
        by_cases ht2 : p.t = t
        · have g2 : (p.t == t) = true := by simp [ht2]
          have HT := Hid.mk2 ht2
          clear ht2
          cases erm : rm
          · subst erm
            by_cases hc2 : p.c = c
            · have g3 : (p.c == c) = true := by simp [hc2]
              have HC2 := Hid.mk2 hc2
              have hus := fun W => used_any p W
              have hcl := cnt_le p.u 16
              obtain ⟨C, hC⟩ : ∃ C, C = cnt p.u 16 := ⟨_, rfl⟩
              rw [← hC] at hus hcl
              have HCC := Hid.mk2 hC
              clear hc2 hC
              as_aux_lemma =>
                go_wp2_with (go_at_call 31; refine (hus _).mono ?_; rintro e w5 ⟨rfl, hb5⟩)
                go_roundw
                case rel => exact ⟨k + 1, nf, mn + 1, decide (C < mOf c), by omega, rfl, by unfold mOf; rw [m_dec], by go_num, by go_num, by omega, by omega, by show _ = _; rw [HF1.out, HNF.out, if_neg HU.out]; rfl, by show _ = _; rw [HF2.out, ← HRM.out]; simp [rmP, isOf, HC2.out, HU.out, HT.out, HCC.out], by show _ = _; rw [HF3.out, HMN.out]; simp [isOf, HU.out, HT.out], HB.out.trans ((below_alloc hb5).mono hsz)⟩
                case measure => simp [intOf]; omega
            · have g3 : (p.c == c) = false := by simp [hc2]
              have HC2 := Hid.mk2 hc2
              clear hc2
              as_aux_lemma =>
                go_wp2
                go_roundw
                case rel => exact ⟨k + 1, nf, mn + 1, false, by omega, rfl, rfl, by go_num, by go_num, by omega, by omega, by show _ = _; rw [HF1.out, HNF.out, if_neg HU.out]; rfl, by show _ = _; rw [HF2.out, ← HRM.out]; simp [rmP, HC2.out], by show _ = _; rw [HF3.out, HMN.out]; simp [isOf, HU.out, HT.out], HB.out.alloc HB.out.size _⟩
                case measure => simp [intOf]; omega
          · subst erm
            as_aux_lemma =>
              go_wp2
              go_roundw
              case rel => exact ⟨k + 1, nf, mn + 1, true, by omega, rfl, rfl, by go_num, by go_num, by omega, by omega, by show _ = _; rw [HF1.out, HNF.out, if_neg HU.out]; rfl, by show _ = _; rw [HF2.out, ← HRM.out]; rfl, by show _ = _; rw [HF3.out, HMN.out]; simp [isOf, HU.out, HT.out], HB.out.alloc HB.out.size _⟩
              case measure => simp [intOf]; omega
        · have g2 : (p.t == t) = false := by simp [ht2]
          have HT := Hid.mk2 ht2
          clear ht2
          as_aux_lemma =>
            go_wp2
            go_roundw
            case rel => exact ⟨k + 1, nf, mn, rm, by omega, rfl, rfl, rfl, by go_num, by omega, by omega, by show _ = _; rw [HF1.out, HNF.out, if_neg HU.out]; rfl, by show _ = _; rw [HF2.out, ← HRM.out]; simp [rmP, isOf, HT.out], by show _ = _; rw [HF3.out, HMN.out]; simp [isOf, HT.out], HB.out.alloc HB.out.size _⟩
            case measure => simp [intOf]; omega
    · have hlt2 : decide ((k : Int) < (ps.length : Int)) = false := by simp; omega
      have hkt : ps.take k = ps := List.take_of_length_le (by omega)
      rw [hkt] at HNF HRM HMN
      clear hkt
      have q1 : decide ((I : Int) < 0) = false := by simp
      have q2 : decide ((ps.length : Int) ≤ (I : Int)) = false := by simp; omega
      have q2n : decide (ps.length ≤ I) = false := by simp; omega
      have q3 : decide ((K : Int) < 0) = false := by simp
      have q4 : decide ((15 : Int) < (K : Int)) = false := by simp; omega
      have q4n : decide (15 < K) = false := by simp; omega
      have hcase : rm = true ∨ (rm = false ∧ decide (q ≤ (mn : Int)) = false ∧ ((nf : Int) == 0) = false) := by
        rcases HCA.out with h | ⟨h1, h2, h3⟩
        · exact .inl (HRM.out.trans h)
        · refine .inr ⟨HRM.out.trans h1, ?_, ?_⟩
          · rw [← HMN.out] at h2; simp; omega
          · rw [← HNF.out] at h3; simp; omega
      go_upto_region 21 with (fail)
      go_cut [159] from 24 (fun s159 wx => s159 = .bool false ∧ Hid (Below w4.heap.size w4 wx))
      case first =>
        rcases hcase with hrm | ⟨hrm, g1, g2⟩
        all_goals
          subst hrm
          as_aux_lemma =>
            go_wp2_with (go_at_call 22; refine (HCK2.out _ HB.out).mono ?_; rintro e w5 ⟨rfl, hb5⟩; have HB5 : Hid (Below w4.heap.size w4 w5) := HB.out.trans (hb5.mono hsz); have d5 := (below_cells HB5.out _ 0 y4).trans c4; have e5 := (below_cells HB5.out _ 0 x4).trans a4; have z6 : w.heap.size < w5.heap.size := Nat.lt_of_lt_of_le y4 HB5.out.size; have z7 : ab < w5.heap.size := Nat.lt_of_lt_of_le x4 HB5.out.size; clear hb5 d4 e4 z4 z5 hbw)
            go_meet
            case rel => exact ⟨rfl, HB5⟩
      case rest =>
        obtain ⟨rfl, HB5⟩ := hcut
        have d5 := (below_cells HB5.out _ 0 y4).trans c4
        have e5 := (below_cells HB5.out _ 0 x4).trans a4
        have z6 := Nat.lt_of_lt_of_le y4 HB5.out.size
        have z7 := Nat.lt_of_lt_of_le x4 HB5.out.size
        clear HBW HB hsz q1 q2 q2n q3 q4 q4n hlt hlt2 hk hnk d4 e4 z4 z5 hbw hcase
        go_wp2
        go_loopw [19] (fun s19 wx => ∃ j : Nat, j ≤ ps.length ∧ s19 = .int .i64 j ∧ Hid (Below w4.heap.size w4 wx)) (fun s19 _ => ps.length - (intOf s19).toNat)
        case atStart => exact ⟨0, Nat.zero_le _, rfl, HB5⟩
        case round =>
          obtain ⟨j, hj, rfl, HX⟩ := hrel
          have hsx := HX.out.size
          have d6 := (below_cells HX.out _ 0 y4).trans c4
          have e6 := (below_cells HX.out _ 0 x4).trans a4
          have z8 := Nat.lt_of_lt_of_le y4 hsx
          have z9 := Nat.lt_of_lt_of_le x4 hsx
          have hb6 := Nat.lt_of_lt_of_le (Nat.lt_trans hbl y4) hsx
          have hb7 := Nat.lt_of_lt_of_le hb2l hsx
          have HXW := Hid.mk2 (HT4.out.below.trans (HX.out.mono (Nat.le_of_lt y4)))
          clear d5 e5 z6 z7
          by_cases hjl : j < ps.length
          · have hjl2 : (j : Int) < (ps.length : Int) := by omega
            obtain ⟨r0, r1, r2⟩ := (HC.out j hjl).below HXW.out hbl
            obtain ⟨s0, s1, s2⟩ := (HC2.out j (by simpa using hjl)).below HX.out hb2l
            by_cases hji : j = I
            · have g5 : ((j : Int) != (I : Int)) = false := by simp [hji]
              clear hji s0 s1 s2
              as_aux_lemma =>
                go_upto_region 26 with (fail)
                go_big_quiet (fail)
                go_wp2
                go_roundw
                case rel => exact ⟨j + 1, by omega, by go_num, below_drewN HX.out _⟩
                case measure => simp [intOf]; omega
            · have g5 : ((j : Int) != (I : Int)) = true := by simp; omega
              have e7 : (ps.set I P)[j]'(by simpa using hjl) = ps[j] := by rw [List.getElem_set_ne (fun h => hji h.symm)]
              rw [e7] at s0 s1 s2
              clear hji e7
              as_aux_lemma =>
                go_upto_region 26 with (fail)
                go_big_quiet (fail)
                go_wp2
                go_roundw
                case rel => exact ⟨j + 1, by omega, by go_num, below_drewN HX.out _⟩
                case measure => simp [intOf]; omega
          · have hjl2 : decide ((j : Int) < (ps.length : Int)) = false := by simp; omega
            obtain ⟨r0, r1, r2⟩ := (HC.out I hI).below HXW.out hbl
            obtain ⟨s0, s1, s2⟩ := (HC2.out I (by simpa using hI)).below HX.out hb2l
            have e7 : (ps.set I P)[I]'(by simpa using hI) = P := by simp
            rw [e7, HPt.out] at s0
            rw [e7, HPc.out] at s1
            rw [e7] at s2
            obtain ⟨x, hx⟩ : ∃ x, x = ps[I] := ⟨_, rfl⟩
            rw [← hx] at r0 r1 r2
            have HXX := Hid.mk2 hx
            clear e7 hx
            go_upto_region 28 with (fail)
            go_cut [20, 21] from 24 (fun s20 s21 wx => ∃ X Y : Nat, s20 = .pointer (some ⟨X, 0, none⟩) ∧ s21 = .pointer (some ⟨Y, 0, none⟩) ∧ X < wx.heap.size ∧ Y < wx.heap.size ∧ wx.cell? ⟨X, 0, none⟩ = some (.int .i64 x.t) ∧ wx.cell? ⟨X, 1, none⟩ = some (.int .i64 x.c) ∧ wx.cell? ⟨X, 2, none⟩ = some (.int .u16 (x.u : Int)) ∧ wx.cell? ⟨Y, 0, none⟩ = some (.int .i64 t) ∧ wx.cell? ⟨Y, 1, none⟩ = some (.int .i64 c) ∧ wx.cell? ⟨Y, 2, none⟩ = some (.int .u16 (P.u : Int)) ∧ Hid (Below w4.heap.size w4 wx))
            case first =>
              go_wp2
              go_region
              all_goals
                go_wp2
                go_meet
                case rel =>
                  first
                    | exact ⟨_, _, rfl, rfl, two_lt wr _ _, two_lt' wr _ _, (two_cells wr _ _ _ _ _ _ _).1, (two_cells wr _ _ _ _ _ _ _).2.1, (two_cells wr _ _ _ _ _ _ _).2.2.1, (two_cells wr _ _ _ _ _ _ _).2.2.2.1, (two_cells wr _ _ _ _ _ _ _).2.2.2.2.1, (two_cells wr _ _ _ _ _ _ _).2.2.2.2.2, below_two HX.out hsx _ _⟩
                    | exact ⟨_, _, rfl, rfl, two_lt' wr _ _, two_lt wr _ _, (two_cells wr _ _ _ _ _ _ _).2.2.2.1, (two_cells wr _ _ _ _ _ _ _).2.2.2.2.1, (two_cells wr _ _ _ _ _ _ _).2.2.2.2.2, (two_cells wr _ _ _ _ _ _ _).1, (two_cells wr _ _ _ _ _ _ _).2.1, (two_cells wr _ _ _ _ _ _ _).2.2.1, below_two HX.out hsx _ _⟩
            case rest =>
            obtain ⟨X, Y, rfl, rfl, hX, hY, i0, i1, i2, j0, j1, j2, HBC⟩ := hcut
            have hsc := HBC.out.size
            have d7 := (below_cells HBC.out _ 0 x4).trans a4
            have z10 := Nat.lt_of_lt_of_le x4 hsc
            obtain ⟨D, hD⟩ : ∃ D, D = x.u / 2 ^ K := ⟨_, rfl⟩
            have g6 : ((x.u : Int) / 2 ^ K) = (D : Int) := by rw [hD]; simp
            have g7 : ((D : Int) % 2 == 0) = true := by
              have hb := HBT.out
              rw [testBit_div, ← HXX.out, ← hD] at hb
              simp at hb
              simp
              omega
            have g8 : IntKind.u16.wrap (2 ^ K) = 2 ^ K := by
              have h := pow_lt16 hK16
              rw [IntKind.wrap_u16]
              have e : (2 ^ K : Int) = ((2 ^ K : Nat) : Int) := by simp
              rw [e]
              obtain ⟨y, hy⟩ : ∃ y, y = 2 ^ K := ⟨_, rfl⟩
              rw [← hy] at h ⊢
              rw [Int.emod_eq_of_lt (by omega) (by omega)]
            have g9 : bits BinOp.or IntKind.u16 (x.u : Int) (2 ^ K) = (P.u : Int) := by
              have h := u16_or_nat x.u (2 ^ K) x.hu (pow_lt16 hK16)
              rw [HXX.out, ← HPu.out] at h
              rw [HXX.out]
              simpa using h
            have HPQ2 : Hid (x.u = 0 → (mn : Int) < q) := by have h1 := HPQ.out; rw [← HXX.out, ← HMN.out] at h1; exact h1
            have HOR2 : Hid (x.u = 0 ∨ x.t = t ∧ x.c = c) := by have h1 := HOR.out; rw [← HXX.out] at h1; exact h1
            have HOW3 := HOW2
            rw [← HXX.out, ← HMN.out] at HOW3
            obtain ⟨O, hO⟩ : ∃ O : Nat, O = mn + (if x.u = 0 then 1 else 0) := ⟨_, rfl⟩
            rw [← hO] at HOW3
            have HOO := Hid.mk2 hO
            have hOb : O ≤ mn + 1 := by rw [hO]; split <;> omega
            clear hD hO HOW2 hsc d6 e6 z8 z9 hb6 hb7 r0 r1 r2 s0 s1 s2 hjl hjl2 hsx
            have hcase2 : (((x.u : Int) == 0) = true ∧ decide ((O : Int) ≤ q) = true) ∨ (((x.u : Int) == 0) = false ∧ (x.t == t) = true ∧ (x.c == c) = true ∧ decide ((O : Int) ≤ q) = true) ∨ (((x.u : Int) == 0) = false ∧ (x.t == t) = true ∧ (x.c == c) = true ∧ decide ((O : Int) ≤ q) = false ∧ decide (q < (mn : Int)) = true ∧ ((O : Int) == (mn : Int)) = true) := by
              by_cases hz : x.u = 0
              · have h1 := HPQ2.out hz
                have h2 := HOO.out
                rw [if_pos hz] at h2
                exact .inl ⟨by simp [hz], by simp; omega⟩
              · have h2 := HOO.out
                rw [if_neg hz] at h2
                rcases HOR2.out with h | ⟨h3, h4⟩
                · exact absurd h hz
                · by_cases hq2 : (O : Int) ≤ q
                  · exact .inr (.inl ⟨by simp [hz], by simp [h3], by simp [h4], by simp [hq2]⟩)
                  · exact .inr (.inr ⟨by simp [hz], by simp [h3], by simp [h4], by simp; omega, by simp; omega, by simp; omega⟩)
            rcases hcase2 with ⟨k1, k2⟩ | ⟨k1, k2, k3, k4⟩ | ⟨k1, k2, k3, k4, k5, k6⟩
            all_goals
              as_aux_lemma =>
                go_wp2_with (go_at_call 19; refine (HOW3.out _ HBC.out).mono ?_; rintro e w9 ⟨rfl, hb9⟩; have i0' := (below_cells hb9 _ 0 hX).trans i0; have i1' := (below_cells hb9 _ 1 hX).trans i1; have i2' := (below_cells hb9 _ 2 hX).trans i2; have j0' := (below_cells hb9 _ 0 hY).trans j0; have j1' := (below_cells hb9 _ 1 hY).trans j1; have j2' := (below_cells hb9 _ 2 hY).trans j2; have HB9 := Hid.mk2 (HT4.out.below.trans ((HBC.out.trans (hb9.mono HBC.out.size)).mono (Nat.le_of_lt y4))); have hX' := Nat.lt_of_lt_of_le hX hb9.size; have hY' := Nat.lt_of_lt_of_le hY hb9.size; clear hb9 i0 i1 i2 j0 j1 j2)
                all_goals
                  first
                    | (rename_i h1 h2; exact absurd h1 (by intro h; cases h))
                    | (go_ret
                       exact ⟨rfl, HB9.out⟩)
end Go.Proofs.Ytcmfgofknjlmgaa
