/-
  The walk of SlabOwns.
-/
import Derived.Test.YtcmfgofknjlmgaaSbOwns
namespace Go.Proofs.Ytcmfgofknjlmgaa
open Go.RowKit
set_option linter.unusedSimpArgs false
set_option linter.unusedVariables false
set_option maxRecDepth 100000

/-- how many chunks a page of the class has, whatever number that is -/
def mOf (c : Int) : Nat := 16 / 2 ^ (if 4 < (if c < 0 then 0 else c) then 4 else if c < 0 then 0 else c).toNat
theorem m_dec (C N : Nat) : decide ((C : Int) < 16 / 2 ^ N) = decide (C < 16 / 2 ^ N) := by
  have e : (16 / 2 ^ N : Int) = ((16 / 2 ^ N : Nat) : Int) := by simp
  rw [e, decide_eq_decide]
  omega
theorem mOf_c {c : Int} (h : isC c = true) : mOf c = chunks c := by
  rcases isC_cases h with rfl | rfl | rfl | rfl | rfl <;> rfl
set_option maxHeartbeats 1000000 in
theorem owns2 (w : World) (b off : Nat) (ps : List Pg) (cap : Nat) (h : Sb w (some ⟨b, off, none⟩) ps cap) (ho : sOk ps = true) (hbl : b < w.heap.size) (hcs : ∀ i (hi : i < ps.length), PgLies w b (off + i * 3) ps[i]) (t c q : Int) (hE : takeE ps t c q = 2) :
    Calls Try.prog 6 #[.agg #[.slice (some ⟨b, off, none⟩) ps.length cap], .int .i64 t, .int .i64 c, .int .i64 q] w fun e w' => e = .returned (.bool true) ∧ Below w.heap.size w w' := by
  have hlen := sOk_len ho
  have HS := Hid.mk2 h
  have HC := Hid.mk2 hcs
  have HCK := Hid.mk2 (fun W (hb : Below w.heap.size w W) => scheck_any W _ ps cap (h.below hb))
  rw [show sE ps = 0 by unfold sE; rw [ho]; rfl] at HCK
  have hR : takeR ps t c q = ([], 0, 0) := by unfold takeR; rw [if_neg (by rw [hE]; decide)]
  have HTK := Hid.mk2 (fun W (hb : Below w.heap.size w W) => take_sb W _ ps cap (h.below hb) t c q 2 ([] : List Pg) 0 0 hE hR)
  obtain ⟨L, hLL⟩ : ∃ L : Nat, L = (([] : List Pg)).length := ⟨_, rfl⟩
  rw [← hLL] at HTK
  have HLL := Hid.mk2 hLL
  clear hLL
  clear hE hR
  have HO := Hid.mk2 ho
  have h100 : decide ((100 : Int) < ps.length) = false := by simp; omega
  have h100n : decide (100 < ps.length) = false := by simp; omega
  clear h hcs ho
  go_enter Try.func6, Try.ntmps6
  go_upto_region 1 with (fail)
  obtain ⟨w0, hw0⟩ : ∃ w0, w0 = w.alloc (Obj.cells #[Value.slice (some ⟨b, off, none⟩) ps.length cap] 46) := ⟨_, rfl⟩
  rw [← hw0]
  have T0 : OW w w0 (.slice (some ⟨b, off, none⟩) ps.length cap) := by rw [hw0]; exact OW.begin _ _ _
  have HT0 := Hid.mk2 T0
  clear hw0 T0
  go_upto_region 6 with (first
    | (go_at_call 12; refine (alive_any _).mono ?_; rintro e w1 ⟨rfl, hb1⟩; have HT1 := Hid.mk2 (HT0.out.step hb1); have a1 := HT1.out.c0; have x1 := HT1.out.x0; clear hb1 HT0)
    | (go_at_call 22; refine (HCK.out _ HT1.out.below).mono ?_; rintro e w2 ⟨rfl, hb2⟩; have HT2 := Hid.mk2 (HT1.out.step hb2); have a2 := HT2.out.c0; have x2 := HT2.out.x0; clear hb2 a1 x1))
  go_upto_region 7 with (go_at_call 17; refine (HTK.out _ HT2.out.below).mono ?_; rintro e w3 ⟨ro, rc, rfl, hs3, -, hb3⟩; have HT3 := Hid.mk2 (HT2.out.step hb3); have a3 := HT3.out.c0; have x3 := HT3.out.x0; have HS3 := Hid.mk2 hs3; clear hb3 hs3 a2 x2)
  obtain ⟨w4, hw4⟩ : ∃ w4, w4 = w3.alloc (Obj.cells #[Value.slice ro L rc] 46) := ⟨_, rfl⟩
  obtain ⟨ab, hab⟩ : ∃ ab, ab = w3.heap.size := ⟨_, rfl⟩
  rw [← hw4, ← hab]
  have hb4 : Below w3.heap.size w3 w4 := by rw [hw4]; exact (Below.refl _ _).alloc (Nat.le_refl _) _
  have a4 : w4.cell? ⟨ab, 0, none⟩ = some (.slice ro L rc) := by rw [hw4, hab]; simp
  have x4 : ab < w4.heap.size := by rw [hw4, hab]; simp
  have HT4 := Hid.mk2 (HT3.out.step hb4)
  have HS4 := Hid.mk2 (HS3.out.below hb4)
  have c4 := HT4.out.c0
  have y4 := HT4.out.x0
  clear hw4 hab hb4 a3 x3 HT1 HT2 HT3 HS3 HCK HTK
  go_wp2
  go_loopw [14, 15, 16, 17] (fun s14 s15 s16 s17 wr => ∃ (k nf mn : Nat) (rm : Bool), k ≤ ps.length ∧ s14 = .int .i64 nf ∧ s15 = .bool rm ∧ s16 = .int .i64 mn ∧ s17 = .int .i64 k ∧ nf ≤ k ∧ mn ≤ k ∧ Hid (nf = frees (ps.take k)) ∧ Hid (rm = rms t c (mOf c) (ps.take k)) ∧ Hid (mn = owned (ps.take k) t) ∧ Hid (Below w4.heap.size w4 wr)) (fun _ _ _ s17 _ => ps.length - (intOf s17).toNat)
  case atStart => exact ⟨0, 0, 0, false, Nat.zero_le _, rfl, rfl, rfl, rfl, Nat.le_refl _, Nat.le_refl _, rfl, rfl, rfl, Below.refl _ _⟩
  case round =>
    obtain ⟨k, nf, mn, rm, hk, rfl, rfl, rfl, rfl, hnk, hmk, HNF, HRM, HMN, HB⟩ := hrel
    have hsz := HB.out.size
    have d4 := (below_cells HB.out _ 0 y4).trans c4
    have e4 := (below_cells HB.out _ 0 x4).trans a4
    have z4 : w.heap.size < wr.heap.size := by omega
    have z5 : ab < wr.heap.size := by omega
    have hbw : b < wr.heap.size := by omega
    have HBW : Hid (Below w.heap.size w wr) := HT4.out.below.trans (HB.out.mono (by omega))
    by_cases hlt : k < ps.length
    · have hlt2 : (k : Int) < (ps.length : Int) := by omega
      obtain ⟨p, hpe⟩ : ∃ p, p = ps[k] := ⟨_, rfl⟩
      have hL := HC.out k hlt
      have f1 := frees_take hlt
      have f2 := rms_take t c (mOf c) hlt
      have f3 := owned_take t hlt
      rw [← hpe] at hL f1 f2 f3
      have HF1 := Hid.mk2 f1
      have HF2 := Hid.mk2 f2
      have HF3 := Hid.mk2 f3
      obtain ⟨r0, r1, r2⟩ := hL.below HBW.out hbl
      clear hpe hL f1 f2 f3
      by_cases hu : p.u = 0
      · have g1 : ((p.u : Int) == 0) = true := by simp [hu]
        have HU := Hid.mk2 hu
        clear hu
        go_wp2
        go_roundw
        case rel => exact ⟨k + 1, nf + 1, mn, rm, by omega, by go_num, rfl, rfl, by go_num, by omega, by omega, by show _ = _; rw [HF1.out, HNF.out, if_pos HU.out], by show _ = _; rw [HF2.out, ← HRM.out]; simp [rmP, isOf, HU.out], by show _ = _; rw [HF3.out, HMN.out]; simp [isOf, HU.out], HB.out.alloc HB.out.size _⟩
        case measure => simp [intOf]; omega
      · have g1 : ((p.u : Int) == 0) = false := by simp [hu]
        have HU := Hid.mk2 hu
        clear hu
        by_cases ht2 : p.t = t
        · have g2 : (p.t == t) = true := by simp [ht2]
          have HT := Hid.mk2 ht2
          clear ht2
          cases erm : rm
          · subst erm
            by_cases hc2 : p.c = c
            · have g3 : (p.c == c) = true := by simp [hc2]
              have HC2 := Hid.mk2 hc2
              have hus := fun W => used_any p W
              have hcl := cnt_le p.u 16
              obtain ⟨C, hC⟩ : ∃ C, C = cnt p.u 16 := ⟨_, rfl⟩
              rw [← hC] at hus hcl
              have HCC := Hid.mk2 hC
              clear hc2 hC
              go_wp2_with (go_at_call 31; refine (hus _).mono ?_; rintro e w5 ⟨rfl, hb5⟩)
              go_roundw
              case rel => exact ⟨k + 1, nf, mn + 1, decide (C < mOf c), by omega, rfl, by unfold mOf; rw [m_dec], by go_num, by go_num, by omega, by omega, by show _ = _; rw [HF1.out, HNF.out, if_neg HU.out]; rfl, by show _ = _; rw [HF2.out, ← HRM.out]; simp [rmP, isOf, HC2.out, HU.out, HT.out, HCC.out], by show _ = _; rw [HF3.out, HMN.out]; simp [isOf, HU.out, HT.out], HB.out.trans ((below_alloc hb5).mono hsz)⟩
              case measure => simp [intOf]; omega
            · have g3 : (p.c == c) = false := by simp [hc2]
              have HC2 := Hid.mk2 hc2
              clear hc2
              go_wp2
              go_roundw
              case rel => exact ⟨k + 1, nf, mn + 1, false, by omega, rfl, rfl, by go_num, by go_num, by omega, by omega, by show _ = _; rw [HF1.out, HNF.out, if_neg HU.out]; rfl, by show _ = _; rw [HF2.out, ← HRM.out]; simp [rmP, HC2.out], by show _ = _; rw [HF3.out, HMN.out]; simp [isOf, HU.out, HT.out], HB.out.alloc HB.out.size _⟩
              case measure => simp [intOf]; omega
          · subst erm
            go_wp2
            go_roundw
            case rel => exact ⟨k + 1, nf, mn + 1, true, by omega, rfl, rfl, by go_num, by go_num, by omega, by omega, by show _ = _; rw [HF1.out, HNF.out, if_neg HU.out]; rfl, by show _ = _; rw [HF2.out, ← HRM.out]; rfl, by show _ = _; rw [HF3.out, HMN.out]; simp [isOf, HU.out, HT.out], HB.out.alloc HB.out.size _⟩
            case measure => simp [intOf]; omega
        · have g2 : (p.t == t) = false := by simp [ht2]
          have HT := Hid.mk2 ht2
          clear ht2
          go_wp2
          go_roundw
          case rel => exact ⟨k + 1, nf, mn, rm, by omega, rfl, rfl, rfl, by go_num, by omega, by omega, by show _ = _; rw [HF1.out, HNF.out, if_neg HU.out]; rfl, by show _ = _; rw [HF2.out, ← HRM.out]; simp [rmP, isOf, HT.out], by show _ = _; rw [HF3.out, HMN.out]; simp [isOf, HT.out], HB.out.alloc HB.out.size _⟩
          case measure => simp [intOf]; omega
    · have hlt2 : decide ((k : Int) < (ps.length : Int)) = false := by simp; omega
      have hkt : ps.take k = ps := List.take_of_length_le (by omega)
      rw [hkt] at HNF HRM HMN
      clear hkt
      have hL0 : L = 0 := HLL.out
      subst hL0
      go_wp2
      go_ret
      exact ⟨rfl, HBW.out⟩
set_option maxHeartbeats 1000000 in
theorem owns9 (w : World) (b off : Nat) (ps : List Pg) (cap : Nat) (h : Sb w (some ⟨b, off, none⟩) ps cap) (ho : sOk ps = true) (hbl : b < w.heap.size) (hcs : ∀ i (hi : i < ps.length), PgLies w b (off + i * 3) ps[i]) (t c q : Int) (ht : isT t = true) (hc : isC c = true) (hq : isQ q = true) (hp : place ps t c q = none) :
    Calls Try.prog 6 #[.agg #[.slice (some ⟨b, off, none⟩) ps.length cap], .int .i64 t, .int .i64 c, .int .i64 q] w fun e w' => e = .returned (.bool true) ∧ Below w.heap.size w w' := by
  have hlen := sOk_len ho
  have HS := Hid.mk2 h
  have HC := Hid.mk2 hcs
  have HCK := Hid.mk2 (fun W (hb : Below w.heap.size w W) => scheck_any W _ ps cap (h.below hb))
  rw [show sE ps = 0 by unfold sE; rw [ho]; rfl] at HCK
  have hE : takeE ps t c q = 9 := by unfold takeE; rw [if_neg (by rw [ho]; decide), if_neg (by rw [ht]; decide), if_neg (by rw [hc]; decide), if_neg (by rw [hq]; decide), if_pos (by rw [hp]; rfl)]
  have hR : takeR ps t c q = ([], 0, 0) := by unfold takeR; rw [if_neg (by rw [hE]; decide)]
  have HTK := Hid.mk2 (fun W (hb : Below w.heap.size w W) => take_sb W _ ps cap (h.below hb) t c q 9 ([] : List Pg) 0 0 hE hR)
  obtain ⟨L, hLL⟩ : ∃ L : Nat, L = (([] : List Pg)).length := ⟨_, rfl⟩
  rw [← hLL] at HTK
  have HLL := Hid.mk2 hLL
  clear hLL
  obtain ⟨hr, hp2⟩ := place_none hp
  have HR : Hid (rms t c (mOf c) ps = false) := by rw [mOf_c hc]; exact (rms_room ho).trans (by rw [hr]; rfl)
  have HP2 := Hid.mk2 hp2
  clear hE hR hr hp2 hp ht hc hq
  have HO := Hid.mk2 ho
  have h100 : decide ((100 : Int) < ps.length) = false := by simp; omega
  have h100n : decide (100 < ps.length) = false := by simp; omega
  clear h hcs ho
  go_enter Try.func6, Try.ntmps6
  go_upto_region 1 with (fail)
  obtain ⟨w0, hw0⟩ : ∃ w0, w0 = w.alloc (Obj.cells #[Value.slice (some ⟨b, off, none⟩) ps.length cap] 46) := ⟨_, rfl⟩
  rw [← hw0]
  have T0 : OW w w0 (.slice (some ⟨b, off, none⟩) ps.length cap) := by rw [hw0]; exact OW.begin _ _ _
  have HT0 := Hid.mk2 T0
  clear hw0 T0
  go_upto_region 6 with (first
    | (go_at_call 12; refine (alive_any _).mono ?_; rintro e w1 ⟨rfl, hb1⟩; have HT1 := Hid.mk2 (HT0.out.step hb1); have a1 := HT1.out.c0; have x1 := HT1.out.x0; clear hb1 HT0)
    | (go_at_call 22; refine (HCK.out _ HT1.out.below).mono ?_; rintro e w2 ⟨rfl, hb2⟩; have HT2 := Hid.mk2 (HT1.out.step hb2); have a2 := HT2.out.c0; have x2 := HT2.out.x0; clear hb2 a1 x1))
  go_upto_region 7 with (go_at_call 17; refine (HTK.out _ HT2.out.below).mono ?_; rintro e w3 ⟨ro, rc, rfl, hs3, -, hb3⟩; have HT3 := Hid.mk2 (HT2.out.step hb3); have a3 := HT3.out.c0; have x3 := HT3.out.x0; have HS3 := Hid.mk2 hs3; clear hb3 hs3 a2 x2)
  obtain ⟨w4, hw4⟩ : ∃ w4, w4 = w3.alloc (Obj.cells #[Value.slice ro L rc] 46) := ⟨_, rfl⟩
  obtain ⟨ab, hab⟩ : ∃ ab, ab = w3.heap.size := ⟨_, rfl⟩
  rw [← hw4, ← hab]
  have hb4 : Below w3.heap.size w3 w4 := by rw [hw4]; exact (Below.refl _ _).alloc (Nat.le_refl _) _
  have a4 : w4.cell? ⟨ab, 0, none⟩ = some (.slice ro L rc) := by rw [hw4, hab]; simp
  have x4 : ab < w4.heap.size := by rw [hw4, hab]; simp
  have HT4 := Hid.mk2 (HT3.out.step hb4)
  have HS4 := Hid.mk2 (HS3.out.below hb4)
  have c4 := HT4.out.c0
  have y4 := HT4.out.x0
  clear hw4 hab hb4 a3 x3 HT1 HT2 HT3 HS3 HCK HTK
  go_wp2
  go_loopw [14, 15, 16, 17] (fun s14 s15 s16 s17 wr => ∃ (k nf mn : Nat) (rm : Bool), k ≤ ps.length ∧ s14 = .int .i64 nf ∧ s15 = .bool rm ∧ s16 = .int .i64 mn ∧ s17 = .int .i64 k ∧ nf ≤ k ∧ mn ≤ k ∧ Hid (nf = frees (ps.take k)) ∧ Hid (rm = rms t c (mOf c) (ps.take k)) ∧ Hid (mn = owned (ps.take k) t) ∧ Hid (Below w4.heap.size w4 wr)) (fun _ _ _ s17 _ => ps.length - (intOf s17).toNat)
  case atStart => exact ⟨0, 0, 0, false, Nat.zero_le _, rfl, rfl, rfl, rfl, Nat.le_refl _, Nat.le_refl _, rfl, rfl, rfl, Below.refl _ _⟩
  case round =>
    obtain ⟨k, nf, mn, rm, hk, rfl, rfl, rfl, rfl, hnk, hmk, HNF, HRM, HMN, HB⟩ := hrel
    have hsz := HB.out.size
    have d4 := (below_cells HB.out _ 0 y4).trans c4
    have e4 := (below_cells HB.out _ 0 x4).trans a4
    have z4 : w.heap.size < wr.heap.size := by omega
    have z5 : ab < wr.heap.size := by omega
    have hbw : b < wr.heap.size := by omega
    have HBW : Hid (Below w.heap.size w wr) := HT4.out.below.trans (HB.out.mono (by omega))
    by_cases hlt : k < ps.length
    · have hlt2 : (k : Int) < (ps.length : Int) := by omega
      obtain ⟨p, hpe⟩ : ∃ p, p = ps[k] := ⟨_, rfl⟩
      have hL := HC.out k hlt
      have f1 := frees_take hlt
      have f2 := rms_take t c (mOf c) hlt
      have f3 := owned_take t hlt
      rw [← hpe] at hL f1 f2 f3
      have HF1 := Hid.mk2 f1
      have HF2 := Hid.mk2 f2
      have HF3 := Hid.mk2 f3
      obtain ⟨r0, r1, r2⟩ := hL.below HBW.out hbl
      clear hpe hL f1 f2 f3
      by_cases hu : p.u = 0
      · have g1 : ((p.u : Int) == 0) = true := by simp [hu]
        have HU := Hid.mk2 hu
        clear hu
        go_wp2
        go_roundw
        case rel => exact ⟨k + 1, nf + 1, mn, rm, by omega, by go_num, rfl, rfl, by go_num, by omega, by omega, by show _ = _; rw [HF1.out, HNF.out, if_pos HU.out], by show _ = _; rw [HF2.out, ← HRM.out]; simp [rmP, isOf, HU.out], by show _ = _; rw [HF3.out, HMN.out]; simp [isOf, HU.out], HB.out.alloc HB.out.size _⟩
        case measure => simp [intOf]; omega
      · have g1 : ((p.u : Int) == 0) = false := by simp [hu]
        have HU := Hid.mk2 hu
        clear hu
        by_cases ht2 : p.t = t
        · have g2 : (p.t == t) = true := by simp [ht2]
          have HT := Hid.mk2 ht2
          clear ht2
          cases erm : rm
          · subst erm
            by_cases hc2 : p.c = c
            · have g3 : (p.c == c) = true := by simp [hc2]
              have HC2 := Hid.mk2 hc2
              have hus := fun W => used_any p W
              have hcl := cnt_le p.u 16
              obtain ⟨C, hC⟩ : ∃ C, C = cnt p.u 16 := ⟨_, rfl⟩
              rw [← hC] at hus hcl
              have HCC := Hid.mk2 hC
              clear hc2 hC
              go_wp2_with (go_at_call 31; refine (hus _).mono ?_; rintro e w5 ⟨rfl, hb5⟩)
              go_roundw
              case rel => exact ⟨k + 1, nf, mn + 1, decide (C < mOf c), by omega, rfl, by unfold mOf; rw [m_dec], by go_num, by go_num, by omega, by omega, by show _ = _; rw [HF1.out, HNF.out, if_neg HU.out]; rfl, by show _ = _; rw [HF2.out, ← HRM.out]; simp [rmP, isOf, HC2.out, HU.out, HT.out, HCC.out], by show _ = _; rw [HF3.out, HMN.out]; simp [isOf, HU.out, HT.out], HB.out.trans ((below_alloc hb5).mono hsz)⟩
              case measure => simp [intOf]; omega
            · have g3 : (p.c == c) = false := by simp [hc2]
              have HC2 := Hid.mk2 hc2
              clear hc2
              go_wp2
              go_roundw
              case rel => exact ⟨k + 1, nf, mn + 1, false, by omega, rfl, rfl, by go_num, by go_num, by omega, by omega, by show _ = _; rw [HF1.out, HNF.out, if_neg HU.out]; rfl, by show _ = _; rw [HF2.out, ← HRM.out]; simp [rmP, HC2.out], by show _ = _; rw [HF3.out, HMN.out]; simp [isOf, HU.out, HT.out], HB.out.alloc HB.out.size _⟩
              case measure => simp [intOf]; omega
          · subst erm
            go_wp2
            go_roundw
            case rel => exact ⟨k + 1, nf, mn + 1, true, by omega, rfl, rfl, by go_num, by go_num, by omega, by omega, by show _ = _; rw [HF1.out, HNF.out, if_neg HU.out]; rfl, by show _ = _; rw [HF2.out, ← HRM.out]; rfl, by show _ = _; rw [HF3.out, HMN.out]; simp [isOf, HU.out, HT.out], HB.out.alloc HB.out.size _⟩
            case measure => simp [intOf]; omega
        · have g2 : (p.t == t) = false := by simp [ht2]
          have HT := Hid.mk2 ht2
          clear ht2
          go_wp2
          go_roundw
          case rel => exact ⟨k + 1, nf, mn, rm, by omega, rfl, rfl, rfl, by go_num, by omega, by omega, by show _ = _; rw [HF1.out, HNF.out, if_neg HU.out]; rfl, by show _ = _; rw [HF2.out, ← HRM.out]; simp [rmP, isOf, HT.out], by show _ = _; rw [HF3.out, HMN.out]; simp [isOf, HT.out], HB.out.alloc HB.out.size _⟩
          case measure => simp [intOf]; omega
    · have hlt2 : decide ((k : Int) < (ps.length : Int)) = false := by simp; omega
      have hkt : ps.take k = ps := List.take_of_length_le (by omega)
      rw [hkt] at HNF HRM HMN
      clear hkt
      have hL0 : L = 0 := HLL.out
      subst hL0
      have hrm : rm = false := HRM.out.trans HR.out
      subst hrm
      by_cases hmq : q ≤ (mn : Int)
      · have g : decide (q ≤ (mn : Int)) = true := by simp [hmq]
        clear hmq
        go_wp2
        go_ret
        exact ⟨rfl, HBW.out⟩
      · have g : decide (q ≤ (mn : Int)) = false := by simp; omega
        have hz : nf = 0 := by
          rcases HP2.out with h | h
          · exfalso; have e := HMN.out; omega
          · rw [HNF.out]; exact frees_zero h
        subst hz
        clear hmq
        go_wp2
        go_ret
        exact ⟨rfl, HBW.out⟩
end Go.Proofs.Ytcmfgofknjlmgaa
