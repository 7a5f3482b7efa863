/-
  Contract of the document's place.
-/
import Derived.Test.YtkcgleahbhmggaaSbRef3
namespace Go.Proofs.Ytkcgleahbhmggaa
open Go.RowKit
set_option linter.unusedSimpArgs false
set_option linter.unusedVariables false
set_option maxRecDepth 100000

set_option maxHeartbeats 1000000 in
theorem rplace_any (w : World) (ao : Option Addr) (ps : List Pg) (cap : Nat) (h : Sb w ao ps cap) (hl : ps.length ≤ 1000) (t c q : Int) (hc : isC c = true) :
    Calls Try.prog 67 #[.agg #[.slice ao ps.length cap], .int .i64 t, .int .i64 c, .int .i64 q] w fun e w' => e = .returned (.tuple #[.int .i64 (optP (place ps t c q)), .int .i64 (optK (place ps t c q)), .bool (place ps t c q).isSome]) ∧ Below w.heap.size w w' := by
  have HS := Hid.mk2 h
  have hcap := h.hl
  have HOW := Hid.mk2 (fun W (hb : Below w.heap.size w W) => rowned_any W ao ps cap (h.below hb) hl t)
  clear h
  obtain ⟨O, hO⟩ : ∃ O, O = owned ps t := ⟨_, rfl⟩
  rw [← hO] at HOW
  have HOO := Hid.mk2 hO
  have HPL : Hid (place ps t c q = match room ps t c with
    | some x => some x
    | none => if (O : Int) < q then (freeP ps).map (fun i => (i, 0)) else none) := by rw [hO]; rfl
  obtain ⟨I, hI⟩ : ∃ I, I = optP (place ps t c q) := ⟨_, rfl⟩
  obtain ⟨K, hK⟩ : ∃ K, K = optK (place ps t c q) := ⟨_, rfl⟩
  obtain ⟨B, hB⟩ : ∃ B, B = (place ps t c q).isSome := ⟨_, rfl⟩
  rw [← hI, ← hK, ← hB]
  have HI := Hid.mk2 hI
  have HK := Hid.mk2 hK
  have HB := Hid.mk2 hB
  have hch := fun W => rchunks_any c W hc
  have hcl := chunks_le hc
  obtain ⟨N, hN⟩ : ∃ N, N = chunks c := ⟨_, rfl⟩
  rw [← hN] at hch hcl
  have HN := Hid.mk2 hN
  clear hI hK hB hN hc hO
  go_enter Try.func67, Try.ntmps67
  go_wp2
  go_loopw [11] (fun i wr => ∃ k : Nat, k ≤ ps.length ∧ i = .int .i64 k ∧ Below w.heap.size w wr ∧ w.heap.size < wr.heap.size ∧ wr.cell? ⟨w.heap.size, 0, none⟩ = some (.slice ao ps.length cap) ∧ Hid (∀ i, i < k → roomI ps t c i = none)) (fun i _ => ps.length - (intOf i).toNat)
  case atStart => exact ⟨0, Nat.zero_le _, rfl, (Below.refl _ _).alloc (Nat.le_refl _) _, by simp, by simp, fun _ h => absurd h (by omega)⟩
  case round =>
    obtain ⟨k, hk, rfl, hbr, hsz, c0, HOK⟩ := hrel
    by_cases hlt : k < ps.length
    · have hlt2 : (k : Int) < (ps.length : Int) := by omega
      have hne : ps ≠ [] := by intro e; rw [e] at hlt; simp at hlt
      obtain ⟨b, off, rfl, hbl, hcs⟩ := HS.out.lies hne
      obtain ⟨p, hpe⟩ : ∃ p, p = ps[k] := ⟨_, rfl⟩
      have hL := hcs k hlt
      rw [← hpe] at hL
      have HPE := Hid.mk2 hpe
      obtain ⟨r0, r1, r2⟩ := hL.below hbr hbl
      have hbl2 : b < wr.heap.size := by omega
      clear hpe hL hcs hne
      have hm := fun W => risFree_any p W
      have hfi : roomI ps t c k = (roomP t c p).map (fun j => (k, j)) := by
        unfold roomI
        rw [List.getElem?_eq_getElem hlt, HPE.out]
      have HFI := Hid.mk2 hfi
      clear hfi
      obtain ⟨w2, hw2⟩ : ∃ w2, w2 = wr.alloc (Obj.cells #[Value.int .i64 p.t, Value.int .i64 p.c, Value.int .u16 (p.u : Int)] 30) := ⟨_, rfl⟩
      obtain ⟨pb, hpb⟩ : ∃ pb, pb = wr.heap.size := ⟨_, rfl⟩
      have q0 : w2.cell? ⟨pb, 0, none⟩ = some (.int .i64 p.t) := by rw [hw2, hpb]; simp
      have q1 : w2.cell? ⟨pb, 1, none⟩ = some (.int .i64 p.c) := by rw [hw2, hpb]; simp
      have q2 : w2.cell? ⟨pb, 2, none⟩ = some (.int .u16 (p.u : Int)) := by rw [hw2, hpb]; simp
      have q3 : pb < w2.heap.size := by rw [hw2, hpb]; simp
      have q4 : w2.cell? ⟨w.heap.size, 0, none⟩ = some (.slice (some ⟨b, off, none⟩) ps.length cap) := by rw [hw2]; exact (World.cell?_alloc_past _ _ _ hsz).trans c0
      have q5 : w.heap.size < w2.heap.size := by rw [hw2]; simp; omega
      have HBW : Hid (Below w.heap.size w w2) := by rw [hw2]; exact hbr.alloc (by omega) _
      have HW2 := Hid.mk2 hw2
      have HPB := Hid.mk2 hpb
      clear hw2 hpb
      have HNX : Hid (roomP t c p = none → ∀ i, i < k + 1 → roomI ps t c i = none) := by
        intro hr i h
        by_cases e : i = k
        · subst e; rw [HFI.out, hr]; rfl
        · exact HOK.out i (by omega)
      go_upto_region 5 with (fail)
      rw [← HW2.out, ← HPB.out]
      clear HW2 HPB r0 r1 r2 c0 hbr hsz
      by_cases ez : p.u = 0
      · have HRN : Hid (roomP t c p = none) := by unfold roomP; rw [Hid, if_neg (by simp [ez])]
        rw [decide_eq_true ez] at hm
        have HEZ := Hid.mk2 ez
        clear ez
        go_wp2_with (go_at_call 68; refine (hm _).mono ?_; rintro e w3 ⟨rfl, hb3⟩; have c3 := (below_cells hb3 _ 0 q5).trans q4; have z3 := Nat.lt_of_lt_of_le q5 hb3.size; have HB3 := Hid.mk2 (HBW.out.trans (hb3.mono (Nat.le_of_lt q5))))
        go_roundw
        case rel => exact ⟨k + 1, by omega, by go_num, HB3.out, z3, c3, HNX.out HRN.out⟩
        case measure => simp [intOf]; omega
      · rw [decide_eq_false ez] at hm
        by_cases et : p.t = t
        · have g1 : (p.t != t) = false := by simp [et]
          by_cases ec : p.c = c
          · have g2 : (p.c != c) = false := by simp [ec]
            have HRN : Hid (roomP t c p = lowFree p.u N) := by unfold roomP; rw [Hid, if_pos ⟨ez, et, ec⟩, HN.out]
            have HEZ := Hid.mk2 ez
            clear ez et ec
            go_wp2_with (go_at_call 68; refine (hm _).mono ?_; rintro e w3 ⟨rfl, hb3⟩; have c3 := (below_cells hb3 _ 0 q5).trans q4; have z3 := Nat.lt_of_lt_of_le q5 hb3.size; have HB3 := Hid.mk2 (HBW.out.trans (hb3.mono (Nat.le_of_lt q5))); have v0 := (below_cells hb3 _ 0 q3).trans q0; have v1 := (below_cells hb3 _ 1 q3).trans q1; have v2 := (below_cells hb3 _ 2 q3).trans q2; have v3 := Nat.lt_of_lt_of_le q3 hb3.size)
            clear q0 q1 q2 q3 q4 q5
            go_loopw [13] (fun i wq => ∃ j : Nat, j ≤ N ∧ i = .int .i64 j ∧ Hid (Below w3.heap.size w3 wq) ∧ Hid (∀ i, i < j → freeBit p.u i = none)) (fun i _ => N - (intOf i).toNat)
            case atStart => exact ⟨0, Nat.zero_le _, rfl, Below.refl _ _, fun _ h => absurd h (by omega)⟩
            case round =>
              obtain ⟨j, hj, rfl, HQ, HOQ⟩ := hrel
              have hsq := HQ.out.size
              have s0 := (below_cells HQ.out _ 0 v3).trans v0
              have s1 := (below_cells HQ.out _ 1 v3).trans v1
              have s2 := (below_cells HQ.out _ 2 v3).trans v2
              have s3 := Nat.lt_of_lt_of_le v3 hsq
              have s4 := (below_cells HQ.out _ 0 z3).trans c3
              have s5 := Nat.lt_of_lt_of_le z3 hsq
              have HQW := Hid.mk2 (HB3.out.trans (HQ.out.mono (Nat.le_of_lt z3)))
              by_cases hjN : j < N
              · have hjN2 : (j : Int) < (N : Int) := by omega
                have hha := fun W => rhas_any p (j : Int) W
                have hhe : hasK p (j : Int) = p.u.testBit j := by
                  have hd : decide ((0 : Int) ≤ (j : Int) ∧ (j : Int) < 16) = true := by simp; omega
                  unfold hasK
                  rw [hd, Int.toNat_natCast, Bool.true_and]
                rw [hhe] at hha
                clear hhe
                cases eb : p.u.testBit j
                · have hL1 : lowFree p.u N = some j := firstN_at hjN HOQ.out (by unfold freeBit; rw [eb]; rfl)
                  have hRm : room ps t c = some (k, j) := firstN_at hlt HOK.out (by rw [HFI.out, HRN.out, hL1]; rfl)
                  have hPl : place ps t c q = some (k, j) := by rw [HPL.out, hRm]
                  have hI : I = (k : Int) := by rw [HI.out, hPl]; rfl
                  have hK : K = (j : Int) := by rw [HK.out, hPl]; rfl
                  have hB : B = true := by rw [HB.out, hPl]; rfl
                  subst hI hK hB
                  rw [eb] at hha
                  clear hL1 hRm hPl eb
                  go_wp2_with (first
                    | (go_at_call 52; refine (hch _).mono ?_; rintro e w5 ⟨rfl, hwq⟩; obtain rfl := hwq)
                    | (go_at_call 53; refine (hha _).mono ?_; rintro e w5 ⟨rfl, hb5⟩))
                  go_ret3
                  exact ⟨rfl, HQW.out.trans (hb5.mono (Nat.le_of_lt s5))⟩
                · rw [eb] at hha
                  have HEB := Hid.mk2 eb
                  clear eb
                  go_wp2_with (first
                    | (go_at_call 52; refine (hch _).mono ?_; rintro e w5 ⟨rfl, hwq⟩; obtain rfl := hwq)
                    | (go_at_call 53; refine (hha _).mono ?_; rintro e w5 ⟨rfl, hb5⟩))
                  go_roundw
                  case rel => exact ⟨j + 1, by omega, by go_num, HQ.out.trans (hb5.mono hsq), fun i h => by
                    by_cases e : i = j
                    · subst e; unfold freeBit; rw [HEB.out]; rfl
                    · exact HOQ.out i (by omega)⟩
                  case measure => simp [intOf]; omega
              · have hjN2 : decide ((j : Int) < (N : Int)) = false := by simp; omega
                have HL1 : Hid (lowFree p.u N = none) := firstN_none (fun i hi => HOQ.out i (by omega))
                go_wp2_with (go_at_call 52; refine (hch _).mono ?_; rintro e w5 ⟨rfl, hwq⟩; obtain rfl := hwq)
                go_roundw
                case rel => exact ⟨k + 1, by omega, by go_num, HQW.out, s5, s4, HNX.out (by rw [HRN.out]; exact HL1.out)⟩
                case measure => simp [intOf]; omega
          · have g2 : (p.c != c) = true := by simp [ec]
            have HRN : Hid (roomP t c p = none) := by unfold roomP; rw [Hid, if_neg (by rintro ⟨_, _, h⟩; exact ec h)]
            clear ez et ec
            go_wp2_with (go_at_call 68; refine (hm _).mono ?_; rintro e w3 ⟨rfl, hb3⟩; have c3 := (below_cells hb3 _ 0 q5).trans q4; have z3 := Nat.lt_of_lt_of_le q5 hb3.size; have HB3 := Hid.mk2 (HBW.out.trans (hb3.mono (Nat.le_of_lt q5))); have v0 := (below_cells hb3 _ 0 q3).trans q0; have v1 := (below_cells hb3 _ 1 q3).trans q1; have v3 := Nat.lt_of_lt_of_le q3 hb3.size)
            go_roundw
            case rel => exact ⟨k + 1, by omega, by go_num, HB3.out, z3, c3, HNX.out HRN.out⟩
            case measure => simp [intOf]; omega
        · have g1 : (p.t != t) = true := by simp [et]
          have HRN : Hid (roomP t c p = none) := by unfold roomP; rw [Hid, if_neg (by rintro ⟨_, h, _⟩; exact et h)]
          clear ez et
          go_wp2_with (go_at_call 68; refine (hm _).mono ?_; rintro e w3 ⟨rfl, hb3⟩; have c3 := (below_cells hb3 _ 0 q5).trans q4; have z3 := Nat.lt_of_lt_of_le q5 hb3.size; have HB3 := Hid.mk2 (HBW.out.trans (hb3.mono (Nat.le_of_lt q5))); have v0 := (below_cells hb3 _ 0 q3).trans q0; have v3 := Nat.lt_of_lt_of_le q3 hb3.size)
          go_roundw
          case rel => exact ⟨k + 1, by omega, by go_num, HB3.out, z3, c3, HNX.out HRN.out⟩
          case measure => simp [intOf]; omega
    · have hlt2 : decide ((k : Int) < (ps.length : Int)) = false := by simp; omega
      have HRM : Hid (place ps t c q = if (O : Int) < q then (freeP ps).map (fun i => (i, 0)) else none) := by
        have h1 : room ps t c = none := firstN_none (fun i hi => HOK.out i (by omega))
        have h2 := HPL.out
        rw [h1] at h2
        exact h2
      obtain ⟨w2, hw2⟩ : ∃ w2, w2 = wr := ⟨_, rfl⟩
      rw [← hw2] at hbr hsz c0 ⊢
      have HBW := Hid.mk2 hbr
      clear hw2 hbr HPL HOK
      go_wp2
      go_loopw [14] (fun i wq => ∃ j : Nat, j ≤ ps.length ∧ i = .int .i64 j ∧ Hid (Below w2.heap.size w2 wq) ∧ Hid (∀ i, i < j → freeI ps i = none)) (fun i _ => ps.length - (intOf i).toNat)
      case atStart => exact ⟨0, Nat.zero_le _, rfl, Below.refl _ _, fun _ h => absurd h (by omega)⟩
      case round =>
        obtain ⟨j, hj, rfl, HQ, HOQ⟩ := hrel
        have hsq := HQ.out.size
        have s4 := (below_cells HQ.out _ 0 hsz).trans c0
        have s5 := Nat.lt_of_lt_of_le hsz hsq
        have HQW := Hid.mk2 (HBW.out.trans (HQ.out.mono (Nat.le_of_lt hsz)))
        by_cases hjl : j < ps.length
        · have hjl2 : (j : Int) < (ps.length : Int) := by omega
          have hjl3 : decide ((j : Int) < (ps.length : Int)) = true := by simp; omega
          have hjl4 : decide (j < ps.length) = true := by simp; omega
          by_cases hOq : (O : Int) < q
          · have g1 : decide ((O : Int) < q) = true := by simp [hOq]
            have hne : ps ≠ [] := by intro e; rw [e] at hjl; simp at hjl
            obtain ⟨b, off, rfl, hbl, hcs⟩ := HS.out.lies hne
            obtain ⟨p, hpe⟩ : ∃ p, p = ps[j] := ⟨_, rfl⟩
            have hL := hcs j hjl
            rw [← hpe] at hL
            obtain ⟨r0, r1, r2⟩ := hL.below HQW.out hbl
            have hbl2 : b < wr.heap.size := Nat.lt_trans hbl s5
            have HFI : Hid (freeI ps j = if p.u = 0 then some j else none) := by
              unfold freeI
              rw [Hid, List.getElem?_eq_getElem hjl, hpe]
            have hm := fun W => risFree_any p W
            clear hpe hL hcs hne
            by_cases ez : p.u = 0
            · have hPl : place ps t c q = some (j, 0) := by
                rw [HRM.out, if_pos hOq, show freeP ps = some j from firstN_at hjl HOQ.out (by rw [HFI.out, if_pos ez])]
                rfl
              have hI : I = (j : Int) := by rw [HI.out, hPl]; rfl
              have hK : K = 0 := by rw [HK.out, hPl]; rfl
              have hB : B = true := by rw [HB.out, hPl]; rfl
              subst hI hK hB
              rw [decide_eq_true ez] at hm
              have HEZ := Hid.mk2 ez
              clear ez hPl hOq
              go_wp2_with (first
                | (go_at_call 41; refine (HOW.out _ HQW.out).mono ?_; rintro e w5 ⟨rfl, hb5⟩; have u0 := (below_cells hb5 _ 0 s5).trans s4; have u1 := Nat.lt_of_lt_of_le s5 hb5.size; have t0 := (below_cells hb5 _ _ hbl2).trans r0; have t1 := (below_cells hb5 _ _ hbl2).trans r1; have t2 := (below_cells hb5 _ _ hbl2).trans r2; have t3 := Nat.lt_of_lt_of_le hbl2 hb5.size; have HB5 := Hid.mk2 (HQW.out.trans (hb5.mono (Nat.le_of_lt s5))); clear hb5)
                | (go_at_call 68; refine (hm _).mono ?_; rintro e w6 ⟨rfl, hb6⟩))
              go_ret3
              exact ⟨rfl, HB5.out.trans (hb6.mono (Nat.le_of_lt u1))⟩
            · rw [decide_eq_false ez] at hm
              have HEZ := Hid.mk2 ez
              clear ez hOq
              go_wp2_with (first
                | (go_at_call 41; refine (HOW.out _ HQW.out).mono ?_; rintro e w5 ⟨rfl, hb5⟩; have u0 := (below_cells hb5 _ 0 s5).trans s4; have u1 := Nat.lt_of_lt_of_le s5 hb5.size; have t0 := (below_cells hb5 _ _ hbl2).trans r0; have t1 := (below_cells hb5 _ _ hbl2).trans r1; have t2 := (below_cells hb5 _ _ hbl2).trans r2; have t3 := Nat.lt_of_lt_of_le hbl2 hb5.size; have HB5 := Hid.mk2 (HQ.out.trans (hb5.mono hsq)); have hs5 := hb5.size; clear hb5)
                | (go_at_call 68; refine (hm _).mono ?_; rintro e w6 ⟨rfl, hb6⟩))
              go_roundw
              case rel => exact ⟨j + 1, by omega, by go_num, HB5.out.trans (hb6.mono (Nat.le_trans hsq hs5)), fun i h => by
                by_cases e : i = j
                · subst e; rw [HFI.out, if_neg HEZ.out]
                · exact HOQ.out i (by omega)⟩
              case measure => simp [intOf]; omega
          · have g1 : decide ((O : Int) < q) = false := by simp; omega
            have hPl : place ps t c q = none := by rw [HRM.out, if_neg hOq]
            have hI : I = 0 := by rw [HI.out, hPl]; rfl
            have hK : K = 0 := by rw [HK.out, hPl]; rfl
            have hB : B = false := by rw [HB.out, hPl]; rfl
            subst hI hK hB
            clear hPl hOq
            go_wp2_with (go_at_call 41; refine (HOW.out _ HQW.out).mono ?_; rintro e w5 ⟨rfl, hb5⟩)
            go_ret3
            exact ⟨rfl, HQW.out.trans (hb5.mono (Nat.le_of_lt s5))⟩
        · have hjl2 : decide ((j : Int) < (ps.length : Int)) = false := by simp; omega
          have hjl4 : decide (j < ps.length) = false := by simp; omega
          have hPl : place ps t c q = none := by
            rw [HRM.out, show freeP ps = none from firstN_none (fun i hi => HOQ.out i (by omega))]
            split <;> rfl
          have hI : I = 0 := by rw [HI.out, hPl]; rfl
          have hK : K = 0 := by rw [HK.out, hPl]; rfl
          have hB : B = false := by rw [HB.out, hPl]; rfl
          subst hI hK hB
          clear hPl
          go_wp2
          go_ret3
          exact ⟨rfl, HQW.out⟩
end Go.Proofs.Ytkcgleahbhmggaa
