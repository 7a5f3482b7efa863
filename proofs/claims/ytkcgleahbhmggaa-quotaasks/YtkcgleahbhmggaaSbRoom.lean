/-
  Contract of room.
-/
import Derived.Test.YtkcgleahbhmggaaSbCheck
import Derived.WalkMore
namespace Go.Proofs.Ytkcgleahbhmggaa
open Go.RowKit
set_option linter.unusedSimpArgs false
set_option linter.unusedVariables false
set_option maxRecDepth 100000

def optP (o : Option (Nat × Nat)) : Int := match o with
  | some (i, _) => (i : Int)
  | none => 0
def optK (o : Option (Nat × Nat)) : Int := match o with
  | some (_, k) => (k : Int)
  | none => 0
set_option maxHeartbeats 1000000 in
theorem room_any (w : World) (ao : Option Addr) (ps : List Pg) (cap : Nat) (h : Sb w ao ps cap) (hl : ps.length ≤ 1000) (t c : Int) (hc : isC c = true) :
    Calls Try.prog 57 #[.agg #[.slice ao ps.length cap], .int .i64 t, .int .i64 c] w fun e w' => e = .returned (.tuple #[.int .i64 (optP (room ps t c)), .int .i64 (optK (room ps t c)), .bool (room ps t c).isSome]) ∧ Below w.heap.size w w' := by
  have HS := Hid.mk2 h
  clear h
  obtain ⟨I, hI⟩ : ∃ I, I = optP (room ps t c) := ⟨_, rfl⟩
  obtain ⟨K, hK⟩ : ∃ K, K = optK (room ps t c) := ⟨_, rfl⟩
  obtain ⟨B, hB⟩ : ∃ B, B = (room ps t c).isSome := ⟨_, rfl⟩
  rw [← hI, ← hK, ← hB]
  have HI := Hid.mk2 hI
  have HK := Hid.mk2 hK
  have HB := Hid.mk2 hB
  have hch := fun W => chunksOf_any c W hc
  have hcl := chunks_le hc
  obtain ⟨N, hN⟩ : ∃ N, N = chunks c := ⟨_, rfl⟩
  rw [← hN] at hch hcl
  have HN := Hid.mk2 hN
  clear hI hK hB hN hc
  go_enter Try.func57, Try.ntmps57
  go_wp2
  go_step3
  go_wp2_with (go_at_call 62; refine (hch _).mono ?_; rintro e w2 ⟨rfl, rfl⟩)
  go_step3
  go_wp2
  go_loopw [6, 7, 8, 18] (fun o1 o2 o3 i wr => ∃ k : Nat, k ≤ ps.length ∧ i = .int .i64 k ∧ o1 = .int .i64 0 ∧ o2 = .int .i64 0 ∧ o3 = .bool false ∧ Below w.heap.size w wr ∧ w.heap.size < wr.heap.size ∧ Hid (∀ i, i < k → roomI ps t c i = none)) (fun _ _ _ i _ => ps.length - (intOf i).toNat)
  case atStart => exact ⟨0, Nat.zero_le _, rfl, rfl, rfl, rfl, (Below.refl _ _).alloc (Nat.le_refl _) _, by simp, fun _ h => absurd h (by omega)⟩
  case round =>
    obtain ⟨k, hk, rfl, rfl, rfl, rfl, hbr, hsz, HOK⟩ := hrel
    by_cases hlt : k < ps.length
    · have hlt2 : (k : Int) < (ps.length : Int) := by omega
      have hne : ps ≠ [] := by intro e; rw [e] at hlt; simp at hlt
      obtain ⟨b, off, rfl, hbl, hcs⟩ := HS.out.lies hne
      obtain ⟨p, hpe⟩ : ∃ p, p = ps[k] := ⟨_, rfl⟩
      have hL := hcs k hlt
      rw [← hpe] at hL
      have HPE := Hid.mk2 hpe
      obtain ⟨r0, r1, r2⟩ := hL.below hbr hbl
      have hbl2 : b < wr.heap.size := by omega
      clear hpe hL hcs hne
      have hm := fun W => isOf_any p t W
      have hfi : roomI ps t c k = (roomP t c p).map (fun j => (k, j)) := by
        unfold roomI
        rw [List.getElem?_eq_getElem hlt, HPE.out]
      have HFI := Hid.mk2 hfi
      clear hfi
      cases ep : isOf t p
      · have hrn : roomP t c p = none := by
          unfold roomP
          rw [if_neg]
          rintro ⟨h1, h2, h3⟩
          simp [isOf, h1, h2] at ep
        have HRN := Hid.mk2 hrn
        clear hrn
        rw [ep] at hm
        go_wp2_with (go_at_call 61; refine (hm _).mono ?_; rintro e w2 ⟨rfl, hb2⟩)
        go_roundw
        case rel => exact ⟨k + 1, by omega, by go_num, rfl, rfl, rfl, hbr.trans ((below_alloc hb2).mono (by omega)), by have := (below_alloc hb2).size; omega, fun i h => by
          by_cases e : i = k
          · subst e; rw [HFI.out, HRN.out]; rfl
          · exact HOK.out i (by omega)⟩
        case measure => simp [intOf]; omega
      · rw [ep] at hm
        by_cases ec : p.c = c
        · have hrn : roomP t c p = lowFree p.u N := by
            unfold roomP
            rw [if_pos, HN.out]
            simp [isOf] at ep
            exact ⟨ep.1, ep.2, ec⟩
          have HRN := Hid.mk2 hrn
          have hec : (p.c != c) = false := by simp [ec]
          have HEC := Hid.mk2 ec
          clear hrn ec
          go_wp2_with (go_at_call 61; refine (hm _).mono ?_; rintro e w2 ⟨rfl, hb2⟩; have y0 : w2.cell? ⟨wr.heap.size, 0, none⟩ = some (.int .i64 p.t) := (below_cells hb2 _ _ (by simp)).trans (by simp); have y1 : w2.cell? ⟨wr.heap.size, 1, none⟩ = some (.int .i64 p.c) := (below_cells hb2 _ _ (by simp)).trans (by simp); have y2 : w2.cell? ⟨wr.heap.size, 2, none⟩ = some (.int .u16 p.u) := (below_cells hb2 _ _ (by simp)).trans (by simp); have hx : wr.heap.size < w2.heap.size := by (have := hb2.size; simp at this; omega))
          have HB2 := Hid.mk2 hb2
          clear hb2
          go_loopw [6, 7, 8, 34] (fun o1 o2 o3 i wq => ∃ q : Nat, q ≤ N ∧ i = .int .i64 q ∧ o1 = .int .i64 0 ∧ o2 = .int .i64 0 ∧ o3 = .bool false ∧ Below w2.heap.size w2 wq ∧ Hid (∀ i, i < q → freeBit p.u i = none)) (fun _ _ _ i _ => N - (intOf i).toNat)
          case atStart => exact ⟨0, Nat.zero_le _, rfl, rfl, rfl, rfl, Below.refl _ _, fun _ h => absurd h (by omega)⟩
          case round =>
            obtain ⟨q, hq, rfl, rfl, rfl, rfl, hbq, HOQ⟩ := hrel
            have x0 := (below_cells hbq _ 0 hx).trans y0
            have x1 := (below_cells hbq _ 1 hx).trans y1
            have x2 := (below_cells hbq _ 2 hx).trans y2
            have hsq := hbq.size
            have hx2 := Nat.lt_of_lt_of_le hx hsq
            have HQ : Hid (Below w.heap.size w wr) := hbr.trans (((below_alloc HB2.out).mono (by omega)).trans (hbq.mono (by omega)))
            by_cases hqN : q < N
            · have hqN2 : (q : Int) < (N : Int) := by omega
              have hu := fun W => isUsed_any p q W (by omega)
              cases eu : p.u.testBit q
              · have hL1 : lowFree p.u N = some q := firstN_at hqN HOQ.out (by unfold freeBit; rw [eu]; rfl)
                have hP : room ps t c = some (k, q) := firstN_at hlt HOK.out (by rw [HFI.out, HRN.out, hL1]; rfl)
                have hI : I = (k : Int) := by rw [HI.out, hP]; rfl
                have hK : K = (q : Int) := by rw [HK.out, hP]; rfl
                have hB : B = true := by rw [HB.out, hP]; rfl
                subst hI hK hB
                rw [eu] at hu
                clear hP hL1 eu
                go_wp2_with (go_at_call 63; refine (hu _).mono ?_; rintro e w3 ⟨rfl, hb3⟩)
                try rw [Exit.noGoto_ret]
                go_ret3
                exact ⟨rfl, HQ.out.trans (hb3.mono (by omega))⟩
              · rw [eu] at hu
                have HEU := Hid.mk2 eu
                clear eu
                go_wp2_with (go_at_call 63; refine (hu _).mono ?_; rintro e w3 ⟨rfl, hb3⟩)
                go_roundw
                case rel => exact ⟨q + 1, by omega, by go_num, rfl, rfl, rfl, hbq.trans (hb3.mono (by omega)), fun i h => by
                  by_cases e : i = q
                  · subst e; unfold freeBit; rw [HEU.out]; rfl
                  · exact HOQ.out i (by omega)⟩
                case measure => simp [intOf]; omega
            · have hqN2 : decide ((q : Int) < (N : Int)) = false := by simp; omega
              have HL1 : Hid (lowFree p.u N = none) := firstN_none (fun i hi => HOQ.out i (by omega))
              go_wp2
              go_roundw
              case rel => exact ⟨k + 1, by omega, by go_num, rfl, rfl, rfl, HQ.out, by omega, fun i h => by
                by_cases e : i = k
                · subst e; rw [HFI.out, HRN.out, HL1.out]; rfl
                · exact HOK.out i (by omega)⟩
              case measure => simp [intOf]; omega
        · have hrn : roomP t c p = none := by
            unfold roomP
            rw [if_neg]
            rintro ⟨h1, h2, h3⟩
            exact ec h3
          have HRN := Hid.mk2 hrn
          have hec : (p.c != c) = true := by simp [ec]
          clear hrn ec
          go_wp2_with (go_at_call 61; refine (hm _).mono ?_; rintro e w2 ⟨rfl, hb2⟩; have y0 : w2.cell? ⟨wr.heap.size, 0, none⟩ = some (.int .i64 p.t) := (below_cells hb2 _ _ (by simp)).trans (by simp); have y1 : w2.cell? ⟨wr.heap.size, 1, none⟩ = some (.int .i64 p.c) := (below_cells hb2 _ _ (by simp)).trans (by simp); have y2 : w2.cell? ⟨wr.heap.size, 2, none⟩ = some (.int .u16 p.u) := (below_cells hb2 _ _ (by simp)).trans (by simp); have hx : wr.heap.size < w2.heap.size := by (have := hb2.size; simp at this; omega))
          go_roundw
          case rel => exact ⟨k + 1, by omega, by go_num, rfl, rfl, rfl, hbr.trans ((below_alloc hb2).mono (by omega)), by have := (below_alloc hb2).size; omega, fun i h => by
            by_cases e : i = k
            · subst e; rw [HFI.out, HRN.out]; rfl
            · exact HOK.out i (by omega)⟩
          case measure => simp [intOf]; omega
    · have hlt2 : decide ((k : Int) < (ps.length : Int)) = false := by simp; omega
      have hP : room ps t c = none := firstN_none (fun i hi => HOK.out i (by omega))
      have hI : I = 0 := by rw [HI.out, hP]; rfl
      have hK : K = 0 := by rw [HK.out, hP]; rfl
      have hB : B = false := by rw [HB.out, hP]; rfl
      subst hI hK hB
      clear hP
      go_wp2
      try rw [Exit.noGoto_ret]
      go_ret3
      exact ⟨rfl, hbr⟩
end Go.Proofs.Ytkcgleahbhmggaa
