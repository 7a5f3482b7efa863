/-
  doneOf of package words.
-/
import Derived.Test.YtihcnjbnlcgcoaaDoorWoL
namespace Go.Proofs.YtihcnjbnlcgcoaaDoor
open Go.Proofs.YtihcnjbnlcgcoaaDoor.It
open Go.RowKit
set_option linter.unusedSimpArgs false
set_option linter.unusedVariables false
set_option maxRecDepth 100000

/-- what is answered of a result that a line tells -/
structure ResR (w w' : World) (o : Option (Int × Int)) (e : Ending) : Prop where
  ex : ∃ (rk num : Int) (b : Bool), e = .returned (.tuple #[.agg #[.int .u8 rk, .slice none 0 0, .int .u64 num], .bool b]) ∧ ((b = true ∧ o = some (rk, num)) ∨ (b = false ∧ o = none))
  below : Below w.heap.size w w'
theorem sne_b {s t : ByteArray} (h : ¬ s = t) : (s.toList == t.toList) = false := by
  rw [ByteArray.toList_eq, ByteArray.toList_eq]
  simp only [beq_eq_false_iff_ne, ne_eq]
  intro e
  exact h (by cases s; cases t; simp at e ⊢; exact e)
def rez : List Value := [.int .u8 0, .slice none 0 0, .int .u64 0]

set_option maxHeartbeats 2000000 in
theorem wdoneOf_any (s : ByteArray) (of_ : Int) (V : World) :
    Calls Tryd.prog 81 #[.string s, .int .u8 of_] V fun e V' => ResR V V' (doneOf of_ s) e := by
  obtain ⟨W, hW⟩ : ∃ W, W = V.alloc (.cells #[.int .u8 0, .slice none 0 0, .int .u64 0] 25) := ⟨_, rfl⟩
  have HB : Hid (Below V.heap.size V W) := by rw [hW]; exact g_alloc _ _
  have HX : Hid (GBx W V.heap.size rez) := by rw [hW]; exact GBx.made V rez _
  have HM := Hid.mk2 (fun W => wmostNumber_any of_ W)
  have HD := Hid.mk2 (fun W => wdoneWord_any of_ W)
  have HDO : Hid (doneOf of_ s = if mostN of_ = 0 then (if s = doneW of_ then some (1, 0) else none) else if (bl s).take ((bl (doneW of_)).length + 1) = bl (doneW of_) ++ [32] ∧ numU (mostN of_).toNat (mkB ((bl s).drop ((bl (doneW of_)).length + 1))) = true then some (1, (numV ((bl s).drop ((bl (doneW of_)).length + 1)) : Int)) else none) := rfl
  obtain ⟨O, hO⟩ : ∃ O, O = doneOf of_ s := ⟨_, rfl⟩
  rw [← hO] at HDO ⊢
  clear hO
  by_cases h0 : mostN of_ = 0
  · rw [h0] at HM
    rw [if_pos h0] at HDO
    obtain ⟨D, hD⟩ : ∃ D, D = doneW of_ := ⟨_, rfl⟩
    rw [← hD] at HD HDO
    clear h0 hD
    have z0 := HX.out.c 0 (by simp [rez])
    have z1 := HX.out.c 1 (by simp [rez])
    have z2 := HX.out.c 2 (by simp [rez])
    simp only [rez, List.getElem_cons_zero, List.getElem_cons_succ] at z0 z1 z2
    have zf0 := HX.out.f 0
    have zf1 := HX.out.f 1
    have zf2 := HX.out.f 2
    have zlt := HX.out.lt
    by_cases hs : s = D
    · subst hs
      rw [if_pos rfl] at HDO
      have q1 : (s.toList == s.toList) = true := by simp
      go_enter Tryd.func81, Tryd.ntmps81
      go_upto_region 1 with (fail)
      rw [← hW]
      clear hW
      go_wp2_with (first
        | (go_at_call 72; refine (HM.out _).mono ?_; rintro e w1 ⟨rfl, rfl⟩)
        | (go_at_call 73; refine (HD.out _).mono ?_; rintro e w2 ⟨rfl, rfl⟩))
      refine bodyPost_ret (res_cell rfl rfl (load_var (zset3 HX.out rfl _ _ _) 25 _ Tryd.underlying25 rfl result_info)) rfl ?_
      exact ⟨⟨1, 0, true, rfl, .inl ⟨rfl, HDO.out⟩⟩, zbelow3 HB.out (Nat.le_refl _) _ _ _⟩
    · rw [if_neg hs] at HDO
      have q1 : (s.toList == D.toList) = false := sne_b hs
      clear hs
      go_enter Tryd.func81, Tryd.ntmps81
      go_upto_region 1 with (fail)
      rw [← hW]
      clear hW
      go_wp2_with (first
        | (go_at_call 72; refine (HM.out _).mono ?_; rintro e w1 ⟨rfl, rfl⟩)
        | (go_at_call 73; refine (HD.out _).mono ?_; rintro e w2 ⟨rfl, rfl⟩))
      refine bodyPost_ret (res_cell rfl rfl (load_var (zset3 HX.out rfl _ _ _) 25 _ Tryd.underlying25 rfl result_info)) rfl ?_
      exact ⟨⟨1, 0, false, rfl, .inr ⟨rfl, HDO.out⟩⟩, zbelow3 HB.out (Nat.le_refl _) _ _ _⟩
  · rw [if_neg h0] at HDO
    have hM : ∃ M : Nat, mostN of_ = (M : Int) ∧ M < 18446744073709551616 := by
      unfold mostN
      split
      · exact ⟨18446744073709551615, rfl, by decide⟩
      · split
        · exact ⟨8, rfl, by decide⟩
        · exact ⟨0, rfl, by decide⟩
    obtain ⟨M, hMe, hMl⟩ := hM
    rw [hMe] at HM HDO h0
    rw [Int.toNat_natCast] at HDO
    have hM0 : ((M : Int) == 0) = false := by simpa using h0
    have hsz : (doneW of_).size ≤ 10 := by
      unfold doneW
      repeat' split
      all_goals decide
    obtain ⟨D, hD⟩ : ∃ D, D = doneW of_ := ⟨_, rfl⟩
    rw [← hD] at HD HDO hsz
    have hszn : ¬ 9223372036854775807 < D.size + 1 := by omega
    clear hD hMe hsz
    have hbl : bl (D ++ ⟨#[32]⟩) = bl D ++ [32] := by
      unfold bl
      simp
    have hll : (bl (D ++ ⟨#[32]⟩)).length = (bl D).length + 1 := by rw [hbl]; simp
    have hcp := fun W => wcutPre_any s (D ++ ⟨#[32]⟩) W
    rw [hbl] at hcp
    have hl2 : (bl D ++ ([32] : List UInt8)).length = (bl D).length + 1 := by simp
    rw [hl2] at hcp
    clear hbl hll
    by_cases hp : (bl s).take ((bl D).length + 1) = bl D ++ [32]
    · simp only [if_pos hp] at hcp
      have HCP := Hid.mk2 hcp
      obtain ⟨T, hT⟩ : ∃ T, T = mkB ((bl s).drop ((bl D).length + 1)) := ⟨_, rfl⟩
      have hbT : bl T = (bl s).drop ((bl D).length + 1) := by rw [hT]; exact bl_mk _
      have hnu := fun W => wnumberUpTo_any M hMl T W
      rw [← hT] at HCP HDO
      rw [hbT] at hnu
      obtain ⟨N, hN⟩ : ∃ N, N = numV ((bl s).drop ((bl D).length + 1)) := ⟨_, rfl⟩
      rw [← hN] at hnu HDO
      obtain ⟨BB, hBB⟩ : ∃ BB, BB = numU M T := ⟨_, rfl⟩
      rw [← hBB] at hnu HDO
      have HNU := Hid.mk2 hnu
      clear hcp hT hbT hnu hN hBB hMl
      cases BB with
      | true =>
        rw [if_pos ⟨hp, rfl⟩] at HDO
        clear hp
        go_enter Tryd.func81, Tryd.ntmps81
        go_upto_region 1 with (fail)
        rw [← hW]
        clear hW
        go_wp2_with (first
          | (go_at_call 72; refine (HM.out _).mono ?_; rintro e w1 ⟨rfl, rfl⟩)
          | (go_at_call 73; refine (HD.out _).mono ?_; rintro e w2 ⟨rfl, rfl⟩)
          | (go_at_call 64; refine (HCP.out _).mono ?_; rintro e w3 ⟨rfl, rfl⟩)
          | (go_at_call 67; refine (HNU.out _).mono ?_; rintro e w4 ⟨rfl, hb4⟩; have HX4 := Hid.mk2 (HX.out.below hb4); have HB4 := Hid.mk2 (g_on HB.out hb4); have z0 := HX4.out.c 0 (by simp [rez]); have z1 := HX4.out.c 1 (by simp [rez]); have z2 := HX4.out.c 2 (by simp [rez]); simp only [rez, List.getElem_cons_zero, List.getElem_cons_succ] at z0 z1 z2; have zf0 := HX4.out.f 0; have zf1 := HX4.out.f 1; have zf2 := HX4.out.f 2; have zlt := HX4.out.lt; clear hb4))
        refine bodyPost_ret (res_cell rfl rfl (load_var (zset3 HX4.out rfl _ _ _) 25 _ Tryd.underlying25 rfl result_info)) rfl ?_
        exact ⟨⟨1, N, true, rfl, .inl ⟨rfl, HDO.out⟩⟩, zbelow3 HB4.out (Nat.le_refl _) _ _ _⟩
      | false =>
        rw [if_neg (by rintro ⟨_, h⟩; cases h)] at HDO
        clear hp
        go_enter Tryd.func81, Tryd.ntmps81
        go_upto_region 1 with (fail)
        rw [← hW]
        clear hW
        go_wp2_with (first
          | (go_at_call 72; refine (HM.out _).mono ?_; rintro e w1 ⟨rfl, rfl⟩)
          | (go_at_call 73; refine (HD.out _).mono ?_; rintro e w2 ⟨rfl, rfl⟩)
          | (go_at_call 64; refine (HCP.out _).mono ?_; rintro e w3 ⟨rfl, rfl⟩)
          | (go_at_call 67; refine (HNU.out _).mono ?_; rintro e w4 ⟨rfl, hb4⟩; have HX4 := Hid.mk2 (HX.out.below hb4); have HB4 := Hid.mk2 (g_on HB.out hb4); have z0 := HX4.out.c 0 (by simp [rez]); have z1 := HX4.out.c 1 (by simp [rez]); have z2 := HX4.out.c 2 (by simp [rez]); simp only [rez, List.getElem_cons_zero, List.getElem_cons_succ] at z0 z1 z2; have zf0 := HX4.out.f 0; have zf1 := HX4.out.f 1; have zf2 := HX4.out.f 2; have zlt := HX4.out.lt; clear hb4))
        refine bodyPost_ret (res_cell rfl rfl (load_var (zset3 HX4.out rfl _ _ _) 25 _ Tryd.underlying25 rfl result_info)) rfl ?_
        exact ⟨⟨1, N, false, rfl, .inr ⟨rfl, HDO.out⟩⟩, zbelow3 HB4.out (Nat.le_refl _) _ _ _⟩
    · simp only [if_neg hp] at hcp
      have HCP := Hid.mk2 hcp
      rw [if_neg (fun h => hp h.1)] at HDO
      have HNU := Hid.mk2 (fun W => wnumberUpTo_any M hMl s W)
      obtain ⟨N, hN⟩ : ∃ N, N = numV (bl s) := ⟨_, rfl⟩
      obtain ⟨BB, hBB⟩ : ∃ BB, BB = numU M s := ⟨_, rfl⟩
      rw [← hN, ← hBB] at HNU
      clear hcp hN hBB hMl hp
      go_enter Tryd.func81, Tryd.ntmps81
      go_upto_region 1 with (fail)
      rw [← hW]
      clear hW
      go_wp2_with (first
        | (go_at_call 72; refine (HM.out _).mono ?_; rintro e w1 ⟨rfl, rfl⟩)
        | (go_at_call 73; refine (HD.out _).mono ?_; rintro e w2 ⟨rfl, rfl⟩)
        | (go_at_call 64; refine (HCP.out _).mono ?_; rintro e w3 ⟨rfl, rfl⟩)
        | (go_at_call 67; refine (HNU.out _).mono ?_; rintro e w4 ⟨rfl, hb4⟩; have HX4 := Hid.mk2 (HX.out.below hb4); have HB4 := Hid.mk2 (g_on HB.out hb4); have z0 := HX4.out.c 0 (by simp [rez]); have z1 := HX4.out.c 1 (by simp [rez]); have z2 := HX4.out.c 2 (by simp [rez]); simp only [rez, List.getElem_cons_zero, List.getElem_cons_succ] at z0 z1 z2; have zf0 := HX4.out.f 0; have zf1 := HX4.out.f 1; have zf2 := HX4.out.f 2; have zlt := HX4.out.lt; clear hb4))
      refine bodyPost_ret (res_cell rfl rfl (load_var (zset3 HX4.out rfl _ _ _) 25 _ Tryd.underlying25 rfl result_info)) rfl ?_
      exact ⟨⟨1, N, false, rfl, .inr ⟨rfl, HDO.out⟩⟩, zbelow3 HB4.out (Nat.le_refl _) _ _ _⟩
end Go.Proofs.YtihcnjbnlcgcoaaDoor
