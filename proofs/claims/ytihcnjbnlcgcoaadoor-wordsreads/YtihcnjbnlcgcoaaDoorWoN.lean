/-
  resultOf of package words.
-/
import Derived.Test.YtihcnjbnlcgcoaaDoorWoM
namespace Go.Proofs.YtihcnjbnlcgcoaaDoor
open Go.Proofs.YtihcnjbnlcgcoaaDoor.It
open Go.RowKit
set_option linter.unusedSimpArgs false
set_option linter.unusedVariables false
set_option maxRecDepth 100000

/-- the words of results lie as their text lays them -/
structure Rt (V : World) : Prop where
  at_ : ∀ i : Nat, i < 8 → V.cell? ⟨1, i, none⟩ = some (.string (resW i))
theorem Rt.below {V V' : World} (h : Rt V) (hb : Below V.heap.size V V') : Rt V' :=
  ⟨fun i hi => (hb.cell (p := ⟨1, i, none⟩) (World.block_lt_of_cell? _ _ (h.at_ i hi))).trans (h.at_ i hi)⟩

set_option maxHeartbeats 4000000 in
theorem wresultOf_any (s : ByteArray) (of_ : Int) (V : World) (hr : Rt V) :
    Calls Tryd.prog 66 #[.string s, .int .u8 of_] V fun e V' => ResR V V' (resOf of_ s) e := by
  obtain ⟨W, hW⟩ : ∃ W, W = V.alloc (.cells #[.int .u8 0, .slice none 0 0, .int .u64 0] 25) := ⟨_, rfl⟩
  have hB0 : Below V.heap.size V W := by rw [hW]; exact g_alloc _ _
  have HB : Hid (Below V.heap.size V W) := hB0
  have HX : Hid (GBx W V.heap.size rez) := by rw [hW]; exact GBx.made V rez _
  have hrt := (hr.below hB0).at_
  have HC := Hid.mk2 (fun W => wisCommand_any of_ W)
  have HD := Hid.mk2 (fun W => wdoneOf_any s of_ W)
  have HRO : Hid (resOf of_ s = if isCmd of_ = false then none else if s = sNOTFOUND then some (2, 0) else if s = sEXISTS then some (3, 0) else if s = sTOOLARGE then some (4, 0) else if s = sNOMEMORY then some (5, 0) else if s = sNOTNUMBER then some (6, 0) else if s = sDENIED then some (7, 0) else doneOf of_ s) := rfl
  obtain ⟨O, hO⟩ : ∃ O, O = resOf of_ s := ⟨_, rfl⟩
  obtain ⟨D, hD⟩ : ∃ D, D = doneOf of_ s := ⟨_, rfl⟩
  rw [← hO, ← hD] at HRO
  rw [← hO]
  rw [← hD] at HD
  obtain ⟨IC, hIC⟩ : ∃ IC, IC = isCmd of_ := ⟨_, rfl⟩
  rw [← hIC] at HC HRO
  clear hO hD hIC hB0 hr
  have z0 := HX.out.c 0 (by simp [rez])
  have z1 := HX.out.c 1 (by simp [rez])
  have z2 := HX.out.c 2 (by simp [rez])
  simp only [rez, List.getElem_cons_zero, List.getElem_cons_succ] at z0 z1 z2
  have zf0 := HX.out.f 0
  have zf1 := HX.out.f 1
  have zf2 := HX.out.f 2
  have zlt := HX.out.lt
  cases IC with
  | false =>
    have HO : Hid (O = none) := by show _ = _; rw [HRO.out, if_pos rfl]
    clear hrt HRO
    go_enter Tryd.func66, Tryd.ntmps66
    go_upto_region 1 with (fail)
    rw [← hW]
    clear hW
    go_wp2_with (go_at_call 75; refine (HC.out _).mono ?_; rintro e w1 ⟨rfl, rfl⟩)
    refine bodyPost_ret (res_cell rfl rfl (load_var (zset3 HX.out rfl _ _ _) 25 _ Tryd.underlying25 rfl result_info)) rfl ?_
    exact ⟨⟨0, 0, false, rfl, .inr ⟨rfl, HO.out⟩⟩, zbelow3 HB.out (Nat.le_refl _) _ _ _⟩
  | true =>
    have HRO2 := Hid.mk2 (HRO.out.trans (if_neg (by decide)))
    clear HRO
    have c0 : W.cell? ⟨1, 0, none⟩ = some (.string ⟨#[]⟩) := hrt 0 (by decide)
    have c1 : W.cell? ⟨1, 1, none⟩ = some (.string ⟨#[]⟩) := hrt 1 (by decide)
    have c2 : W.cell? ⟨1, 2, none⟩ = some (.string sNOTFOUND) := hrt 2 (by decide)
    have c3 : W.cell? ⟨1, 3, none⟩ = some (.string sEXISTS) := hrt 3 (by decide)
    have c4 : W.cell? ⟨1, 4, none⟩ = some (.string sTOOLARGE) := hrt 4 (by decide)
    have c5 : W.cell? ⟨1, 5, none⟩ = some (.string sNOMEMORY) := hrt 5 (by decide)
    have c6 : W.cell? ⟨1, 6, none⟩ = some (.string sNOTNUMBER) := hrt 6 (by decide)
    have c7 : W.cell? ⟨1, 7, none⟩ = some (.string sDENIED) := hrt 7 (by decide)
    clear hrt
    go_enter Tryd.func66, Tryd.ntmps66
    go_upto_region 1 with (fail)
    rw [← hW]
    clear hW
    go_wp2_with (go_at_call 75; refine (HC.out _).mono ?_; rintro e w1 ⟨rfl, rfl⟩)
    go_loopw [6, 7, 13] (fun _ _ s13 wr => ∃ j : Int, s13 = .int .i64 j ∧ 0 ≤ j ∧ j ≤ 8 ∧ wr = w1 ∧ ∀ i : Nat, 2 ≤ i → (i : Int) < j → ¬ s = resW i) (fun _ _ s13 _ => 8 - (intOf s13).toNat)
    case atStart => exact ⟨0, by first | rfl | simp, by decide, by decide, by first | rfl | trivial, fun i _ h => by omega⟩
    case round =>
      obtain ⟨j, rfl, hj0, hj, rfl, hno⟩ := hrel
      have hcases : j = 0 ∨ j = 1 ∨ j = 2 ∨ j = 3 ∨ j = 4 ∨ j = 5 ∨ j = 6 ∨ j = 7 ∨ j = 8 := by omega
      have HNO := Hid.mk2 hno
      clear hj0 hj hno
      rcases hcases with rfl | rfl | rfl | rfl | rfl | rfl | rfl | rfl | rfl
      · by_cases he : s = ⟨#[]⟩
        · subst he
          have q1 : ((⟨#[]⟩ : ByteArray).toList == (⟨#[]⟩ : ByteArray).toList) = true := by simp
          go_wp2
          rename_i hK
          refine hK _ _ ?_
          change wpList Tryd.prog _ _ _ (Act.put _ _ (.string ⟨#[]⟩)) _
          clear hK
          go_wp2
          all_goals exact ⟨⟨1, by first | rfl | simp, by decide, by decide, by first | rfl | trivial, fun i h1 h2 => by omega⟩, by simp [intOf]⟩
        · have q1 : ((⟨#[]⟩ : ByteArray).toList == s.toList) = false := sne_b (fun e => he e.symm)
          go_wp2
          rename_i hK
          refine hK _ _ ?_
          change wpList Tryd.prog _ _ _ (Act.put _ _ (.string ⟨#[]⟩)) _
          clear hK
          go_wp2
          all_goals exact ⟨⟨1, by first | rfl | simp, by decide, by decide, by first | rfl | trivial, fun i h1 h2 => by omega⟩, by simp [intOf]⟩
      · by_cases he : s = ⟨#[]⟩
        · subst he
          have q1 : ((⟨#[]⟩ : ByteArray).toList == (⟨#[]⟩ : ByteArray).toList) = true := by simp
          go_wp2
          rename_i hK
          refine hK _ _ ?_
          change wpList Tryd.prog _ _ _ (Act.put _ _ (.string ⟨#[]⟩)) _
          clear hK
          go_wp2
          all_goals exact ⟨⟨2, by first | rfl | simp, by decide, by decide, by first | rfl | trivial, fun i h1 h2 => by omega⟩, by simp [intOf]⟩
        · have q1 : ((⟨#[]⟩ : ByteArray).toList == s.toList) = false := sne_b (fun e => he e.symm)
          go_wp2
          rename_i hK
          refine hK _ _ ?_
          change wpList Tryd.prog _ _ _ (Act.put _ _ (.string ⟨#[]⟩)) _
          clear hK
          go_wp2
          all_goals exact ⟨⟨2, by first | rfl | simp, by decide, by decide, by first | rfl | trivial, fun i h1 h2 => by omega⟩, by simp [intOf]⟩
      · by_cases he : s = sNOTFOUND
        · have q1 : (sNOTFOUND.toList == s.toList) = true := by rw [he]; simp
          have q2 : sNOTFOUND.toList.isEmpty = false := by rw [ByteArray.toList_eq]; rfl
          have HO : Hid (O = some (2, 0)) := by show _ = _; rw [HRO2.out, if_pos he]
          clear he HRO2 HNO
          go_wp2
          rename_i hK
          refine hK _ _ ?_
          change wpList Tryd.prog _ _ _ (Act.put _ _ (.string sNOTFOUND)) _
          clear hK
          go_wp2
          refine bodyPost_ret (res_cell rfl rfl (load_var (zset3 HX.out rfl _ _ _) 25 _ Tryd.underlying25 rfl result_info)) rfl ?_
          exact ⟨⟨2, 0, true, rfl, .inl ⟨rfl, HO.out⟩⟩, zbelow3 HB.out (Nat.le_refl _) _ _ _⟩
        · have q1 : (sNOTFOUND.toList == s.toList) = false := sne_b (fun e => he e.symm)
          have HE := Hid.mk2 he
          clear he
          go_wp2
          rename_i hK
          refine hK _ _ ?_
          change wpList Tryd.prog _ _ _ (Act.put _ _ (.string sNOTFOUND)) _
          clear hK
          go_wp2
          all_goals exact ⟨⟨3, by first | rfl | simp, by decide, by decide, by first | rfl | trivial, fun i h1 h2 => by
            rcases Nat.lt_or_ge i 2 with h | h
            · exact HNO.out i h1 (by omega)
            · have : i = 2 := by omega
              subst this; exact HE.out⟩, by simp [intOf]⟩
      · by_cases he : s = sEXISTS
        · have q1 : (sEXISTS.toList == s.toList) = true := by rw [he]; simp
          have q2 : sEXISTS.toList.isEmpty = false := by rw [ByteArray.toList_eq]; rfl
          have HO : Hid (O = some (3, 0)) := by show _ = _; rw [HRO2.out, if_neg (show ¬ s = sNOTFOUND from HNO.out 2 (by decide) (by decide)), if_pos he]
          clear he HRO2 HNO
          go_wp2
          rename_i hK
          refine hK _ _ ?_
          change wpList Tryd.prog _ _ _ (Act.put _ _ (.string sEXISTS)) _
          clear hK
          go_wp2
          refine bodyPost_ret (res_cell rfl rfl (load_var (zset3 HX.out rfl _ _ _) 25 _ Tryd.underlying25 rfl result_info)) rfl ?_
          exact ⟨⟨3, 0, true, rfl, .inl ⟨rfl, HO.out⟩⟩, zbelow3 HB.out (Nat.le_refl _) _ _ _⟩
        · have q1 : (sEXISTS.toList == s.toList) = false := sne_b (fun e => he e.symm)
          have HE := Hid.mk2 he
          clear he
          go_wp2
          rename_i hK
          refine hK _ _ ?_
          change wpList Tryd.prog _ _ _ (Act.put _ _ (.string sEXISTS)) _
          clear hK
          go_wp2
          all_goals exact ⟨⟨4, by first | rfl | simp, by decide, by decide, by first | rfl | trivial, fun i h1 h2 => by
            rcases Nat.lt_or_ge i 3 with h | h
            · exact HNO.out i h1 (by omega)
            · have : i = 3 := by omega
              subst this; exact HE.out⟩, by simp [intOf]⟩
      · by_cases he : s = sTOOLARGE
        · have q1 : (sTOOLARGE.toList == s.toList) = true := by rw [he]; simp
          have q2 : sTOOLARGE.toList.isEmpty = false := by rw [ByteArray.toList_eq]; rfl
          have HO : Hid (O = some (4, 0)) := by show _ = _; rw [HRO2.out, if_neg (show ¬ s = sNOTFOUND from HNO.out 2 (by decide) (by decide)), if_neg (show ¬ s = sEXISTS from HNO.out 3 (by decide) (by decide)), if_pos he]
          clear he HRO2 HNO
          go_wp2
          rename_i hK
          refine hK _ _ ?_
          change wpList Tryd.prog _ _ _ (Act.put _ _ (.string sTOOLARGE)) _
          clear hK
          go_wp2
          refine bodyPost_ret (res_cell rfl rfl (load_var (zset3 HX.out rfl _ _ _) 25 _ Tryd.underlying25 rfl result_info)) rfl ?_
          exact ⟨⟨4, 0, true, rfl, .inl ⟨rfl, HO.out⟩⟩, zbelow3 HB.out (Nat.le_refl _) _ _ _⟩
        · have q1 : (sTOOLARGE.toList == s.toList) = false := sne_b (fun e => he e.symm)
          have HE := Hid.mk2 he
          clear he
          go_wp2
          rename_i hK
          refine hK _ _ ?_
          change wpList Tryd.prog _ _ _ (Act.put _ _ (.string sTOOLARGE)) _
          clear hK
          go_wp2
          all_goals exact ⟨⟨5, by first | rfl | simp, by decide, by decide, by first | rfl | trivial, fun i h1 h2 => by
            rcases Nat.lt_or_ge i 4 with h | h
            · exact HNO.out i h1 (by omega)
            · have : i = 4 := by omega
              subst this; exact HE.out⟩, by simp [intOf]⟩
      · by_cases he : s = sNOMEMORY
        · have q1 : (sNOMEMORY.toList == s.toList) = true := by rw [he]; simp
          have q2 : sNOMEMORY.toList.isEmpty = false := by rw [ByteArray.toList_eq]; rfl
          have HO : Hid (O = some (5, 0)) := by show _ = _; rw [HRO2.out, if_neg (show ¬ s = sNOTFOUND from HNO.out 2 (by decide) (by decide)), if_neg (show ¬ s = sEXISTS from HNO.out 3 (by decide) (by decide)), if_neg (show ¬ s = sTOOLARGE from HNO.out 4 (by decide) (by decide)), if_pos he]
          clear he HRO2 HNO
          go_wp2
          rename_i hK
          refine hK _ _ ?_
          change wpList Tryd.prog _ _ _ (Act.put _ _ (.string sNOMEMORY)) _
          clear hK
          go_wp2
          refine bodyPost_ret (res_cell rfl rfl (load_var (zset3 HX.out rfl _ _ _) 25 _ Tryd.underlying25 rfl result_info)) rfl ?_
          exact ⟨⟨5, 0, true, rfl, .inl ⟨rfl, HO.out⟩⟩, zbelow3 HB.out (Nat.le_refl _) _ _ _⟩
        · have q1 : (sNOMEMORY.toList == s.toList) = false := sne_b (fun e => he e.symm)
          have HE := Hid.mk2 he
          clear he
          go_wp2
          rename_i hK
          refine hK _ _ ?_
          change wpList Tryd.prog _ _ _ (Act.put _ _ (.string sNOMEMORY)) _
          clear hK
          go_wp2
          all_goals exact ⟨⟨6, by first | rfl | simp, by decide, by decide, by first | rfl | trivial, fun i h1 h2 => by
            rcases Nat.lt_or_ge i 5 with h | h
            · exact HNO.out i h1 (by omega)
            · have : i = 5 := by omega
              subst this; exact HE.out⟩, by simp [intOf]⟩
      · by_cases he : s = sNOTNUMBER
        · have q1 : (sNOTNUMBER.toList == s.toList) = true := by rw [he]; simp
          have q2 : sNOTNUMBER.toList.isEmpty = false := by rw [ByteArray.toList_eq]; rfl
          have HO : Hid (O = some (6, 0)) := by show _ = _; rw [HRO2.out, if_neg (show ¬ s = sNOTFOUND from HNO.out 2 (by decide) (by decide)), if_neg (show ¬ s = sEXISTS from HNO.out 3 (by decide) (by decide)), if_neg (show ¬ s = sTOOLARGE from HNO.out 4 (by decide) (by decide)), if_neg (show ¬ s = sNOMEMORY from HNO.out 5 (by decide) (by decide)), if_pos he]
          clear he HRO2 HNO
          go_wp2
          rename_i hK
          refine hK _ _ ?_
          change wpList Tryd.prog _ _ _ (Act.put _ _ (.string sNOTNUMBER)) _
          clear hK
          go_wp2
          refine bodyPost_ret (res_cell rfl rfl (load_var (zset3 HX.out rfl _ _ _) 25 _ Tryd.underlying25 rfl result_info)) rfl ?_
          exact ⟨⟨6, 0, true, rfl, .inl ⟨rfl, HO.out⟩⟩, zbelow3 HB.out (Nat.le_refl _) _ _ _⟩
        · have q1 : (sNOTNUMBER.toList == s.toList) = false := sne_b (fun e => he e.symm)
          have HE := Hid.mk2 he
          clear he
          go_wp2
          rename_i hK
          refine hK _ _ ?_
          change wpList Tryd.prog _ _ _ (Act.put _ _ (.string sNOTNUMBER)) _
          clear hK
          go_wp2
          all_goals exact ⟨⟨7, by first | rfl | simp, by decide, by decide, by first | rfl | trivial, fun i h1 h2 => by
            rcases Nat.lt_or_ge i 6 with h | h
            · exact HNO.out i h1 (by omega)
            · have : i = 6 := by omega
              subst this; exact HE.out⟩, by simp [intOf]⟩
      · by_cases he : s = sDENIED
        · have q1 : (sDENIED.toList == s.toList) = true := by rw [he]; simp
          have q2 : sDENIED.toList.isEmpty = false := by rw [ByteArray.toList_eq]; rfl
          have HO : Hid (O = some (7, 0)) := by show _ = _; rw [HRO2.out, if_neg (show ¬ s = sNOTFOUND from HNO.out 2 (by decide) (by decide)), if_neg (show ¬ s = sEXISTS from HNO.out 3 (by decide) (by decide)), if_neg (show ¬ s = sTOOLARGE from HNO.out 4 (by decide) (by decide)), if_neg (show ¬ s = sNOMEMORY from HNO.out 5 (by decide) (by decide)), if_neg (show ¬ s = sNOTNUMBER from HNO.out 6 (by decide) (by decide)), if_pos he]
          clear he HRO2 HNO
          go_wp2
          rename_i hK
          refine hK _ _ ?_
          change wpList Tryd.prog _ _ _ (Act.put _ _ (.string sDENIED)) _
          clear hK
          go_wp2
          refine bodyPost_ret (res_cell rfl rfl (load_var (zset3 HX.out rfl _ _ _) 25 _ Tryd.underlying25 rfl result_info)) rfl ?_
          exact ⟨⟨7, 0, true, rfl, .inl ⟨rfl, HO.out⟩⟩, zbelow3 HB.out (Nat.le_refl _) _ _ _⟩
        · have q1 : (sDENIED.toList == s.toList) = false := sne_b (fun e => he e.symm)
          have HE := Hid.mk2 he
          clear he
          go_wp2
          rename_i hK
          refine hK _ _ ?_
          change wpList Tryd.prog _ _ _ (Act.put _ _ (.string sDENIED)) _
          clear hK
          go_wp2
          all_goals exact ⟨⟨8, by first | rfl | simp, by decide, by decide, by first | rfl | trivial, fun i h1 h2 => by
            rcases Nat.lt_or_ge i 7 with h | h
            · exact HNO.out i h1 (by omega)
            · have : i = 7 := by omega
              subst this; exact HE.out⟩, by simp [intOf]⟩
      · have HO : Hid (O = D) := by show _ = _; rw [HRO2.out, if_neg (show ¬ s = sNOTFOUND from HNO.out 2 (by decide) (by decide)), if_neg (show ¬ s = sEXISTS from HNO.out 3 (by decide) (by decide)), if_neg (show ¬ s = sTOOLARGE from HNO.out 4 (by decide) (by decide)), if_neg (show ¬ s = sNOMEMORY from HNO.out 5 (by decide) (by decide)), if_neg (show ¬ s = sNOTNUMBER from HNO.out 6 (by decide) (by decide)), if_neg (show ¬ s = sDENIED from HNO.out 7 (by decide) (by decide))]
        clear HRO2 HNO z0 z1 z2 zf0 zf1 zf2 zlt
        go_wp2_with (go_at_call 81; refine (HD.out _).mono ?_; rintro e w4 ⟨⟨rk, num, b, rfl, hb⟩, hb4⟩; have HBB := Hid.mk2 hb; have HX4 := Hid.mk2 (HX.out.below hb4); have HB4 := Hid.mk2 (g_on HB.out hb4); have z0 := HX4.out.c 0 (by simp [rez]); have z1 := HX4.out.c 1 (by simp [rez]); have z2 := HX4.out.c 2 (by simp [rez]); simp only [rez, List.getElem_cons_zero, List.getElem_cons_succ] at z0 z1 z2; have zf0 := HX4.out.f 0; have zf1 := HX4.out.f 1; have zf2 := HX4.out.f 2; have zlt := HX4.out.lt; clear hb4; clear hb)
        refine bodyPost_ret (res_cell rfl rfl (load_var (zset3 HX4.out rfl _ _ _) 25 _ Tryd.underlying25 rfl result_info)) rfl ?_
        exact ⟨⟨rk, num, b, rfl, by rw [HO.out]; exact HBB.out⟩, zbelow3 HB4.out (Nat.le_refl _) _ _ _⟩
end Go.Proofs.YtihcnjbnlcgcoaaDoor
