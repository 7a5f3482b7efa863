/-
  answerOf of package words.
-/
import Derived.Test.YtihcnjbnlcgcoaaDoorWoN
namespace Go.Proofs.YtihcnjbnlcgcoaaDoor
open Go.Proofs.YtihcnjbnlcgcoaaDoor.It
open Go.RowKit
set_option linter.unusedSimpArgs false
set_option linter.unusedVariables false
set_option maxRecDepth 100000

def anz : List Value := [.int .u8 0, .int .u8 0, .int .u8 0, .slice none 0 0, .int .u64 0, .bool false, .string ⟨#[]⟩]
theorem answer_info : (Tryd.prog.info? 27).map (·.size) = some 7 := by kernel_rfl
theorem zset7 {w : World} {b : Nat} {vs : List Value} (h : GBx w b vs) (hl : vs.length = 7) (a0 a1 a2 a3 a4 a5 a6 : Value) : GBx (((((((w.setCell ⟨b, 0, none⟩ a0).setCell ⟨b, 1, none⟩ a1).setCell ⟨b, 2, none⟩ a2).setCell ⟨b, 3, none⟩ a3).setCell ⟨b, 4, none⟩ a4).setCell ⟨b, 5, none⟩ a5).setCell ⟨b, 6, none⟩ a6) b [a0, a1, a2, a3, a4, a5, a6] := by
  match vs, hl with
  | [_, _, _, _, _, _, _], _ => exact ((((((h.set 0 a0 (by simp)).set 1 a1 (by simp)).set 2 a2 (by simp)).set 3 a3 (by simp)).set 4 a4 (by simp)).set 5 a5 (by simp)).set 6 a6 (by simp)
theorem zbelow7 {n b : Nat} {w W : World} (h : Below n w W) (hb : n ≤ b) (a0 a1 a2 a3 a4 a5 a6 : Value) : Below n w (((((((W.setCell ⟨b, 0, none⟩ a0).setCell ⟨b, 1, none⟩ a1).setCell ⟨b, 2, none⟩ a2).setCell ⟨b, 3, none⟩ a3).setCell ⟨b, 4, none⟩ a4).setCell ⟨b, 5, none⟩ a5).setCell ⟨b, 6, none⟩ a6) :=
  ((((((h.setCell (p := ⟨b, 0, none⟩) hb a0).setCell (p := ⟨b, 1, none⟩) hb a1).setCell (p := ⟨b, 2, none⟩) hb a2).setCell (p := ⟨b, 3, none⟩) hb a3).setCell (p := ⟨b, 4, none⟩) hb a4).setCell (p := ⟨b, 5, none⟩) hb a5).setCell (p := ⟨b, 6, none⟩) hb a6
/-- what is answered of an answer that a line tells by itself -/
structure AnsR (w w' : World) (o : Option An) (e : Ending) : Prop where
  ex : ∃ (a : An) (b : Bool), e = .returned (.tuple #[.agg (a.arr (.slice none 0 0)), .bool b]) ∧ ((b = true ∧ o = some a) ∨ (b = false ∧ o = none))
  below : Below w.heap.size w w'
theorem seq_l {s : ByteArray} {l : List UInt8} (h : s = ⟨l.toArray⟩) : (s.toList == l) = true := by
  rw [h, ByteArray.toList_eq]
  simp
theorem sne_l {s : ByteArray} {l : List UInt8} (h : ¬ s = ⟨l.toArray⟩) : (s.toList == l) = false := by
  rw [ByteArray.toList_eq]
  simp only [beq_eq_false_iff_ne, ne_eq]
  intro e
  exact h (by cases s; simp at e ⊢; rw [← e])

set_option maxHeartbeats 4000000 in
theorem wanswerOf_any (s : ByteArray) (hs : s.size ≤ 600) (of_ : Int) (V : World) (hr : Rt V) :
    Calls Tryd.prog 40 #[.string s, .int .u8 of_] V fun e V' => AnsR V V' (ansOf of_ s) e := by
  obtain ⟨W, hW⟩ : ∃ W, W = V.alloc (.cells #[.int .u8 0, .int .u8 0, .int .u8 0, .slice none 0 0, .int .u64 0, .bool false, .string ⟨#[]⟩] 27) := ⟨_, rfl⟩
  have hB0 : Below V.heap.size V W := by rw [hW]; exact g_alloc _ _
  have HB : Hid (Below V.heap.size V W) := hB0
  have HX : Hid (GBx W V.heap.size anz) := by rw [hW]; exact GBx.made V anz _
  have HRT := Hid.mk2 (hr.below hB0)
  have HCP := Hid.mk2 (fun W => wcutPre_any s ⟨#[80, 85, 83, 72, 32]⟩ W)
  have HRS := Hid.mk2 (fun W h => wresultOf_any s of_ W h)
  have HAO : Hid (ansOf of_ s = if s = sWELCOME then some { az with kind := 2, yes := true } else if s = sUNKNOWN then some { az with kind := 2 } else if s = sTRACKED then some { az with kind := 3, yes := true } else if s = sUNTRACKED then some { az with kind := 3 } else if s = sPONG then some { az with kind := 4 } else if s = sBYE then some { az with kind := 5 } else if s = sERROR then some { az with kind := 6 } else if (bl s).take 5 = bl sPUSH ++ [32] then (if wordOk (mkB ((bl s).drop 5)) 32 = true then some { az with kind := 7, key := mkB ((bl s).drop 5) } else none) else match resOf of_ s with | none => none | some (rk, n) => some ⟨1, of_, rk, [], n, false, ⟨#[]⟩⟩) := rfl
  obtain ⟨O, hO⟩ : ∃ O, O = ansOf of_ s := ⟨_, rfl⟩
  rw [← hO] at HAO ⊢
  obtain ⟨R, hR⟩ : ∃ R, R = resOf of_ s := ⟨_, rfl⟩
  rw [← hR] at HAO HRS
  clear hO hR hB0 hr
  have z0 := HX.out.c 0 (by simp [anz])
  have z1 := HX.out.c 1 (by simp [anz])
  have z2 := HX.out.c 2 (by simp [anz])
  have z3 := HX.out.c 3 (by simp [anz])
  have z4 := HX.out.c 4 (by simp [anz])
  have z5 := HX.out.c 5 (by simp [anz])
  have z6 := HX.out.c 6 (by simp [anz])
  simp only [anz, List.getElem_cons_zero, List.getElem_cons_succ] at z0 z1 z2 z3 z4 z5 z6
  have zf0 := HX.out.f 0
  have zf1 := HX.out.f 1
  have zf2 := HX.out.f 2
  have zf3 := HX.out.f 3
  have zf4 := HX.out.f 4
  have zf5 := HX.out.f 5
  have zf6 := HX.out.f 6
  have zlt := HX.out.lt
  by_cases h0 : s = sWELCOME
  · have q0 : (s.toList == [87, 69, 76, 67, 79, 77, 69]) = true := seq_l h0
    have p0 : (s.toList == (⟨#[87, 69, 76, 67, 79, 77, 69]⟩ : ByteArray).toList) = true := by rw [h0]; exact beq_self_eq_true _
    have HO := Hid.mk2 (HAO.out.trans (if_pos h0))
    clear h0 HAO
    go_enter Tryd.func40, Tryd.ntmps40
    go_upto_region 1 with (fail)
    rw [← hW]
    clear hW
    go_wp2
    refine bodyPost_ret (res_cell rfl rfl (load_var (zset7 HX.out rfl _ _ _ _ _ _ _) 27 _ Tryd.underlying27 rfl answer_info)) rfl ?_
    exact ⟨⟨{ az with kind := 2, yes := true }, true, rfl, .inl ⟨rfl, HO.out⟩⟩, zbelow7 HB.out (Nat.le_refl _) _ _ _ _ _ _ _⟩
  have q0 : (s.toList == [87, 69, 76, 67, 79, 77, 69]) = false := sne_l h0
  have p0 : (s.toList == (⟨#[87, 69, 76, 67, 79, 77, 69]⟩ : ByteArray).toList) = false := sne_b h0
  have HAO := Hid.mk2 (HAO.out.trans (if_neg h0))
  clear h0
  by_cases h1 : s = sUNKNOWN
  · have q1 : (s.toList == [85, 78, 75, 78, 79, 87, 78]) = true := seq_l h1
    have p1 : (s.toList == (⟨#[85, 78, 75, 78, 79, 87, 78]⟩ : ByteArray).toList) = true := by rw [h1]; exact beq_self_eq_true _
    have HO := Hid.mk2 (HAO.out.trans (if_pos h1))
    clear h1 HAO
    go_enter Tryd.func40, Tryd.ntmps40
    go_upto_region 1 with (fail)
    rw [← hW]
    clear hW
    go_wp2
    refine bodyPost_ret (res_cell rfl rfl (load_var (zset7 HX.out rfl _ _ _ _ _ _ _) 27 _ Tryd.underlying27 rfl answer_info)) rfl ?_
    exact ⟨⟨{ az with kind := 2 }, true, rfl, .inl ⟨rfl, HO.out⟩⟩, zbelow7 HB.out (Nat.le_refl _) _ _ _ _ _ _ _⟩
  have q1 : (s.toList == [85, 78, 75, 78, 79, 87, 78]) = false := sne_l h1
  have p1 : (s.toList == (⟨#[85, 78, 75, 78, 79, 87, 78]⟩ : ByteArray).toList) = false := sne_b h1
  have HAO := Hid.mk2 (HAO.out.trans (if_neg h1))
  clear h1
  by_cases h2 : s = sTRACKED
  · have q2 : (s.toList == [84, 82, 65, 67, 75, 69, 68]) = true := seq_l h2
    have p2 : (s.toList == (⟨#[84, 82, 65, 67, 75, 69, 68]⟩ : ByteArray).toList) = true := by rw [h2]; exact beq_self_eq_true _
    have HO := Hid.mk2 (HAO.out.trans (if_pos h2))
    clear h2 HAO
    go_enter Tryd.func40, Tryd.ntmps40
    go_upto_region 1 with (fail)
    rw [← hW]
    clear hW
    go_wp2
    refine bodyPost_ret (res_cell rfl rfl (load_var (zset7 HX.out rfl _ _ _ _ _ _ _) 27 _ Tryd.underlying27 rfl answer_info)) rfl ?_
    exact ⟨⟨{ az with kind := 3, yes := true }, true, rfl, .inl ⟨rfl, HO.out⟩⟩, zbelow7 HB.out (Nat.le_refl _) _ _ _ _ _ _ _⟩
  have q2 : (s.toList == [84, 82, 65, 67, 75, 69, 68]) = false := sne_l h2
  have p2 : (s.toList == (⟨#[84, 82, 65, 67, 75, 69, 68]⟩ : ByteArray).toList) = false := sne_b h2
  have HAO := Hid.mk2 (HAO.out.trans (if_neg h2))
  clear h2
  by_cases h3 : s = sUNTRACKED
  · have q3 : (s.toList == [85, 78, 84, 82, 65, 67, 75, 69, 68]) = true := seq_l h3
    have p3 : (s.toList == (⟨#[85, 78, 84, 82, 65, 67, 75, 69, 68]⟩ : ByteArray).toList) = true := by rw [h3]; exact beq_self_eq_true _
    have HO := Hid.mk2 (HAO.out.trans (if_pos h3))
    clear h3 HAO
    go_enter Tryd.func40, Tryd.ntmps40
    go_upto_region 1 with (fail)
    rw [← hW]
    clear hW
    go_wp2
    refine bodyPost_ret (res_cell rfl rfl (load_var (zset7 HX.out rfl _ _ _ _ _ _ _) 27 _ Tryd.underlying27 rfl answer_info)) rfl ?_
    exact ⟨⟨{ az with kind := 3 }, true, rfl, .inl ⟨rfl, HO.out⟩⟩, zbelow7 HB.out (Nat.le_refl _) _ _ _ _ _ _ _⟩
  have q3 : (s.toList == [85, 78, 84, 82, 65, 67, 75, 69, 68]) = false := sne_l h3
  have p3 : (s.toList == (⟨#[85, 78, 84, 82, 65, 67, 75, 69, 68]⟩ : ByteArray).toList) = false := sne_b h3
  have HAO := Hid.mk2 (HAO.out.trans (if_neg h3))
  clear h3
  by_cases h4 : s = sPONG
  · have q4 : (s.toList == [80, 79, 78, 71]) = true := seq_l h4
    have p4 : (s.toList == (⟨#[80, 79, 78, 71]⟩ : ByteArray).toList) = true := by rw [h4]; exact beq_self_eq_true _
    have HO := Hid.mk2 (HAO.out.trans (if_pos h4))
    clear h4 HAO
    go_enter Tryd.func40, Tryd.ntmps40
    go_upto_region 1 with (fail)
    rw [← hW]
    clear hW
    go_wp2
    refine bodyPost_ret (res_cell rfl rfl (load_var (zset7 HX.out rfl _ _ _ _ _ _ _) 27 _ Tryd.underlying27 rfl answer_info)) rfl ?_
    exact ⟨⟨{ az with kind := 4 }, true, rfl, .inl ⟨rfl, HO.out⟩⟩, zbelow7 HB.out (Nat.le_refl _) _ _ _ _ _ _ _⟩
  have q4 : (s.toList == [80, 79, 78, 71]) = false := sne_l h4
  have p4 : (s.toList == (⟨#[80, 79, 78, 71]⟩ : ByteArray).toList) = false := sne_b h4
  have HAO := Hid.mk2 (HAO.out.trans (if_neg h4))
  clear h4
  by_cases h5 : s = sBYE
  · have q5 : (s.toList == [66, 89, 69]) = true := seq_l h5
    have p5 : (s.toList == (⟨#[66, 89, 69]⟩ : ByteArray).toList) = true := by rw [h5]; exact beq_self_eq_true _
    have HO := Hid.mk2 (HAO.out.trans (if_pos h5))
    clear h5 HAO
    go_enter Tryd.func40, Tryd.ntmps40
    go_upto_region 1 with (fail)
    rw [← hW]
    clear hW
    go_wp2
    refine bodyPost_ret (res_cell rfl rfl (load_var (zset7 HX.out rfl _ _ _ _ _ _ _) 27 _ Tryd.underlying27 rfl answer_info)) rfl ?_
    exact ⟨⟨{ az with kind := 5 }, true, rfl, .inl ⟨rfl, HO.out⟩⟩, zbelow7 HB.out (Nat.le_refl _) _ _ _ _ _ _ _⟩
  have q5 : (s.toList == [66, 89, 69]) = false := sne_l h5
  have p5 : (s.toList == (⟨#[66, 89, 69]⟩ : ByteArray).toList) = false := sne_b h5
  have HAO := Hid.mk2 (HAO.out.trans (if_neg h5))
  clear h5
  by_cases h6 : s = sERROR
  · have q6 : (s.toList == [69, 82, 82, 79, 82]) = true := seq_l h6
    have p6 : (s.toList == (⟨#[69, 82, 82, 79, 82]⟩ : ByteArray).toList) = true := by rw [h6]; exact beq_self_eq_true _
    have HO := Hid.mk2 (HAO.out.trans (if_pos h6))
    clear h6 HAO
    go_enter Tryd.func40, Tryd.ntmps40
    go_upto_region 1 with (fail)
    rw [← hW]
    clear hW
    go_wp2
    refine bodyPost_ret (res_cell rfl rfl (load_var (zset7 HX.out rfl _ _ _ _ _ _ _) 27 _ Tryd.underlying27 rfl answer_info)) rfl ?_
    exact ⟨⟨{ az with kind := 6 }, true, rfl, .inl ⟨rfl, HO.out⟩⟩, zbelow7 HB.out (Nat.le_refl _) _ _ _ _ _ _ _⟩
  have q6 : (s.toList == [69, 82, 82, 79, 82]) = false := sne_l h6
  have p6 : (s.toList == (⟨#[69, 82, 82, 79, 82]⟩ : ByteArray).toList) = false := sne_b h6
  have HAO := Hid.mk2 (HAO.out.trans (if_neg h6))
  clear h6
  by_cases hp : (bl s).take 5 = bl sPUSH ++ [32]
  · have HO := Hid.mk2 (HAO.out.trans (if_pos hp))
    have hcp : ∀ W, Calls Tryd.prog 64 #[.string s, .string ⟨#[80, 85, 83, 72, 32]⟩] W fun e w' => e = .returned (.tuple #[.string (mkB ((bl s).drop 5)), .bool true]) ∧ w' = W := fun W => (HCP.out W).mono (by rintro e w' ⟨h, rfl⟩; have h2 : (bl s).take (bl ⟨#[80, 85, 83, 72, 32]⟩).length = bl ⟨#[80, 85, 83, 72, 32]⟩ := hp; rw [if_pos h2] at h; exact ⟨h, rfl⟩)
    have hsz : (mkB ((bl s).drop 5)).size ≤ maxLen := by
      have h1 : (mkB ((bl s).drop 5)).size = ((bl s).drop 5).length := by simp [mkB, ByteArray.size]
      have h2 := bl_len s
      have h3 : maxLen = 9223372036854775807 := rfl
      rw [h1, List.length_drop]
      omega
    have HIK := Hid.mk2 (fun W => wisKey_any (mkB ((bl s).drop 5)) hsz W)
    obtain ⟨T, hT⟩ : ∃ T, T = mkB ((bl s).drop 5) := ⟨_, rfl⟩
    rw [← hT] at hcp HIK HO
    obtain ⟨K, hK⟩ : ∃ K, K = wordOk T 32 := ⟨_, rfl⟩
    rw [← hK] at HIK HO
    have HCQ := Hid.mk2 hcp
    clear hp hcp hsz hT hK HAO HCP HRS
    go_enter Tryd.func40, Tryd.ntmps40
    go_upto_region 1 with (fail)
    rw [← hW]
    clear hW
    go_wp2_with (first
      | (go_at_call 64; refine (HCQ.out _).mono ?_; rintro e w3 ⟨rfl, rfl⟩)
      | (go_at_call 65; refine (HIK.out _).mono ?_; rintro e w4 ⟨rfl, hb4⟩; have HX4 := Hid.mk2 (HX.out.below hb4); have HB4 := Hid.mk2 (g_on HB.out hb4); have z0 := HX4.out.c 0 (by simp [anz]); have z1 := HX4.out.c 1 (by simp [anz]); have z2 := HX4.out.c 2 (by simp [anz]); have z3 := HX4.out.c 3 (by simp [anz]); have z4 := HX4.out.c 4 (by simp [anz]); have z5 := HX4.out.c 5 (by simp [anz]); have z6 := HX4.out.c 6 (by simp [anz]); simp only [anz, List.getElem_cons_zero, List.getElem_cons_succ] at z0 z1 z2 z3 z4 z5 z6; have zf0 := HX4.out.f 0; have zf1 := HX4.out.f 1; have zf2 := HX4.out.f 2; have zf3 := HX4.out.f 3; have zf4 := HX4.out.f 4; have zf5 := HX4.out.f 5; have zf6 := HX4.out.f 6; have zlt := HX4.out.lt; clear hb4))
    cases K with
    | true =>
      refine bodyPost_ret (res_cell rfl rfl (load_var (zset7 HX4.out rfl _ _ _ _ _ _ _) 27 _ Tryd.underlying27 rfl answer_info)) rfl ?_
      exact ⟨⟨{ az with kind := 7, key := T }, true, rfl, .inl ⟨rfl, HO.out⟩⟩, zbelow7 HB4.out (Nat.le_refl _) _ _ _ _ _ _ _⟩
    | false =>
      refine bodyPost_ret (res_cell rfl rfl (load_var (zset7 HX4.out rfl _ _ _ _ _ _ _) 27 _ Tryd.underlying27 rfl answer_info)) rfl ?_
      exact ⟨⟨{ az with kind := 7, key := T }, false, rfl, .inr ⟨rfl, HO.out⟩⟩, zbelow7 HB4.out (Nat.le_refl _) _ _ _ _ _ _ _⟩
  · have HO := Hid.mk2 (HAO.out.trans (if_neg hp))
    have hcp : ∀ W, Calls Tryd.prog 64 #[.string s, .string ⟨#[80, 85, 83, 72, 32]⟩] W fun e w' => e = .returned (.tuple #[.string s, .bool false]) ∧ w' = W := fun W => (HCP.out W).mono (by rintro e w' ⟨h, rfl⟩; have h2 : ¬ (bl s).take (bl ⟨#[80, 85, 83, 72, 32]⟩).length = bl ⟨#[80, 85, 83, 72, 32]⟩ := hp; rw [if_neg h2] at h; exact ⟨h, rfl⟩)
    have HCQ := Hid.mk2 hcp
    clear hp hcp HAO HCP
    go_enter Tryd.func40, Tryd.ntmps40
    go_upto_region 1 with (fail)
    rw [← hW]
    clear hW
    clear z0 z1 z2 z3 z4 z5 z6 zf0 zf1 zf2 zf3 zf4 zf5 zf6 zlt
    go_upto_region 18 with (first
      | (go_at_call 64; refine (HCQ.out _).mono ?_; rintro e w3 ⟨rfl, rfl⟩)
      | (go_at_call 66; refine (HRS.out _ HRT.out).mono ?_; rintro e w4 ⟨⟨rk, num, b, rfl, hb⟩, hb4⟩; have HBB := Hid.mk2 hb; have HX4 := Hid.mk2 (HX.out.below hb4); have HB4 := Hid.mk2 (g_on HB.out hb4); clear hb hb4))
    obtain ⟨W5, hW5⟩ : ∃ W5, W5 = w4.alloc (.cells #[.int .u8 rk, .slice none 0 0, .int .u64 num] 25) := ⟨_, rfl⟩
    have HX5 : Hid (GBx W5 V.heap.size anz) := by rw [hW5]; exact HX4.out.alloc _
    have HY5 : Hid (GBx W5 w4.heap.size [.int .u8 rk, .slice none 0 0, .int .u64 num]) := by rw [hW5]; exact GBx.made w4 [.int .u8 rk, .slice none 0 0, .int .u64 num] _
    have HB5 : Hid (Below V.heap.size V W5) := by rw [hW5]; exact g_on HB4.out (g_alloc _ _)
    rw [← hW5]
    clear hW5
    obtain ⟨Y, hY⟩ : ∃ Y, Y = w4.heap.size := ⟨_, rfl⟩
    rw [← hY] at HY5 ⊢
    clear hY
    have y0 := HY5.out.c 0 (by simp)
    have y1 := HY5.out.c 1 (by simp)
    have y2 := HY5.out.c 2 (by simp)
    simp only [List.getElem_cons_zero, List.getElem_cons_succ] at y0 y1 y2
    have z0 := HX5.out.c 0 (by simp [anz])
    have z1 := HX5.out.c 1 (by simp [anz])
    have z2 := HX5.out.c 2 (by simp [anz])
    have z3 := HX5.out.c 3 (by simp [anz])
    have z4 := HX5.out.c 4 (by simp [anz])
    have z5 := HX5.out.c 5 (by simp [anz])
    have z6 := HX5.out.c 6 (by simp [anz])
    simp only [anz, List.getElem_cons_zero, List.getElem_cons_succ] at z0 z1 z2 z3 z4 z5 z6
    have zf0 := HX5.out.f 0
    have zf1 := HX5.out.f 1
    have zf2 := HX5.out.f 2
    have zf3 := HX5.out.f 3
    have zf4 := HX5.out.f 4
    have zf5 := HX5.out.f 5
    have zf6 := HX5.out.f 6
    go_wp2
    refine bodyPost_ret (res_cell rfl rfl (load_var (zset7 HX5.out rfl _ _ _ _ _ _ _) 27 _ Tryd.underlying27 rfl answer_info)) rfl ?_
    refine ⟨⟨⟨1, of_, rk, [], num, false, ⟨#[]⟩⟩, b, rfl, ?_⟩, zbelow7 HB5.out (Nat.le_refl _) _ _ _ _ _ _ _⟩
    rcases HBB.out with ⟨rfl, h⟩ | ⟨rfl, h⟩
    · exact .inl ⟨rfl, by rw [HO.out, h]⟩
    · exact .inr ⟨rfl, by rw [HO.out, h]⟩
end Go.Proofs.YtihcnjbnlcgcoaaDoor
