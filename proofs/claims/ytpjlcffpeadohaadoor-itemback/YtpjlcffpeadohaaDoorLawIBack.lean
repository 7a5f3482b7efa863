/-
  ItemBack: a number that is written is read back, and a text that is a number's is written again. The library's tables that the row lists are as their text lays them (the card ties them).
-/
import Derived.Test.YtpjlcffpeadohaaDoorItCount
import Derived.Test.YtpjlcffpeadohaaDoorItDoor
namespace Go.Proofs.YtpjlcffpeadohaaDoor
open Go.ChangeShapes Go.WideShapes Go.ChangeAt Go.RowKit Go.Sort
open Go.ChangeMaps (open_string shut_string)
set_option linter.unusedSimpArgs false
set_option linter.unusedVariables false
set_option maxRecDepth 100000

theorem back_num {n : Nat} (h : n < 18446744073709551616) : isNum (bl ⟨(decL n).toArray⟩) = true ∧ numV (bl ⟨(decL n).toArray⟩) = n := by
  rw [bl_mk]
  exact ⟨isNum_decL h, numV_decL h⟩

set_option maxHeartbeats 4000000 in
theorem itemBack_walk (w : World) (ht : Tab w) (a : Int) (w0 : (Lit.int .u64 a).wf = true) (s : ByteArray) (w1 : s.size ≤ maxLen) :
    Calls Tryd.prog 5 #[.int .u64 a, .string s] w fun e w' => e = .returned (.bool true) ∧ RowKit.Below w.heap.size w w' := by
  have hb := bounds_u64 w0
  obtain ⟨n, rfl⟩ : ∃ n : Nat, a = n := ⟨a.toNat, by omega⟩
  have hn : n < 18446744073709551616 := by omega
  have HA := Hid.mk2 (alive9_any w ht)
  have HT := Hid.mk2 (fun W (hW : RowKit.Below w.heap.size w W) => ht.below hW)
  obtain ⟨X, hX⟩ : ∃ X : ByteArray, X = ⟨(decL n).toArray⟩ := ⟨_, rfl⟩
  obtain ⟨e1, e2⟩ := back_num hn
  rw [← hX] at e1 e2
  have HX := Hid.mk2 hX
  have E1 := Hid.mk2 e1
  have E2 := Hid.mk2 e2
  clear hb w0 w1 ht hX e1 e2
  by_cases hl : 2000 < s.size
  · have hl1 : (2000 : Int) < (s.size : Int) := by omega
    go_enter Tryd.func5, Tryd.ntmps5
    go_wp2_with (first
    | (go_at_call 11; refine HA.out.mono ?_; rintro e w1 ⟨rfl, hb1⟩; have HB1 := Hid.mk2 hb1; clear hb1)
    | (go_at_call 16; refine (text_any _ (by first | exact hn | exact hmlt) _ (HT.out _ (by first | exact HB1.out | exact HB4.out))).mono ?_; rintro e w2 ⟨rfl, k, os, hw2⟩; (first | rw [← HX.out] | rw [HY.out]); (first | (have HB5 := Hid.mk2 (HB4.out.trans ((below_grow1 _ k os).mono HB4.out.size)); rw [← hw2] at HB5; clear hw2) | (have HB2 := Hid.mk2 (HB1.out.trans ((below_grow1 _ k os).mono HB1.out.size)); rw [← hw2] at HB2; clear hw2)))
    | (go_at_call 8; refine (number_any _ _).mono ?_; rintro e w3 ⟨rfl, p, hw3⟩; (first | rw [E1.out, E2.out] | rw [E3.out, E4.out]); (first | (have HB4 := Hid.mk2 (HB3.out.trans ((below_iter _ s p).mono HB3.out.size)); rw [← hw3] at HB4; clear hw3) | (have HB3 := Hid.mk2 (HB2.out.trans ((below_iter _ X p).mono HB2.out.size)); rw [← hw3] at HB3; clear hw3))))
    all_goals go_ret
    all_goals exact ⟨by simp, HB3.out⟩
  cases hi : isNum (bl s)
  · have e3 : isNum (bl s) = false := hi
    have e4 := numV_not hi
    have E3 := Hid.mk2 e3
    have E4 := Hid.mk2 e4
    clear hi e3 e4
    go_enter Tryd.func5, Tryd.ntmps5
    go_wp2_with (first
    | (go_at_call 11; refine HA.out.mono ?_; rintro e w1 ⟨rfl, hb1⟩; have HB1 := Hid.mk2 hb1; clear hb1)
    | (go_at_call 16; refine (text_any _ (by first | exact hn | exact hmlt) _ (HT.out _ (by first | exact HB1.out | exact HB4.out))).mono ?_; rintro e w2 ⟨rfl, k, os, hw2⟩; (first | rw [← HX.out] | rw [HY.out]); (first | (have HB5 := Hid.mk2 (HB4.out.trans ((below_grow1 _ k os).mono HB4.out.size)); rw [← hw2] at HB5; clear hw2) | (have HB2 := Hid.mk2 (HB1.out.trans ((below_grow1 _ k os).mono HB1.out.size)); rw [← hw2] at HB2; clear hw2)))
    | (go_at_call 8; refine (number_any _ _).mono ?_; rintro e w3 ⟨rfl, p, hw3⟩; (first | rw [E1.out, E2.out] | rw [E3.out, E4.out]); (first | (have HB4 := Hid.mk2 (HB3.out.trans ((below_iter _ s p).mono HB3.out.size)); rw [← hw3] at HB4; clear hw3) | (have HB3 := Hid.mk2 (HB2.out.trans ((below_iter _ X p).mono HB2.out.size)); rw [← hw3] at HB3; clear hw3))))
    all_goals go_ret
    all_goals exact ⟨by simp, HB4.out⟩
  obtain ⟨m, hm⟩ : ∃ m, m = numV (bl s) := ⟨_, rfl⟩
  have hmlt : m < 18446744073709551616 := by rw [hm]; exact numV_lt _
  have hY : (⟨(decL m).toArray⟩ : ByteArray) = s := by rw [hm, decL_numV hi, mk_bl]
  have e3 : isNum (bl s) = true := hi
  have e4 : numV (bl s) = m := hm.symm
  have HY := Hid.mk2 hY
  have E3 := Hid.mk2 e3
  have E4 := Hid.mk2 e4
  clear hi hm hY e3 e4
  go_enter Tryd.func5, Tryd.ntmps5
  go_wp2_with (first
    | (go_at_call 11; refine HA.out.mono ?_; rintro e w1 ⟨rfl, hb1⟩; have HB1 := Hid.mk2 hb1; clear hb1)
    | (go_at_call 16; refine (text_any _ (by first | exact hn | exact hmlt) _ (HT.out _ (by first | exact HB1.out | exact HB4.out))).mono ?_; rintro e w2 ⟨rfl, k, os, hw2⟩; (first | rw [← HX.out] | rw [HY.out]); (first | (have HB5 := Hid.mk2 (HB4.out.trans ((below_grow1 _ k os).mono HB4.out.size)); rw [← hw2] at HB5; clear hw2) | (have HB2 := Hid.mk2 (HB1.out.trans ((below_grow1 _ k os).mono HB1.out.size)); rw [← hw2] at HB2; clear hw2)))
    | (go_at_call 8; refine (number_any _ _).mono ?_; rintro e w3 ⟨rfl, p, hw3⟩; (first | rw [E1.out, E2.out] | rw [E3.out, E4.out]); (first | (have HB4 := Hid.mk2 (HB3.out.trans ((below_iter _ s p).mono HB3.out.size)); rw [← hw3] at HB4; clear hw3) | (have HB3 := Hid.mk2 (HB2.out.trans ((below_iter _ X p).mono HB2.out.size)); rw [← hw3] at HB3; clear hw3))))
  all_goals go_ret
  all_goals exact ⟨by simp, HB5.out⟩

set_option maxRecDepth 100000 in
theorem itemBack_lifted (os : Os) (started : os.Started) (H : Type) (enc : TypeId × Value → H) :
    ReturnsInHanded {} Tryd.checked os 5 .any (fun w args => (Rows.itemBackSpec.pre enc Tryd.prog Tryd.f5 [] false w args ∧ laidMetH Tryd.prog laid3 w) ∧ sizedMet enc Tryd.prog Tryd.f5 (OpenSpec.ofChange Rows.itemBackSpec) false w args) (Rows.itemBackSpec.post enc Tryd.prog Tryd.f5 false true false false) := by
  refine returnsInHanded_of_change_and (C := Tryd.checked) (X := fun w _ => laidMetH Tryd.prog laid3 w) (fun _ _ _ hh h => h.of_heap hh) own started (by kernel_rfl) Tryd.func5
    (ChangeSpec.witness_shaped (enc := enc) (C := Tryd.checked) (os := os) (X := fun w _ => laidMetH Tryd.prog laid3 w) false (World.doorLaid Tryd.prog 400 os) #[.int .u64 0, .string ByteArray.empty] 8 rfl (World.shaped_of_RefB (by kernel_rfl) (by kernel_rfl)) (by kernel_rfl) (by kernel_rfl) (by kernel_rfl) (door_met os _)) ?_
  intro W base args ds gs before hval0 hW hcnd _ hL _
  have hval : ∀ (j : Nat) t v, Tryd.f5.params[j]? = some t → args[j]? = some v → Value.okWide Tryd.prog W .any base t v := hval0
  have hW' := hW
  obtain ⟨p, q, hA0, hV, rfl, hfz, hnd⟩ := hW
  have hA : DataW.TrodAll enc Tryd.prog W 0 (fun _ => true) true Tryd.f5.params.toList args.toList ds p := hA0
  rw [Tryd.params5] at hA hval
  obtain ⟨v0, vs0, d0, ds0, p0, q0, hargs, rfl, rfl, h0, r0⟩ := trodAll_cons hA
  obtain ⟨v1, vs1, d1, ds1, p1, q1, rfl, rfl, rfl, h1, r1⟩ := trodAll_cons r0
  obtain ⟨rfl, rfl, rfl⟩ := trodAll_nil r1
  obtain rfl : args = #[v0, v1] := by cases args; simp_all
  obtain ⟨rfl, rfl⟩ := trodVars_none hV
  obtain ⟨a0, rfl, rfl, rfl, w0⟩ := open_int Tryd.underlying25 (hval 0 25 v0 rfl rfl) h0
  obtain ⟨a1, rfl, rfl, rfl, w1⟩ := open_string Tryd.underlying9 (hval 1 9 v1 rfl rfl) h1
  clear hA0 hval0
  refine (itemBack_walk W (tab_of_laid hL) a0 w0 a1 w1).mono fun e W' ⟨he, bel⟩ => ?_
  subst he
  exact ⟨_, rfl, _, _, _, [], _, [], hW', trodAll_mk1 (shut_bool Tryd.underlying4 _), (trodAll_cons_mk (shut_int Tryd.underlying25 w0) (trodAll_cons_mk (shut_string Tryd.underlying9 w1) trodAll_mk0)), rfl, bel.frame _, fun h => by cases h⟩

theorem itemBack_proved : Rows.ItemBackSaid :=
  OpenClaim.holds_of_wide 5 Tryd.f5 rfl rfl rfl rfl rfl rfl rfl ⟨rfl, rfl, rfl, rfl, rfl⟩ rfl rfl rfl rfl rfl (by kernel_rfl) Tryd.func5 (by kernel_rfl)
    (of_decide_eq_true (by kernel_rfl)) (by unfold Func.isWrapper; first | (rw [if_pos (by decide +kernel)]; kernel_rfl) | (rw [if_neg (by decide +kernel)]; exact ⟨rfl, rfl⟩))
    (fun os started H enc _ => itemBack_lifted os started H enc)

theorem itemBack_card : Rows.ItemBackCardSaid :=
  Claim7.holds_tied_plain_at .later [] [.data, .data, .data] true Rows.itemBackCard.stood.harness false
    itemBack_proved (fun _ h => by cases h) (by kernel_rfl) (fun _ h => by cases h) itemBack_row_tie rfl ⟨rfl, rfl⟩ (by kernel_rfl) rfl
    (fun f fn hf hfn => by
      obtain rfl : f = 5 := Option.some.inj ((show Tryd.prog.funcNamed "cloakroom/cloakroomlaw09.ItemBack" = some 5 by kernel_rfl).symm.trans hf) |>.symm
      obtain rfl : fn = Tryd.f5 := (Option.some.inj (Tryd.func5.symm.trans hfn)).symm
      exact ⟨by kernel_rfl, fun j t ht => by
        rw [Tryd.params5] at ht
        have hm : t ∈ ([25, 9] : List TypeId) := by simpa using Array.mem_of_getElem? ht
        have hall : (([25, 9] : List TypeId).all fun u => !Tryd.prog.wantsStandIn u) = true := by kernel_rfl
        exact (show Tryd.prog.wantsStandIn t = false by simpa using List.all_eq_true.1 hall t hm)⟩)
    (by kernel_rfl)
#print axioms itemBack_card
end Go.Proofs.YtpjlcffpeadohaaDoor
