/-
  ItemCounts: numbers in texts, counted up or down, and values put together, are the document's, of texts of at most 2,000 bytes. The library's tables that the row lists are as their text lays them (the card ties them).
-/
import Derived.Test.YtpjlcffpeadohaaDoorItGo
import Derived.Test.YtpjlcffpeadohaaDoorItRefB
namespace Go.Proofs.YtpjlcffpeadohaaDoor
open Go.ChangeShapes Go.WideShapes Go.ChangeAt Go.RowKit Go.Sort
open Go.ChangeMaps (open_string shut_string)
set_option linter.unusedSimpArgs false
set_option linter.unusedVariables false
set_option maxRecDepth 100000

set_option maxHeartbeats 4000000 in
theorem itemCounts_walk (w : World) (ht : Tab w) (s : ByteArray) (w0 : s.size ≤ maxLen) (t : ByteArray) (w1 : t.size ≤ maxLen) (a : Int) (w2 : (Lit.int .u64 a).wf = true) (down : Bool) :
    Calls Tryd.prog 4 #[.string s, .string t, .int .u64 a, .bool down] w fun e w' => e = .returned (.bool true) ∧ RowKit.Below w.heap.size w w' := by
  have hb := bounds_u64 w2
  obtain ⟨n, rfl⟩ : ∃ n : Nat, a = n := ⟨a.toNat, by omega⟩
  have hn : n < 18446744073709551616 := by omega
  clear w0 w1 w2 hb
  by_cases hs : 2000 < s.size
  · have hs1 : (2000 : Int) < (s.size : Int) := by omega
    clear ht hs
    go_enter Tryd.func4, Tryd.ntmps4
    go_wp2
    go_ret
    exact ⟨rfl, RowKit.Below.refl _ _⟩
  have hs1 : ¬ ((2000 : Int) < (s.size : Int)) := by omega
  by_cases hl : 2000 < t.size
  · have hl1 : (2000 : Int) < (t.size : Int) := by omega
    clear ht hs hl
    go_enter Tryd.func4, Tryd.ntmps4
    go_wp2
    go_ret
    exact ⟨rfl, RowKit.Below.refl _ _⟩
  have hl1 : ¬ ((2000 : Int) < (t.size : Int)) := by omega
  have HT := Hid.mk2 (fun W (hW : RowKit.Below w.heap.size w W) => ht.below hW)
  have HB := Hid.mk2 (RowKit.Below.refl w.heap.size w)
  have HN := Hid.mk2 (fun W => number_b s W)
  have HM := Hid.mk2 (fun W => rnumber_any s W)
  have HC := Hid.mk2 (fun W hW => count_any s n hn down W hW)
  have HD := Hid.mk2 (fun W => rcount_any s n hn down W)
  have HJ := Hid.mk2 (fun W => join_any s t (by omega) (by omega) W)
  have HK := Hid.mk2 (fun W => rjoin_any s t (by omega) (by omega) W)
  have HX := Hid.mk2 (fun W hW => text_b n hn W hW)
  have HY := Hid.mk2 (fun W => rtext_b n hn W)
  obtain ⟨V, e1⟩ : ∃ V, V = numV (bl s) := ⟨_, rfl⟩
  obtain ⟨B, e2⟩ : ∃ B, B = isNum (bl s) := ⟨_, rfl⟩
  obtain ⟨C, e3⟩ : ∃ C, C = cS s n down := ⟨_, rfl⟩
  obtain ⟨D, e4⟩ : ∃ D, D = cV s n down := ⟨_, rfl⟩
  obtain ⟨J, e5⟩ : ∃ J, J = jnV s t := ⟨_, rfl⟩
  obtain ⟨F, e6⟩ : ∃ F, F = jnE s t := ⟨_, rfl⟩
  obtain ⟨X, e7⟩ : ∃ X : ByteArray, X = ⟨(decL n).toArray⟩ := ⟨_, rfl⟩
  rw [← e1, ← e2] at HN HM
  rw [← e2, ← e3, ← e4] at HC HD
  rw [← e5, ← e6] at HJ HK
  rw [← e7] at HX HY
  clear ht hs hl e1 e2 e3 e4 e5 e6 e7
  go_enter Tryd.func4, Tryd.ntmps4
  go_wp2_with (first
    | (go_at_call 8; refine (HN.out _).mono ?_; rintro e w9 ⟨rfl, hb9⟩; have HB9 := Hid.mk2 (below_on HB.out hb9); clear hb9 HB; have HB := HB9; clear HB9)
    | (go_at_call 12; refine (HM.out _).mono ?_; rintro e w9 ⟨rfl, hw9⟩; subst hw9)
    | (go_at_call 9; refine (HC.out _ (HT.out _ HB.out)).mono ?_; rintro e w9 ⟨rfl, hb9⟩; have HB9 := Hid.mk2 (below_on HB.out hb9); clear hb9 HB; have HB := HB9; clear HB9)
    | (go_at_call 13; refine (HD.out _).mono ?_; rintro e w9 ⟨rfl, hw9⟩; subst hw9)
    | (go_at_call 14; refine (HJ.out _).mono ?_; rintro e w9 ⟨rfl, hb9⟩; have HB9 := Hid.mk2 (below_on HB.out hb9); clear hb9 HB; have HB := HB9; clear HB9)
    | (go_at_call 15; refine (HK.out _).mono ?_; rintro e w9 ⟨rfl, hw9⟩; subst hw9)
    | (go_at_call 16; refine (HX.out _ (HT.out _ HB.out)).mono ?_; rintro e w9 ⟨rfl, hb9⟩; have HB9 := Hid.mk2 (below_on HB.out hb9); clear hb9 HB; have HB := HB9; clear HB9)
    | (go_at_call 17; refine (HY.out _).mono ?_; rintro e w9 ⟨rfl, hw9⟩; subst hw9))
  all_goals go_ret
  all_goals exact ⟨by simp, HB.out⟩

set_option maxRecDepth 100000 in
theorem itemCounts_lifted (os : Os) (started : os.Started) (H : Type) (enc : TypeId × Value → H) :
    ReturnsInHanded {} Tryd.checked os 4 .any (fun w args => (Rows.itemCountsSpec.pre enc Tryd.prog Tryd.f4 [] false w args ∧ laidMetH Tryd.prog laid3 w) ∧ sizedMet enc Tryd.prog Tryd.f4 (OpenSpec.ofChange Rows.itemCountsSpec) false w args) (Rows.itemCountsSpec.post enc Tryd.prog Tryd.f4 false true false false) := by
  refine returnsInHanded_of_change_and (C := Tryd.checked) (X := fun w _ => laidMetH Tryd.prog laid3 w) (fun _ _ _ hh h => h.of_heap hh) own started (by kernel_rfl) Tryd.func4
    (ChangeSpec.witness_shaped (enc := enc) (C := Tryd.checked) (os := os) (X := fun w _ => laidMetH Tryd.prog laid3 w) false (World.doorLaid Tryd.prog 400 os) #[.string ByteArray.empty, .string ByteArray.empty, .int .u64 0, .bool false] 8 rfl (World.shaped_of_RefB (by kernel_rfl) (by kernel_rfl)) (by kernel_rfl) (by kernel_rfl) (by kernel_rfl) (door_met os _)) ?_
  intro W base args ds gs before hval0 hW hcnd _ hL _
  have hval : ∀ (j : Nat) t v, Tryd.f4.params[j]? = some t → args[j]? = some v → Value.okWide Tryd.prog W .any base t v := hval0
  have hW' := hW
  obtain ⟨p, q, hA0, hV, rfl, hfz, hnd⟩ := hW
  have hA : DataW.TrodAll enc Tryd.prog W 0 (fun _ => true) true Tryd.f4.params.toList args.toList ds p := hA0
  rw [Tryd.params4] at hA hval
  obtain ⟨v0, vs0, d0, ds0, p0, q0, hargs, rfl, rfl, h0, r0⟩ := trodAll_cons hA
  obtain ⟨v1, vs1, d1, ds1, p1, q1, rfl, rfl, rfl, h1, r1⟩ := trodAll_cons r0
  obtain ⟨v2, vs2, d2, ds2, p2, q2, rfl, rfl, rfl, h2, r2⟩ := trodAll_cons r1
  obtain ⟨v3, vs3, d3, ds3, p3, q3, rfl, rfl, rfl, h3, r3⟩ := trodAll_cons r2
  obtain ⟨rfl, rfl, rfl⟩ := trodAll_nil r3
  obtain rfl : args = #[v0, v1, v2, v3] := by cases args; simp_all
  obtain ⟨rfl, rfl⟩ := trodVars_none hV
  obtain ⟨a0, rfl, rfl, rfl, w0⟩ := open_string Tryd.underlying9 (hval 0 9 v0 rfl rfl) h0
  obtain ⟨a1, rfl, rfl, rfl, w1⟩ := open_string Tryd.underlying9 (hval 1 9 v1 rfl rfl) h1
  obtain ⟨a2, rfl, rfl, rfl, w2⟩ := open_int Tryd.underlying25 (hval 2 25 v2 rfl rfl) h2
  obtain ⟨a3, rfl, rfl, rfl⟩ := open_bool Tryd.underlying4 (hval 3 4 v3 rfl rfl) h3
  clear hA0 hval0
  refine (itemCounts_walk W (tab_of_laid hL) a0 w0 a1 w1 a2 w2 a3).mono fun e W' ⟨he, bel⟩ => ?_
  subst he
  exact ⟨_, rfl, _, _, _, [], _, [], hW', trodAll_mk1 (shut_bool Tryd.underlying4 _), (trodAll_cons_mk (shut_string Tryd.underlying9 w0) (trodAll_cons_mk (shut_string Tryd.underlying9 w1) (trodAll_cons_mk (shut_int Tryd.underlying25 w2) (trodAll_cons_mk (shut_bool Tryd.underlying4 _) trodAll_mk0)))), rfl, bel.frame _, fun h => by cases h⟩

theorem itemCounts_proved : Rows.ItemCountsSaid :=
  OpenClaim.holds_of_wide 4 Tryd.f4 rfl rfl rfl rfl rfl rfl rfl ⟨rfl, rfl, rfl, rfl, rfl⟩ rfl rfl rfl rfl rfl (by kernel_rfl) Tryd.func4 (by kernel_rfl)
    (of_decide_eq_true (by kernel_rfl)) (by unfold Func.isWrapper; first | (rw [if_pos (by decide +kernel)]; kernel_rfl) | (rw [if_neg (by decide +kernel)]; exact ⟨rfl, rfl⟩))
    (fun os started H enc _ => itemCounts_lifted os started H enc)

theorem itemCounts_card : Rows.ItemCountsCardSaid :=
  Claim7.holds_tied_plain_at .later [] [.data, .data, .data] true Rows.itemCountsCard.stood.harness false
    itemCounts_proved (fun _ h => by cases h) (by kernel_rfl) (fun _ h => by cases h) itemCounts_row_tie rfl ⟨rfl, rfl⟩ (by kernel_rfl) rfl
    (fun f fn hf hfn => by
      obtain rfl : f = 4 := Option.some.inj ((show Tryd.prog.funcNamed "cloakroom/cloakroomlaw09.ItemCounts" = some 4 by kernel_rfl).symm.trans hf) |>.symm
      obtain rfl : fn = Tryd.f4 := (Option.some.inj (Tryd.func4.symm.trans hfn)).symm
      exact ⟨by kernel_rfl, fun j t ht => by
        rw [Tryd.params4] at ht
        have hm : t ∈ ([9, 9, 25, 4] : List TypeId) := by simpa using Array.mem_of_getElem? ht
        have hall : (([9, 9, 25, 4] : List TypeId).all fun u => !Tryd.prog.wantsStandIn u) = true := by kernel_rfl
        exact (show Tryd.prog.wantsStandIn t = false by simpa using List.all_eq_true.1 hall t hm)⟩)
    (by kernel_rfl)
#print axioms itemCounts_card
end Go.Proofs.YtpjlcffpeadohaaDoor
