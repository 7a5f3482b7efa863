/-
  ItemNames: the chapter's examples. The library's tables that the row lists are as their text lays them (the card ties them).
-/
import Derived.Test.YtpjlcffpeadohaaDoorItGo
import Derived.Deep.Cut
namespace Go.Proofs.YtpjlcffpeadohaaDoor
open Go.ChangeShapes Go.WideShapes Go.ChangeAt Go.RowKit Go.Sort
open Go.ChangeMaps (open_string shut_string)
set_option linter.unusedSimpArgs false
set_option linter.unusedVariables false
set_option maxRecDepth 100000

def gst : ByteArray := ⟨#[49, 56, 52, 52, 54, 55, 52, 52, 48, 55, 51, 55, 48, 57, 53, 53, 49, 54, 49, 53]⟩
def bey : ByteArray := ⟨#[49, 56, 52, 52, 54, 55, 52, 52, 48, 55, 51, 55, 48, 57, 53, 53, 49, 54, 49, 54]⟩
theorem nn1 : isNum (bl gst) = true ∧ numV (bl gst) = 18446744073709551615 := by decide
theorem nn2 : isNum (bl bey) = false ∧ numV (bl bey) = 0 := by decide
theorem nn3 : isNum (bl ⟨#[48]⟩) = true ∧ numV (bl ⟨#[48]⟩) = 0 := by decide
theorem nn4 : isNum (bl ⟨#[48, 48]⟩) = false ∧ numV (bl ⟨#[48, 48]⟩) = 0 := by decide
theorem nn5 : isNum (bl ⟨#[]⟩) = false ∧ numV (bl ⟨#[]⟩) = 0 := by decide
theorem nn6 : isNum (bl ⟨#[49, 48]⟩) = true ∧ numV (bl ⟨#[49, 48]⟩) = 10 := by decide
theorem nn7 : isNum (bl ⟨#[120]⟩) = false ∧ numV (bl ⟨#[120]⟩) = 0 := by decide
theorem nc1 : cS ⟨#[49, 48]⟩ 3 true = ⟨#[55]⟩ ∧ cV ⟨#[49, 48]⟩ 3 true = 7 := by
  unfold cS cV
  rw [if_pos nn6.1, if_pos nn6.1, nn6.2]
  have : decL (cntN 10 3 true) = [55] := by
    show decL 7 = _
    rw [decL_small (by decide)]
    rfl
  rw [this]
  exact ⟨rfl, rfl⟩
theorem nc2 : cS ⟨#[49, 48]⟩ 11 true = ⟨#[48]⟩ ∧ cV ⟨#[49, 48]⟩ 11 true = 0 := by
  unfold cS cV
  rw [if_pos nn6.1, if_pos nn6.1, nn6.2]
  have : decL (cntN 10 11 true) = [48] := by
    show decL 0 = _
    rw [decL_small (by decide)]
    rfl
  rw [this]
  exact ⟨rfl, rfl⟩
theorem nc3 : cS ⟨#[120]⟩ 1 false = ⟨#[]⟩ ∧ cV ⟨#[120]⟩ 1 false = 0 := by
  unfold cS cV
  rw [if_neg (by rw [nn7.1]; decide), if_neg (by rw [nn7.1]; decide)]
  exact ⟨rfl, rfl⟩
theorem nu1 : unV 5 0 = 0 ∧ unE 5 0 = 0 := by decide
theorem nu2 : unV 5 7 = 12 ∧ unE 5 7 = 0 := by decide
theorem nu3 : unV 1099511627776 1 = 0 ∧ unE 1099511627776 1 = 0 := by decide
theorem nu4 : unV (-1) 0 = 0 ∧ unE (-1) 0 = 2 := by decide
theorem nk1 : ckE ⟨⟨#[]⟩, ⟨#[]⟩, 0, 0, 0⟩ = 3 := by decide
theorem nk2 : ckE ⟨⟨#[107]⟩, ⟨#[]⟩, 0, -1, 0⟩ = 2 := by decide
theorem chk1 (w : World) : Calls Tryd.prog 10 #[.agg #[.string ⟨#[]⟩, .string ⟨#[]⟩, .int .u32 0, .int .i64 0, .int .u64 0]] w fun e w' => e = .returned (.int .i64 3) ∧ RowKit.Below w.heap.size w w' := by
  have := icheck_b ⟨⟨#[]⟩, ⟨#[]⟩, 0, 0, 0⟩ w
  rw [nk1] at this
  exact this
theorem chk2 (w : World) : Calls Tryd.prog 10 #[.agg #[.string ⟨#[107]⟩, .string ⟨#[]⟩, .int .u32 0, .int .i64 (-1), .int .u64 0]] w fun e w' => e = .returned (.int .i64 2) ∧ RowKit.Below w.heap.size w w' := by
  have := icheck_b ⟨⟨#[107]⟩, ⟨#[]⟩, 0, -1, 0⟩ w
  rw [nk2] at this
  exact this
theorem num1 (w : World) : Calls Tryd.prog 8 #[.string ⟨#[49, 56, 52, 52, 54, 55, 52, 52, 48, 55, 51, 55, 48, 57, 53, 53, 49, 54, 49, 53]⟩] w fun e w' => e = .returned (.tuple #[.int .u64 18446744073709551615, .bool true]) ∧ RowKit.Below w.heap.size w w' := by
  have := number_b gst w
  rw [nn1.1, nn1.2] at this
  exact this
theorem num2 (w : World) : Calls Tryd.prog 8 #[.string ⟨#[49, 56, 52, 52, 54, 55, 52, 52, 48, 55, 51, 55, 48, 57, 53, 53, 49, 54, 49, 54]⟩] w fun e w' => e = .returned (.tuple #[.int .u64 0, .bool false]) ∧ RowKit.Below w.heap.size w w' := by
  have := number_b bey w
  rw [nn2.1, nn2.2] at this
  exact this
theorem num3 (w : World) : Calls Tryd.prog 8 #[.string ⟨#[48]⟩] w fun e w' => e = .returned (.tuple #[.int .u64 0, .bool true]) ∧ RowKit.Below w.heap.size w w' := by
  have := number_b ⟨#[48]⟩ w
  rw [nn3.1, nn3.2] at this
  exact this
theorem num4 (w : World) : Calls Tryd.prog 8 #[.string ⟨#[48, 48]⟩] w fun e w' => e = .returned (.tuple #[.int .u64 0, .bool false]) ∧ RowKit.Below w.heap.size w w' := by
  have := number_b ⟨#[48, 48]⟩ w
  rw [nn4.1, nn4.2] at this
  exact this
theorem num5 (w : World) : Calls Tryd.prog 8 #[.string ⟨#[]⟩] w fun e w' => e = .returned (.tuple #[.int .u64 0, .bool false]) ∧ RowKit.Below w.heap.size w w' := by
  have := number_b ⟨#[]⟩ w
  rw [nn5.1, nn5.2] at this
  exact this
theorem cnt1 (w : World) (ht : Tab w) : Calls Tryd.prog 9 #[.string ⟨#[49, 48]⟩, .int .u64 3, .bool true] w fun e w' => e = .returned (.tuple #[.string ⟨#[55]⟩, .int .u64 7, .bool true]) ∧ RowKit.Below w.heap.size w w' := by
  have := count_any ⟨#[49, 48]⟩ 3 (by decide) true w ht
  rw [nc1.1, nc1.2, nn6.1] at this
  exact this
theorem cnt2 (w : World) (ht : Tab w) : Calls Tryd.prog 9 #[.string ⟨#[49, 48]⟩, .int .u64 11, .bool true] w fun e w' => e = .returned (.tuple #[.string ⟨#[48]⟩, .int .u64 0, .bool true]) ∧ RowKit.Below w.heap.size w w' := by
  have := count_any ⟨#[49, 48]⟩ 11 (by decide) true w ht
  rw [nc2.1, nc2.2, nn6.1] at this
  exact this
theorem cnt3 (w : World) (ht : Tab w) : Calls Tryd.prog 9 #[.string ⟨#[120]⟩, .int .u64 1, .bool false] w fun e w' => e = .returned (.tuple #[.string ⟨#[]⟩, .int .u64 0, .bool false]) ∧ RowKit.Below w.heap.size w w' := by
  have := count_any ⟨#[120]⟩ 1 (by decide) false w ht
  rw [nc3.1, nc3.2, nn7.1] at this
  exact this
theorem utl1 (w : World) : Calls Tryd.prog 7 #[.int .i64 5, .int .i64 0] w fun e w' => e = .returned (.tuple #[.int .i64 0, .int .i64 0]) ∧ w' = w := by
  have := iuntil_any 5 0 w
  rw [nu1.1, nu1.2] at this
  exact this
theorem utl2 (w : World) : Calls Tryd.prog 7 #[.int .i64 5, .int .i64 7] w fun e w' => e = .returned (.tuple #[.int .i64 12, .int .i64 0]) ∧ w' = w := by
  have := iuntil_any 5 7 w
  rw [nu2.1, nu2.2] at this
  exact this
theorem utl3 (w : World) : Calls Tryd.prog 7 #[.int .i64 1099511627776, .int .i64 1] w fun e w' => e = .returned (.tuple #[.int .i64 0, .int .i64 0]) ∧ w' = w := by
  have := iuntil_any 1099511627776 1 w
  rw [nu3.1, nu3.2] at this
  exact this
theorem utl4 (w : World) : Calls Tryd.prog 7 #[.int .i64 (-1), .int .i64 0] w fun e w' => e = .returned (.tuple #[.int .i64 0, .int .i64 2]) ∧ w' = w := by
  have := iuntil_any (-1) 0 w
  rw [nu4.1, nu4.2] at this
  exact this

set_option maxHeartbeats 8000000 in
theorem itemNames_walk (w : World) (ht : Tab w) :
    Calls Tryd.prog 3 #[] w fun e w' => e = .returned (.bool true) ∧ RowKit.Below w.heap.size w w' := by
  have HT := Hid.mk2 (fun W (hW : RowKit.Below w.heap.size w W) => ht.below hW)
  have HB := Hid.mk2 (RowKit.Below.refl w.heap.size w)
  clear ht
  go_enter Tryd.func3, Tryd.ntmps3
  go_upto_region 2 with (go_at_call 7; refine (utl1 _).mono ?_; rintro e w9 ⟨rfl, rfl⟩)
  go_upto_region 3 with (go_at_call 7; refine (utl2 _).mono ?_; rintro e w9 ⟨rfl, rfl⟩)
  go_upto_region 4 with (go_at_call 7; refine (utl3 _).mono ?_; rintro e w9 ⟨rfl, rfl⟩)
  go_upto_region 5 with (go_at_call 7; refine (utl4 _).mono ?_; rintro e w9 ⟨rfl, rfl⟩)
  go_upto_region 7 with (go_at_call 8; refine (num1 _).mono ?_; rintro e w9 ⟨rfl, hb9⟩; have HB9 := Hid.mk2 (below_on HB.out hb9); clear hb9 HB; have HB := HB9; clear HB9)
  go_upto_region 8 with (go_at_call 8; refine (num2 _).mono ?_; rintro e w9 ⟨rfl, hb9⟩; have HB9 := Hid.mk2 (below_on HB.out hb9); clear hb9 HB; have HB := HB9; clear HB9)
  go_upto_region 9 with (go_at_call 8; refine (num3 _).mono ?_; rintro e w9 ⟨rfl, hb9⟩; have HB9 := Hid.mk2 (below_on HB.out hb9); clear hb9 HB; have HB := HB9; clear HB9)
  go_upto_region 10 with (go_at_call 8; refine (num4 _).mono ?_; rintro e w9 ⟨rfl, hb9⟩; have HB9 := Hid.mk2 (below_on HB.out hb9); clear hb9 HB; have HB := HB9; clear HB9)
  go_upto_region 11 with (go_at_call 8; refine (num5 _).mono ?_; rintro e w9 ⟨rfl, hb9⟩; have HB9 := Hid.mk2 (below_on HB.out hb9); clear hb9 HB; have HB := HB9; clear HB9)
  go_upto_region 13 with (go_at_call 9; refine (cnt1 _ (HT.out _ HB.out)).mono ?_; rintro e w9 ⟨rfl, hb9⟩; have HB9 := Hid.mk2 (below_on HB.out hb9); clear hb9 HB; have HB := HB9; clear HB9)
  go_upto_region 14 with (go_at_call 9; refine (cnt2 _ (HT.out _ HB.out)).mono ?_; rintro e w9 ⟨rfl, hb9⟩; have HB9 := Hid.mk2 (below_on HB.out hb9); clear hb9 HB; have HB := HB9; clear HB9)
  go_upto_region 15 with (go_at_call 9; refine (cnt3 _ (HT.out _ HB.out)).mono ?_; rintro e w9 ⟨rfl, hb9⟩; have HB9 := Hid.mk2 (below_on HB.out hb9); clear hb9 HB; have HB := HB9; clear HB9)
  go_upto_region 16 with (go_at_call 10; refine (chk1 _).mono ?_; rintro e w9 ⟨rfl, hb9⟩; have HB9 := Hid.mk2 (below_on HB.out hb9); clear hb9 HB; have HB := HB9; clear HB9)
  go_upto_region 17 with (go_at_call 10; refine (chk2 _).mono ?_; rintro e w9 ⟨rfl, hb9⟩; have HB9 := Hid.mk2 (below_on HB.out hb9); clear hb9 HB; have HB := HB9; clear HB9)
  go_wp2_with (go_at_call 11; refine (alive9_any _ (HT.out _ HB.out)).mono ?_; rintro e w9 ⟨rfl, hb9⟩; have HB9 := Hid.mk2 (below_on HB.out hb9); clear hb9 HB; have HB := HB9; clear HB9)
  go_ret
  exact ⟨rfl, HB.out⟩

set_option maxRecDepth 100000 in
theorem itemNames_lifted (os : Os) (started : os.Started) (H : Type) (enc : TypeId × Value → H) :
    ReturnsInHanded {} Tryd.checked os 3 .any (fun w args => (Rows.itemNamesSpec.pre enc Tryd.prog Tryd.f3 [] false w args ∧ laidMetH Tryd.prog laid3 w) ∧ sizedMet enc Tryd.prog Tryd.f3 (OpenSpec.ofChange Rows.itemNamesSpec) false w args) (Rows.itemNamesSpec.post enc Tryd.prog Tryd.f3 false true false false) := by
  refine returnsInHanded_of_change_and (C := Tryd.checked) (X := fun w _ => laidMetH Tryd.prog laid3 w) (fun _ _ _ hh h => h.of_heap hh) own started (by kernel_rfl) Tryd.func3
    (ChangeSpec.witness_shaped (enc := enc) (C := Tryd.checked) (os := os) (X := fun w _ => laidMetH Tryd.prog laid3 w) false (World.doorLaid Tryd.prog 400 os) #[] 8 rfl (World.shaped_of_RefB (by kernel_rfl) (by kernel_rfl)) (by kernel_rfl) (by kernel_rfl) (by kernel_rfl) (door_met os _)) ?_
  intro W base args ds gs before hval0 hW hcnd _ hL _
  have hval : ∀ (j : Nat) t v, Tryd.f3.params[j]? = some t → args[j]? = some v → Value.okWide Tryd.prog W .any base t v := hval0
  have hW' := hW
  obtain ⟨p, q, hA0, hV, rfl, hfz, hnd⟩ := hW
  have hA : DataW.TrodAll enc Tryd.prog W 0 (fun _ => true) true Tryd.f3.params.toList args.toList ds p := hA0
  rw [Tryd.params3] at hA hval
  obtain ⟨rfl, rfl, rfl⟩ := trodAll_none hA
  obtain ⟨rfl, rfl⟩ := trodVars_none hV
  clear hA0 hval0
  refine (itemNames_walk W (tab_of_laid hL) ).mono fun e W' ⟨he, bel⟩ => ?_
  subst he
  exact ⟨_, rfl, _, _, _, [], _, [], hW', trodAll_mk1 (shut_bool Tryd.underlying4 _), trodAll_mk0, rfl, bel.frame _, fun h => by cases h⟩

theorem itemNames_proved : Rows.ItemNamesSaid :=
  OpenClaim.holds_of_wide 3 Tryd.f3 rfl rfl rfl rfl rfl rfl rfl ⟨rfl, rfl, rfl, rfl, rfl⟩ rfl rfl rfl rfl rfl (by kernel_rfl) Tryd.func3 (by kernel_rfl)
    (of_decide_eq_true (by kernel_rfl)) (by unfold Func.isWrapper; first | (rw [if_pos (by decide +kernel)]; kernel_rfl) | (rw [if_neg (by decide +kernel)]; exact ⟨rfl, rfl⟩))
    (fun os started H enc _ => itemNames_lifted os started H enc)

theorem itemNames_card : Rows.ItemNamesCardSaid :=
  Claim7.holds_tied_plain_at .later [] [.data, .data, .data] true Rows.itemNamesCard.stood.harness false
    itemNames_proved (fun _ h => by cases h) (by kernel_rfl) (fun _ h => by cases h) itemNames_row_tie rfl ⟨rfl, rfl⟩ (by kernel_rfl) rfl
    (fun f fn hf hfn => by
      obtain rfl : f = 3 := Option.some.inj ((show Tryd.prog.funcNamed "cloakroom/cloakroomlaw09.ItemNames" = some 3 by kernel_rfl).symm.trans hf) |>.symm
      obtain rfl : fn = Tryd.f3 := (Option.some.inj (Tryd.func3.symm.trans hfn)).symm
      exact ⟨by kernel_rfl, fun j t ht => by
        rw [Tryd.params3] at ht
        have hm : t ∈ ([] : List TypeId) := by simpa using Array.mem_of_getElem? ht
        have hall : (([] : List TypeId).all fun u => !Tryd.prog.wantsStandIn u) = true := by kernel_rfl
        exact (show Tryd.prog.wantsStandIn t = false by simpa using List.all_eq_true.1 hall t hm)⟩)
    (by kernel_rfl)
#print axioms itemNames_card
end Go.Proofs.YtpjlcffpeadohaaDoor
