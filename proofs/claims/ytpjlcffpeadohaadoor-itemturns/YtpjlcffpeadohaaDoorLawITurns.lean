/-
  ItemTurns: what is counted up and down by the same is what it was, if nothing went beyond; what is due by a moment is so by every later one. The library's tables that the row lists are as their text lays them (the card ties them).
-/
import Derived.Test.YtpjlcffpeadohaaDoorItGo
import Derived.Deep.Cut
namespace Go.Proofs.YtpjlcffpeadohaaDoor
open Go.ChangeShapes Go.WideShapes Go.ChangeAt Go.RowKit Go.Sort
open Go.ChangeMaps (open_string shut_string)
set_option linter.unusedSimpArgs false
set_option linter.unusedVariables false
set_option maxRecDepth 100000

theorem due_later {x : It} {now later : Int} (h : dueV x now = true) (hl : ¬ later < now) : dueV x later = true := by
  unfold dueV at *
  simp at *
  exact ⟨h.1, by omega⟩

set_option maxHeartbeats 4000000 in
theorem turns_a (w : World) (ht : Tab w) (n by_ : Nat) (hn : n < 18446744073709551616) (hby : by_ < 18446744073709551616) (x : It) (now later : Int) (hcase : (n ≤ (n + by_) % 18446744073709551616)) :
    Calls Tryd.prog 6 #[.int .u64 n, .int .u64 by_, x.v, .int .i64 now, .int .i64 later] w fun e w' => e = .returned (.bool true) ∧ RowKit.Below w.heap.size w w' := by
  obtain ⟨m, hmm⟩ : ∃ m, m = cntN n by_ false := ⟨_, rfl⟩
  obtain ⟨k, hkk⟩ : ∃ k, k = cntN m by_ true := ⟨_, rfl⟩
  have hm : m < 18446744073709551616 := by rw [hmm]; exact cntN_lt _ hn
  have hk : k < 18446744073709551616 := by rw [hkk]; exact cntN_lt _ hm
  have hme : m = (n + by_) % 18446744073709551616 := by rw [hmm]; rfl
  have hke : k = m - by_ := by rw [hkk]; rfl
  obtain ⟨X, hX⟩ : ∃ X : ByteArray, X = ⟨(decL n).toArray⟩ := ⟨_, rfl⟩
  obtain ⟨Y, hY⟩ : ∃ Y : ByteArray, Y = ⟨(decL m).toArray⟩ := ⟨_, rfl⟩
  obtain ⟨Z, hZ⟩ : ∃ Z : ByteArray, Z = ⟨(decL k).toArray⟩ := ⟨_, rfl⟩
  obtain ⟨a1, a2⟩ := count_text hn by_ false
  obtain ⟨b1, b2⟩ := count_text hm by_ true
  have a3 := (text_back hn).1
  have b3 := (text_back hm).1
  rw [← hmm] at a1 a2
  rw [← hkk] at b1 b2
  rw [← hX] at a1 a2 a3
  rw [← hY] at a1 b1 b2 b3
  rw [← hZ] at b1
  have hkn : k = n := by omega
  subst hkn
  have hXZ : Z = X := by rw [hX, hZ]
  subst hXZ
  have hmn : k ≤ m := by omega
  have hw1 : IntKind.u64.wrap ((k : Int) + (by_ : Int)) = (m : Int) := by rw [IntKind.wrap_u64, hme]; omega
  have A1 := Hid.mk2 a1
  have A2 := Hid.mk2 a2
  have A3 := Hid.mk2 a3
  have B1 := Hid.mk2 b1
  have B2 := Hid.mk2 b2
  have B3 := Hid.mk2 b3
  have HX := Hid.mk2 hX
  have HY := Hid.mk2 hY
  have HZ := Hid.mk2 hZ
  have HM := Hid.mk2 (It.At.made x w)
  have HDU := Hid.mk2 (fun t W => idue_b x t W)
  have HDL0 := fun h hl => due_later (x := x) (now := now) (later := later) h hl
  obtain ⟨DV, hDV⟩ : ∃ DV : Int → Bool, ∀ t, DV t = dueV x t := ⟨_, fun _ => rfl⟩
  simp only [← hDV] at HDU HDL0
  have HDL := Hid.mk2 HDL0
  clear a1 a2 a3 b1 b2 b3 hX hY hZ hmm hkk hme hke hcase hDV HDL0
  have HT := Hid.mk2 (fun W (hW : RowKit.Below (w.alloc x.obj).heap.size (w.alloc x.obj) W) => (ht.below ((RowKit.Below.refl _ _).alloc (Nat.le_refl _) x.obj)).below hW)
  have HB := Hid.mk2 (RowKit.Below.refl (w.alloc x.obj).heap.size (w.alloc x.obj))
  clear ht
  obtain ⟨key, value, flags, till, unique⟩ := x
  unfold It.v It.obj at *
  dsimp only at *
  go_enter Tryd.func6, Tryd.ntmps6
  go_upto_region 8 with (first
    | (go_at_call 11; refine (alive9_any _ (HT.out _ HB.out)).mono ?_; rintro e w9 ⟨rfl, hb9⟩; have HB9 := Hid.mk2 (below_on HB.out hb9); clear hb9 HB; have HB := HB9; clear HB9)
    | (go_at_call 16; refine (text_b _ (by first | exact hn | exact hm | exact hk) _ (HT.out _ HB.out)).mono ?_; rintro e w9 ⟨rfl, hb9⟩; have HB9 := Hid.mk2 (below_on HB.out hb9); clear hb9 HB; have HB := HB9; clear HB9; (first | rw [← HX.out] | rw [← HY.out] | rw [← HZ.out]))
    | (go_at_call 9; refine (count_any _ _ hby _ _ (HT.out _ HB.out)).mono ?_; rintro e w9 ⟨rfl, hb9⟩; have HB9 := Hid.mk2 (below_on HB.out hb9); clear hb9 HB; have HB := HB9; clear HB9; (first | rw [A1.out, A2.out, A3.out] | rw [B1.out, B2.out, B3.out])))
  obtain ⟨hlt, c0, c1, c2, c3, c4⟩ := HM.out.below HB.out
  dsimp only at c0 c1 c2 c3 c4
  cases hd1 : DV now
  · go_wp2_with (go_at_call 18; refine (HDU.out _ _).mono ?_; rintro e w9 ⟨rfl, hb9⟩; rw [hd1]; have HB9 := Hid.mk2 (below_on HB.out hb9); clear hb9)
    all_goals go_ret
    all_goals exact ⟨by simp, (((RowKit.Below.refl _ _).alloc (Nat.le_refl _) _).trans (HB9.out.mono (by simp)))⟩
  by_cases hl : later < now
  · go_wp2_with (go_at_call 18; refine (HDU.out _ _).mono ?_; rintro e w9 ⟨rfl, hb9⟩; rw [hd1]; have HB9 := Hid.mk2 (below_on HB.out hb9); clear hb9)
    all_goals go_ret
    all_goals exact ⟨by simp, (((RowKit.Below.refl _ _).alloc (Nat.le_refl _) _).trans (HB9.out.mono (by simp)))⟩
  · have hd2 : DV later = true := HDL.out hd1 (by omega)
    go_wp2_with (go_at_call 18; refine (HDU.out _ _).mono ?_; rintro e w9 ⟨rfl, hb9⟩; (first | rw [hd1] | rw [hd2]); have HB9 := Hid.mk2 (below_on HB.out hb9); clear hb9 HB c0 c1 c2 c3 c4; have HB := HB9; clear HB9; obtain ⟨hlt9, c0, c1, c2, c3, c4⟩ := HM.out.below HB.out; dsimp only at c0 c1 c2 c3 c4)
    all_goals go_ret
    all_goals exact ⟨by simp, (((RowKit.Below.refl _ _).alloc (Nat.le_refl _) _).trans (HB.out.mono (by simp)))⟩

set_option maxHeartbeats 4000000 in
theorem turns_b (w : World) (ht : Tab w) (n by_ : Nat) (hn : n < 18446744073709551616) (hby : by_ < 18446744073709551616) (x : It) (now later : Int) (hcase : ¬ (n ≤ (n + by_) % 18446744073709551616)) :
    Calls Tryd.prog 6 #[.int .u64 n, .int .u64 by_, x.v, .int .i64 now, .int .i64 later] w fun e w' => e = .returned (.bool true) ∧ RowKit.Below w.heap.size w w' := by
  obtain ⟨m, hmm⟩ : ∃ m, m = cntN n by_ false := ⟨_, rfl⟩
  obtain ⟨k, hkk⟩ : ∃ k, k = cntN m by_ true := ⟨_, rfl⟩
  have hm : m < 18446744073709551616 := by rw [hmm]; exact cntN_lt _ hn
  have hk : k < 18446744073709551616 := by rw [hkk]; exact cntN_lt _ hm
  have hme : m = (n + by_) % 18446744073709551616 := by rw [hmm]; rfl
  have hke : k = m - by_ := by rw [hkk]; rfl
  obtain ⟨X, hX⟩ : ∃ X : ByteArray, X = ⟨(decL n).toArray⟩ := ⟨_, rfl⟩
  obtain ⟨Y, hY⟩ : ∃ Y : ByteArray, Y = ⟨(decL m).toArray⟩ := ⟨_, rfl⟩
  obtain ⟨Z, hZ⟩ : ∃ Z : ByteArray, Z = ⟨(decL k).toArray⟩ := ⟨_, rfl⟩
  obtain ⟨a1, a2⟩ := count_text hn by_ false
  obtain ⟨b1, b2⟩ := count_text hm by_ true
  have a3 := (text_back hn).1
  have b3 := (text_back hm).1
  rw [← hmm] at a1 a2
  rw [← hkk] at b1 b2
  rw [← hX] at a1 a2 a3
  rw [← hY] at a1 b1 b2 b3
  rw [← hZ] at b1
  have hmn : ¬ n ≤ m := by omega
  have hw1 : IntKind.u64.wrap ((n : Int) + (by_ : Int)) = (m : Int) := by rw [IntKind.wrap_u64, hme]; omega
  have A1 := Hid.mk2 a1
  have A2 := Hid.mk2 a2
  have A3 := Hid.mk2 a3
  have B1 := Hid.mk2 b1
  have B2 := Hid.mk2 b2
  have B3 := Hid.mk2 b3
  have HX := Hid.mk2 hX
  have HY := Hid.mk2 hY
  have HZ := Hid.mk2 hZ
  have HM := Hid.mk2 (It.At.made x w)
  have HDU := Hid.mk2 (fun t W => idue_b x t W)
  have HDL0 := fun h hl => due_later (x := x) (now := now) (later := later) h hl
  obtain ⟨DV, hDV⟩ : ∃ DV : Int → Bool, ∀ t, DV t = dueV x t := ⟨_, fun _ => rfl⟩
  simp only [← hDV] at HDU HDL0
  have HDL := Hid.mk2 HDL0
  clear a1 a2 a3 b1 b2 b3 hX hY hZ hmm hkk hme hke hcase hDV HDL0
  have HT := Hid.mk2 (fun W (hW : RowKit.Below (w.alloc x.obj).heap.size (w.alloc x.obj) W) => (ht.below ((RowKit.Below.refl _ _).alloc (Nat.le_refl _) x.obj)).below hW)
  have HB := Hid.mk2 (RowKit.Below.refl (w.alloc x.obj).heap.size (w.alloc x.obj))
  clear ht
  obtain ⟨key, value, flags, till, unique⟩ := x
  unfold It.v It.obj at *
  dsimp only at *
  go_enter Tryd.func6, Tryd.ntmps6
  go_upto_region 8 with (first
    | (go_at_call 11; refine (alive9_any _ (HT.out _ HB.out)).mono ?_; rintro e w9 ⟨rfl, hb9⟩; have HB9 := Hid.mk2 (below_on HB.out hb9); clear hb9 HB; have HB := HB9; clear HB9)
    | (go_at_call 16; refine (text_b _ (by first | exact hn | exact hm | exact hk) _ (HT.out _ HB.out)).mono ?_; rintro e w9 ⟨rfl, hb9⟩; have HB9 := Hid.mk2 (below_on HB.out hb9); clear hb9 HB; have HB := HB9; clear HB9; (first | rw [← HX.out] | rw [← HY.out] | rw [← HZ.out]))
    | (go_at_call 9; refine (count_any _ _ hby _ _ (HT.out _ HB.out)).mono ?_; rintro e w9 ⟨rfl, hb9⟩; have HB9 := Hid.mk2 (below_on HB.out hb9); clear hb9 HB; have HB := HB9; clear HB9; (first | rw [A1.out, A2.out, A3.out] | rw [B1.out, B2.out, B3.out])))
  obtain ⟨hlt, c0, c1, c2, c3, c4⟩ := HM.out.below HB.out
  dsimp only at c0 c1 c2 c3 c4
  cases hd1 : DV now
  · go_wp2_with (go_at_call 18; refine (HDU.out _ _).mono ?_; rintro e w9 ⟨rfl, hb9⟩; rw [hd1]; have HB9 := Hid.mk2 (below_on HB.out hb9); clear hb9)
    all_goals go_ret
    all_goals exact ⟨by simp, (((RowKit.Below.refl _ _).alloc (Nat.le_refl _) _).trans (HB9.out.mono (by simp)))⟩
  by_cases hl : later < now
  · go_wp2_with (go_at_call 18; refine (HDU.out _ _).mono ?_; rintro e w9 ⟨rfl, hb9⟩; rw [hd1]; have HB9 := Hid.mk2 (below_on HB.out hb9); clear hb9)
    all_goals go_ret
    all_goals exact ⟨by simp, (((RowKit.Below.refl _ _).alloc (Nat.le_refl _) _).trans (HB9.out.mono (by simp)))⟩
  · have hd2 : DV later = true := HDL.out hd1 (by omega)
    go_wp2_with (go_at_call 18; refine (HDU.out _ _).mono ?_; rintro e w9 ⟨rfl, hb9⟩; (first | rw [hd1] | rw [hd2]); have HB9 := Hid.mk2 (below_on HB.out hb9); clear hb9 HB c0 c1 c2 c3 c4; have HB := HB9; clear HB9; obtain ⟨hlt9, c0, c1, c2, c3, c4⟩ := HM.out.below HB.out; dsimp only at c0 c1 c2 c3 c4)
    all_goals go_ret
    all_goals exact ⟨by simp, (((RowKit.Below.refl _ _).alloc (Nat.le_refl _) _).trans (HB.out.mono (by simp)))⟩

theorem itemTurns_walk (w : World) (ht : Tab w) (a : Int) (w0 : (Lit.int .u64 a).wf = true) (b : Int) (w1 : (Lit.int .u64 b).wf = true) (x : It) (now : Int) (w3 : (Lit.int .i64 now).wf = true) (later : Int) (w4 : (Lit.int .i64 later).wf = true) :
    Calls Tryd.prog 6 #[.int .u64 a, .int .u64 b, x.v, .int .i64 now, .int .i64 later] w fun e w' => e = .returned (.bool true) ∧ RowKit.Below w.heap.size w w' := by
  have ha := bounds_u64 w0
  have hb := bounds_u64 w1
  obtain ⟨n, rfl⟩ : ∃ n : Nat, a = n := ⟨a.toNat, by omega⟩
  obtain ⟨m, rfl⟩ : ∃ m : Nat, b = m := ⟨b.toNat, by omega⟩
  by_cases hc : n ≤ (n + m) % 18446744073709551616
  · exact turns_a w ht n m (by omega) (by omega) x now later hc
  · exact turns_b w ht n m (by omega) (by omega) x now later hc

set_option maxRecDepth 100000 in
theorem itemTurns_lifted (os : Os) (started : os.Started) (H : Type) (enc : TypeId × Value → H) :
    ReturnsInHanded {} Tryd.checked os 6 .any (fun w args => (Rows.itemTurnsSpec.pre enc Tryd.prog Tryd.f6 [] false w args ∧ laidMetH Tryd.prog laid3 w) ∧ sizedMet enc Tryd.prog Tryd.f6 (OpenSpec.ofChange Rows.itemTurnsSpec) false w args) (Rows.itemTurnsSpec.post enc Tryd.prog Tryd.f6 false true false false) := by
  refine returnsInHanded_of_change_and (C := Tryd.checked) (X := fun w _ => laidMetH Tryd.prog laid3 w) (fun _ _ _ hh h => h.of_heap hh) own started (by kernel_rfl) Tryd.func6
    (ChangeSpec.witness_shaped (enc := enc) (C := Tryd.checked) (os := os) (X := fun w _ => laidMetH Tryd.prog laid3 w) false (World.doorLaid Tryd.prog 400 os) #[.int .u64 0, .int .u64 0, .agg #[.string ⟨#[]⟩, .string ⟨#[]⟩, .int .u32 0, .int .i64 0, .int .u64 0], .int .i64 0, .int .i64 0] 8 rfl (World.shaped_of_RefB (by kernel_rfl) (by kernel_rfl)) (by kernel_rfl) (by kernel_rfl) (by kernel_rfl) (door_met os _)) ?_
  intro W base args ds gs before hval0 hW hcnd _ hL _
  have hval : ∀ (j : Nat) t v, Tryd.f6.params[j]? = some t → args[j]? = some v → Value.okWide Tryd.prog W .any base t v := hval0
  have hW' := hW
  obtain ⟨p, q, hA0, hV, rfl, hfz, hnd⟩ := hW
  have hA : DataW.TrodAll enc Tryd.prog W 0 (fun _ => true) true Tryd.f6.params.toList args.toList ds p := hA0
  rw [Tryd.params6] at hA hval
  obtain ⟨v0, vs0, d0, ds0, p0, q0, hargs, rfl, rfl, h0, r0⟩ := trodAll_cons hA
  obtain ⟨v1, vs1, d1, ds1, p1, q1, rfl, rfl, rfl, h1, r1⟩ := trodAll_cons r0
  obtain ⟨v2, vs2, d2, ds2, p2, q2, rfl, rfl, rfl, h2, r2⟩ := trodAll_cons r1
  obtain ⟨v3, vs3, d3, ds3, p3, q3, rfl, rfl, rfl, h3, r3⟩ := trodAll_cons r2
  obtain ⟨v4, vs4, d4, ds4, p4, q4, rfl, rfl, rfl, h4, r4⟩ := trodAll_cons r3
  obtain ⟨rfl, rfl, rfl⟩ := trodAll_nil r4
  obtain rfl : args = #[v0, v1, v2, v3, v4] := by cases args; simp_all
  obtain ⟨rfl, rfl⟩ := trodVars_none hV
  obtain ⟨a0, rfl, rfl, rfl, w0⟩ := open_int Tryd.underlying25 (hval 0 25 v0 rfl rfl) h0
  obtain ⟨a1, rfl, rfl, rfl, w1⟩ := open_int Tryd.underlying25 (hval 1 25 v1 rfl rfl) h1
  have k2 := h2
  have lt2 : ∀ x ∈ p2, x.block < W.heap.size := by obtain ⟨m, hm⟩ := k2; exact DataW.trod_lt m _ _ _ hm
  obtain ⟨l2, rfl⟩ := inItem_of (hval 2 33 v2 rfl rfl) h2
  obtain ⟨a3, rfl, rfl, rfl, w3⟩ := open_int Tryd.underlying3 (hval 3 3 v3 rfl rfl) h3
  obtain ⟨a4, rfl, rfl, rfl, w4⟩ := open_int Tryd.underlying3 (hval 4 3 v4 rfl rfl) h4
  clear hA0 hval0
  refine (itemTurns_walk W (tab_of_laid hL) a0 w0 a1 w1 l2 a3 w3 a4 w4).mono fun e W' ⟨he, bel⟩ => ?_
  subst he
  exact ⟨_, rfl, _, _, _, [], _, [], hW', trodAll_mk1 (shut_bool Tryd.underlying4 _), (trodAll_cons_mk (shut_int Tryd.underlying25 w0) (trodAll_cons_mk (shut_int Tryd.underlying25 w1) (trodAll_cons_mk (Below.trod laidOut_all (by kernel_rfl) (of_decide_eq_true (by kernel_rfl)) k2 bel lt2) (trodAll_cons_mk (shut_int Tryd.underlying3 w3) (trodAll_cons_mk (shut_int Tryd.underlying3 w4) trodAll_mk0))))), rfl, bel.frame _, fun h => by cases h⟩

theorem itemTurns_proved : Rows.ItemTurnsSaid :=
  OpenClaim.holds_of_wide 6 Tryd.f6 rfl rfl rfl rfl rfl rfl rfl ⟨rfl, rfl, rfl, rfl, rfl⟩ rfl rfl rfl rfl rfl (by kernel_rfl) Tryd.func6 (by kernel_rfl)
    (of_decide_eq_true (by kernel_rfl)) (by unfold Func.isWrapper; first | (rw [if_pos (by decide +kernel)]; kernel_rfl) | (rw [if_neg (by decide +kernel)]; exact ⟨rfl, rfl⟩))
    (fun os started H enc _ => itemTurns_lifted os started H enc)

theorem itemTurns_card : Rows.ItemTurnsCardSaid :=
  Claim7.holds_tied_plain_at .later [] [.data, .data, .data] true Rows.itemTurnsCard.stood.harness false
    itemTurns_proved (fun _ h => by cases h) (by kernel_rfl) (fun _ h => by cases h) itemTurns_row_tie rfl ⟨rfl, rfl⟩ (by kernel_rfl) rfl
    (fun f fn hf hfn => by
      obtain rfl : f = 6 := Option.some.inj ((show Tryd.prog.funcNamed "cloakroom/cloakroomlaw09.ItemTurns" = some 6 by kernel_rfl).symm.trans hf) |>.symm
      obtain rfl : fn = Tryd.f6 := (Option.some.inj (Tryd.func6.symm.trans hfn)).symm
      exact ⟨by kernel_rfl, fun j t ht => by
        rw [Tryd.params6] at ht
        have hm : t ∈ ([25, 25, 33, 3, 3] : List TypeId) := by simpa using Array.mem_of_getElem? ht
        have hall : (([25, 25, 33, 3, 3] : List TypeId).all fun u => !Tryd.prog.wantsStandIn u) = true := by kernel_rfl
        exact (show Tryd.prog.wantsStandIn t = false by simpa using List.all_eq_true.1 hall t hm)⟩)
    (by kernel_rfl)
#print axioms itemTurns_card
end Go.Proofs.YtpjlcffpeadohaaDoor
