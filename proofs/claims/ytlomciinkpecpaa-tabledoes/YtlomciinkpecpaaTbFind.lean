/-
  Where a name stands: the contract of find.
-/
import Derived.Test.YtlomciinkpecpaaTbStand
namespace Go.Proofs.Ytlomciinkpecpaa
open Go.RowKit
set_option linter.unusedSimpArgs false
set_option linter.unusedVariables false
set_option maxRecDepth 100000

/-- what find answers -/
def Found (blk num : Bool → Nat) (ents : Bool → Nat → List NU) (y : Nm) (e : Ending) : Prop :=
  ∃ (b : Bool) (k : Int), e = .returned (.tuple #[.pointer (some ⟨blk b, rix y (num b), none⟩), .int .i64 k]) ∧ rix y (num b) < num b ∧ k = ixOf (ents b (rix y (num b))) y ∧ (b = false → 0 < num true → ixOf (ents true (rix y (num true))) y = -1) ∧ (b = true → 0 ≤ k)
theorem ixOf_ge (T : List NU) (y : Nm) : ixOf T y = -1 ∨ ∃ k : Nat, ixOf T y = k ∧ ∃ h : k < T.length, T[k].1 = y := by
  unfold ixOf
  cases e : T.findIdx? (fun q => decide (q.1 = y)) with
  | none => exact .inl rfl
  | some k =>
    obtain ⟨h, h1, _⟩ := List.findIdx?_eq_some_iff_getElem.1 e
    exact .inr ⟨k, rfl, h, by simpa using h1⟩
set_option maxHeartbeats 1000000 in
theorem find_rows (w : World) (base p : Nat) (blk num : Bool → Nat) (val : Bool → Nat → Value) (ents : Bool → Nat → List NU) (next many moved : Nat) (h : Tm w base p blk num val ents next many moved) (hn : ∀ b, num b ≤ 1000000) (y : Nm) (hy : y.ok) (hl : ∀ b i, i < num b → (ents b i).length ≤ 1000000) (h0 : num true = 0) :
    Calls Try.prog 22 #[.pointer (some ⟨p, 0, none⟩), .agg #[.int .i64 y.tenant, .string y.key]] w fun e w' => Found blk num ents y e ∧ Below w.heap.size w w' := by
  have hk_false := rix_lt y (n := num false) h.pos
  have HRO_false := Hid.mk2 (fun W => rowOf_any W y hy (num false) h.pos (hn false))
  obtain ⟨k_false, hkk_false⟩ : ∃ k, k = rix y (num false) := ⟨_, rfl⟩
  rw [← hkk_false] at HRO_false hk_false
  have HKK_false := Hid.mk2 hkk_false
  have hk2_false : (k_false : Int) < (num false : Int) := by omega
  obtain ⟨ao_false, cap_false, hv_false, hlc_false, -, hat_false⟩ := (h.own false k_false hk_false).at
  have hll_false := hl false k_false hk_false
  obtain ⟨T_false, hT_false⟩ : ∃ T, T = ents false k_false := ⟨_, rfl⟩
  rw [← hT_false] at hv_false hlc_false hat_false hll_false
  have HIX_false := Hid.mk2 (fun W (hb : Below w.heap.size w W) => indexOf_any W ao_false T_false cap_false (hat_false.below hb) hll_false hlc_false y)
  obtain ⟨I_false, hI_false⟩ : ∃ I, I = ixOf T_false y := ⟨_, rfl⟩
  rw [← hI_false] at HIX_false
  have HII_false : Hid (I_false = ixOf (ents false (rix y (num false))) y) := by rw [← hkk_false, ← hT_false]; exact hI_false
  have hc_false := h.cell false k_false hk_false
  rw [hv_false] at hc_false
  have HCC_false := Hid.mk2 hc_false
  have HBL_false := Hid.mk2 (h.pblk false (by omega))
  clear hkk_false hv_false hlc_false hat_false hll_false hT_false hI_false hc_false
  have HH := Hid.mk2 h
  clear h hy hn hl
  go_enter Try.func22, Try.ntmps22
  go_upto_region 1 with (fail)
  obtain ⟨w0, hw0⟩ : ∃ w0, w0 = w.alloc (Obj.cells #[.int .i64 y.tenant, .string y.key] 28) := ⟨_, rfl⟩
  rw [← hw0]
  have HB0 : Hid (Below w.heap.size w w0) := by rw [hw0]; exact (Below.refl _ _).alloc (Nat.le_refl _) _
  have a0 : w0.cell? ⟨w.heap.size, 0, none⟩ = some (.int .i64 y.tenant) := by rw [hw0]; simp
  have a1 : w0.cell? ⟨w.heap.size, 1, none⟩ = some (.string y.key) := by rw [hw0]; simp
  have y0 : w.heap.size < w0.heap.size := by rw [hw0]; simp
  clear hw0
  have HN : Hid (∀ W, Below w0.heap.size w0 W → W.cell? ⟨w.heap.size, 0, none⟩ = some (.int .i64 y.tenant) ∧ W.cell? ⟨w.heap.size, 1, none⟩ = some (.string y.key)) := fun W hb => ⟨(bcl hb _ _ y0).trans a0, (bcl hb _ _ y0).trans a1⟩
  have HW : Hid (∀ W, Below w0.heap.size w0 W → Below w.heap.size w W) := fun W hb => HB0.out.trans (hb.mono (Nat.le_of_lt y0))
  have ob := (HH.out.below HB0.out).oldc
  clear a0 a1
  have ob2 : w0.cell? ⟨p, 2, none⟩ = some (.slice none 0 0) := by rw [ob]; unfold osl; rw [if_pos h0]
  have HBz : Hid (Below w0.heap.size w0 w0) := Below.refl _ _
  have HP0 := Hid.mk2 h0
  clear ob h0
  have HP_F : Hid (∀ W, Below w0.heap.size w0 W → W.cell? ⟨p, 1, none⟩ = some (.slice (some ⟨blk false, 0, none⟩) (num false) (num false)) ∧ W.cell? ⟨w.heap.size, 0, none⟩ = some (.int .i64 y.tenant) ∧ W.cell? ⟨w.heap.size, 1, none⟩ = some (.string y.key)) := fun W hb => ⟨(HH.out.below (HW.out W hb)).rowsc, HN.out W hb⟩
  have HQ_F : Hid (∀ W, Below w0.heap.size w0 W → W.cell? ⟨blk false, k_false, none⟩ = some (.slice ao_false T_false.length cap_false) ∧ W.cell? ⟨w.heap.size, 0, none⟩ = some (.int .i64 y.tenant) ∧ W.cell? ⟨w.heap.size, 1, none⟩ = some (.string y.key)) := fun W hb => ⟨(bcl (HW.out W hb) _ _ HBL_false.out.2.2).trans HCC_false.out, HN.out W hb⟩
  go_upto_region 6 with (fail)
  go_cut [8] from 9 (fun s1 wx => s1 = .pointer (some ⟨blk false, k_false, none⟩) ∧ Hid (Below w0.heap.size w0 wx))
  case first =>
    go_region_held3 (fun W => W.cell? ⟨p, 1, none⟩ = some (.slice (some ⟨blk false, 0, none⟩) (num false) (num false)) ∧ W.cell? ⟨w.heap.size, 0, none⟩ = some (.int .i64 y.tenant) ∧ W.cell? ⟨w.heap.size, 1, none⟩ = some (.string y.key))
      (first | exact HP_F.out _ HB1.out | exact HP_F.out _ HBz.out | exact HP_F.out _ (HBz.out.drew))
      (first | (go_at_call 35; refine (HRO_false.out _).mono ?_; rintro e w1 ⟨rfl, hb1⟩; have HB1 : Hid (Below w0.heap.size w0 w1) := (by first | exact HBz.out.trans (hb1.mono HBz.out.size) | exact HBz.out.drew.trans (hb1.mono HBz.out.size))))
    all_goals
      go_wp2
      go_meet
      case rel => exact ⟨rfl, HB1⟩
  case rest =>
  obtain ⟨rfl, HB2F⟩ := hcut
  obtain ⟨w2F, hw2⟩ : ∃ x, x = wc := ⟨_, rfl⟩
  rw [← hw2] at HB2F ⊢
  clear hw2
  go_upto_region 7 with (fail)
  go_cut [4, 5] from 9 (fun s4 s5 wx => s4 = .pointer (some ⟨blk false, k_false, none⟩) ∧ s5 = .int .i64 I_false ∧ Hid (Below w0.heap.size w0 wx))
  case first =>
    go_region_held3 (fun W => W.cell? ⟨blk false, k_false, none⟩ = some (.slice ao_false T_false.length cap_false) ∧ W.cell? ⟨w.heap.size, 0, none⟩ = some (.int .i64 y.tenant) ∧ W.cell? ⟨w.heap.size, 1, none⟩ = some (.string y.key))
      (first | exact HQ_F.out _ HB3.out | exact HQ_F.out _ HB2F.out | exact HQ_F.out _ (HB2F.out.drew))
      (first | (go_at_call 36; refine (HIX_false.out _ (by first | exact HW.out _ HB2F.out | exact HW.out _ HB2F.out.drew)).mono ?_; rintro e w3 ⟨rfl, hb3⟩; have HB3 : Hid (Below w0.heap.size w0 w3) := (by first | exact HB2F.out.trans (hb3.mono HB2F.out.size) | exact HB2F.out.drew.trans (hb3.mono HB2F.out.size))))
    all_goals
      go_wp2
      go_meet
      case rel => exact ⟨rfl, rfl, HB3⟩
  case rest =>
  obtain ⟨rfl, rfl, HB4⟩ := hcut
  go_wp2
  go_ret2
  exact ⟨⟨false, I_false, by rw [← HKK_false.out]; rfl, by rw [← HKK_false.out]; exact hk_false, HII_false.out, fun _ hp => by have := HP0.out; omega, fun e => by cases e⟩, HW.out _ HB4.out⟩
set_option maxHeartbeats 1000000 in
theorem find_old (w : World) (base p : Nat) (blk num : Bool → Nat) (val : Bool → Nat → Value) (ents : Bool → Nat → List NU) (next many moved : Nat) (h : Tm w base p blk num val ents next many moved) (hn : ∀ b, num b ≤ 1000000) (y : Nm) (hy : y.ok) (hl : ∀ b i, i < num b → (ents b i).length ≤ 1000000) (hpos : 1 ≤ num true) :
    Calls Try.prog 22 #[.pointer (some ⟨p, 0, none⟩), .agg #[.int .i64 y.tenant, .string y.key]] w fun e w' => Found blk num ents y e ∧ Below w.heap.size w w' := by
  have hk_true := rix_lt y (n := num true) hpos
  have HRO_true := Hid.mk2 (fun W => rowOf_any W y hy (num true) hpos (hn true))
  obtain ⟨k_true, hkk_true⟩ : ∃ k, k = rix y (num true) := ⟨_, rfl⟩
  rw [← hkk_true] at HRO_true hk_true
  have HKK_true := Hid.mk2 hkk_true
  have hk2_true : (k_true : Int) < (num true : Int) := by omega
  obtain ⟨ao_true, cap_true, hv_true, hlc_true, -, hat_true⟩ := (h.own true k_true hk_true).at
  have hll_true := hl true k_true hk_true
  obtain ⟨T_true, hT_true⟩ : ∃ T, T = ents true k_true := ⟨_, rfl⟩
  rw [← hT_true] at hv_true hlc_true hat_true hll_true
  have HIX_true := Hid.mk2 (fun W (hb : Below w.heap.size w W) => indexOf_any W ao_true T_true cap_true (hat_true.below hb) hll_true hlc_true y)
  obtain ⟨I_true, hI_true⟩ : ∃ I, I = ixOf T_true y := ⟨_, rfl⟩
  rw [← hI_true] at HIX_true
  have HII_true : Hid (I_true = ixOf (ents true (rix y (num true))) y) := by rw [← hkk_true, ← hT_true]; exact hI_true
  have hc_true := h.cell true k_true hk_true
  rw [hv_true] at hc_true
  have HCC_true := Hid.mk2 hc_true
  have HBL_true := Hid.mk2 (h.pblk true (by omega))
  clear hkk_true hv_true hlc_true hat_true hll_true hT_true hI_true hc_true
  have hk_false := rix_lt y (n := num false) h.pos
  have HRO_false := Hid.mk2 (fun W => rowOf_any W y hy (num false) h.pos (hn false))
  obtain ⟨k_false, hkk_false⟩ : ∃ k, k = rix y (num false) := ⟨_, rfl⟩
  rw [← hkk_false] at HRO_false hk_false
  have HKK_false := Hid.mk2 hkk_false
  have hk2_false : (k_false : Int) < (num false : Int) := by omega
  obtain ⟨ao_false, cap_false, hv_false, hlc_false, -, hat_false⟩ := (h.own false k_false hk_false).at
  have hll_false := hl false k_false hk_false
  obtain ⟨T_false, hT_false⟩ : ∃ T, T = ents false k_false := ⟨_, rfl⟩
  rw [← hT_false] at hv_false hlc_false hat_false hll_false
  have HIX_false := Hid.mk2 (fun W (hb : Below w.heap.size w W) => indexOf_any W ao_false T_false cap_false (hat_false.below hb) hll_false hlc_false y)
  obtain ⟨I_false, hI_false⟩ : ∃ I, I = ixOf T_false y := ⟨_, rfl⟩
  rw [← hI_false] at HIX_false
  have HII_false : Hid (I_false = ixOf (ents false (rix y (num false))) y) := by rw [← hkk_false, ← hT_false]; exact hI_false
  have hc_false := h.cell false k_false hk_false
  rw [hv_false] at hc_false
  have HCC_false := Hid.mk2 hc_false
  have HBL_false := Hid.mk2 (h.pblk false (by omega))
  clear hkk_false hv_false hlc_false hat_false hll_false hT_false hI_false hc_false
  have HH := Hid.mk2 h
  clear h hy hn hl
  go_enter Try.func22, Try.ntmps22
  go_upto_region 1 with (fail)
  obtain ⟨w0, hw0⟩ : ∃ w0, w0 = w.alloc (Obj.cells #[.int .i64 y.tenant, .string y.key] 28) := ⟨_, rfl⟩
  rw [← hw0]
  have HB0 : Hid (Below w.heap.size w w0) := by rw [hw0]; exact (Below.refl _ _).alloc (Nat.le_refl _) _
  have a0 : w0.cell? ⟨w.heap.size, 0, none⟩ = some (.int .i64 y.tenant) := by rw [hw0]; simp
  have a1 : w0.cell? ⟨w.heap.size, 1, none⟩ = some (.string y.key) := by rw [hw0]; simp
  have y0 : w.heap.size < w0.heap.size := by rw [hw0]; simp
  clear hw0
  have HN : Hid (∀ W, Below w0.heap.size w0 W → W.cell? ⟨w.heap.size, 0, none⟩ = some (.int .i64 y.tenant) ∧ W.cell? ⟨w.heap.size, 1, none⟩ = some (.string y.key)) := fun W hb => ⟨(bcl hb _ _ y0).trans a0, (bcl hb _ _ y0).trans a1⟩
  have HW : Hid (∀ W, Below w0.heap.size w0 W → Below w.heap.size w W) := fun W hb => HB0.out.trans (hb.mono (Nat.le_of_lt y0))
  have ob := (HH.out.below HB0.out).oldc
  clear a0 a1
  have ob2 : w0.cell? ⟨p, 2, none⟩ = some (.slice (some ⟨blk true, 0, none⟩) (num true) (num true)) := by rw [ob]; unfold osl; rw [if_neg (by omega)]
  have HBz : Hid (Below w0.heap.size w0 w0) := Below.refl _ _
  have hp2 : (0 : Int) < (num true : Int) := by omega
  have hp3 : 0 < num true := hpos
  clear ob
  have HP_O : Hid (∀ W, Below w0.heap.size w0 W → W.cell? ⟨p, 2, none⟩ = some (.slice (some ⟨blk true, 0, none⟩) (num true) (num true)) ∧ W.cell? ⟨w.heap.size, 0, none⟩ = some (.int .i64 y.tenant) ∧ W.cell? ⟨w.heap.size, 1, none⟩ = some (.string y.key)) := fun W hb => ⟨((HH.out.below (HW.out W hb)).oldc).trans (by unfold osl; rw [if_neg (by omega)]), HN.out W hb⟩
  have HQ_O : Hid (∀ W, Below w0.heap.size w0 W → W.cell? ⟨blk true, k_true, none⟩ = some (.slice ao_true T_true.length cap_true) ∧ W.cell? ⟨w.heap.size, 0, none⟩ = some (.int .i64 y.tenant) ∧ W.cell? ⟨w.heap.size, 1, none⟩ = some (.string y.key)) := fun W hb => ⟨(bcl (HW.out W hb) _ _ HBL_true.out.2.2).trans HCC_true.out, HN.out W hb⟩
  go_upto_region 2 with (fail)
  go_cut [6] from 9 (fun s1 wx => s1 = .pointer (some ⟨blk true, k_true, none⟩) ∧ Hid (Below w0.heap.size w0 wx))
  case first =>
    go_region_held3 (fun W => W.cell? ⟨p, 2, none⟩ = some (.slice (some ⟨blk true, 0, none⟩) (num true) (num true)) ∧ W.cell? ⟨w.heap.size, 0, none⟩ = some (.int .i64 y.tenant) ∧ W.cell? ⟨w.heap.size, 1, none⟩ = some (.string y.key))
      (first | exact HP_O.out _ HB1.out | exact HP_O.out _ HBz.out | exact HP_O.out _ (HBz.out.drew))
      (first | (go_at_call 35; refine (HRO_true.out _).mono ?_; rintro e w1 ⟨rfl, hb1⟩; have HB1 : Hid (Below w0.heap.size w0 w1) := (by first | exact HBz.out.trans (hb1.mono HBz.out.size) | exact HBz.out.drew.trans (hb1.mono HBz.out.size))))
    all_goals
      go_wp2
      go_meet
      case rel => exact ⟨rfl, HB1⟩
  case rest =>
  obtain ⟨rfl, HB2O⟩ := hcut
  obtain ⟨w2O, hw2⟩ : ∃ x, x = wc := ⟨_, rfl⟩
  rw [← hw2] at HB2O ⊢
  clear hw2
  go_upto_region 3 with (fail)
  go_cut [7] from 9 (fun s7 wx => s7 = .int .i64 I_true ∧ Hid (Below w0.heap.size w0 wx))
  case first =>
    go_region_held3 (fun W => W.cell? ⟨blk true, k_true, none⟩ = some (.slice ao_true T_true.length cap_true) ∧ W.cell? ⟨w.heap.size, 0, none⟩ = some (.int .i64 y.tenant) ∧ W.cell? ⟨w.heap.size, 1, none⟩ = some (.string y.key))
      (first | exact HQ_O.out _ HB3.out | exact HQ_O.out _ HB2O.out | exact HQ_O.out _ (HB2O.out.drew))
      (first | (go_at_call 36; refine (HIX_true.out _ (by first | exact HW.out _ HB2O.out | exact HW.out _ HB2O.out.drew)).mono ?_; rintro e w3 ⟨rfl, hb3⟩; have HB3 : Hid (Below w0.heap.size w0 w3) := (by first | exact HB2O.out.trans (hb3.mono HB2O.out.size) | exact HB2O.out.drew.trans (hb3.mono HB2O.out.size))))
    all_goals
      go_wp2
      go_meet
      case rel => exact ⟨rfl, HB3⟩
  case rest =>
  obtain ⟨rfl, HB4o⟩ := hcut
  obtain ⟨w4o, hw4⟩ : ∃ x, x = wc := ⟨_, rfl⟩
  rw [← hw4] at HB4o ⊢
  clear hw4
  rcases ixOf_ge (ents true (rix y (num true))) y with e | ⟨k, e, _⟩
  · have hI : I_true = -1 := HII_true.out.trans e
    subst hI
    have HE := Hid.mk2 e
    clear e
    have HP_F : Hid (∀ W, Below w0.heap.size w0 W → W.cell? ⟨p, 1, none⟩ = some (.slice (some ⟨blk false, 0, none⟩) (num false) (num false)) ∧ W.cell? ⟨w.heap.size, 0, none⟩ = some (.int .i64 y.tenant) ∧ W.cell? ⟨w.heap.size, 1, none⟩ = some (.string y.key)) := fun W hb => ⟨(HH.out.below (HW.out W hb)).rowsc, HN.out W hb⟩
    have HQ_F : Hid (∀ W, Below w0.heap.size w0 W → W.cell? ⟨blk false, k_false, none⟩ = some (.slice ao_false T_false.length cap_false) ∧ W.cell? ⟨w.heap.size, 0, none⟩ = some (.int .i64 y.tenant) ∧ W.cell? ⟨w.heap.size, 1, none⟩ = some (.string y.key)) := fun W hb => ⟨(bcl (HW.out W hb) _ _ HBL_false.out.2.2).trans HCC_false.out, HN.out W hb⟩
    go_upto_region 6 with (fail)
    go_cut [8] from 9 (fun s1 wx => s1 = .pointer (some ⟨blk false, k_false, none⟩) ∧ Hid (Below w0.heap.size w0 wx))
    case first =>
      go_region_held3 (fun W => W.cell? ⟨p, 1, none⟩ = some (.slice (some ⟨blk false, 0, none⟩) (num false) (num false)) ∧ W.cell? ⟨w.heap.size, 0, none⟩ = some (.int .i64 y.tenant) ∧ W.cell? ⟨w.heap.size, 1, none⟩ = some (.string y.key))
        (first | exact HP_F.out _ HB1.out | exact HP_F.out _ HB4o.out | exact HP_F.out _ (HB4o.out.drew))
        (first | (go_at_call 35; refine (HRO_false.out _).mono ?_; rintro e w1 ⟨rfl, hb1⟩; have HB1 : Hid (Below w0.heap.size w0 w1) := (by first | exact HB4o.out.trans (hb1.mono HB4o.out.size) | exact HB4o.out.drew.trans (hb1.mono HB4o.out.size))))
      all_goals
        go_wp2
        go_meet
        case rel => exact ⟨rfl, HB1⟩
    case rest =>
    obtain ⟨rfl, HB2F⟩ := hcut
    obtain ⟨w2F, hw2⟩ : ∃ x, x = wc := ⟨_, rfl⟩
    rw [← hw2] at HB2F ⊢
    clear hw2
    go_upto_region 7 with (fail)
    go_cut [4, 5] from 9 (fun s4 s5 wx => s4 = .pointer (some ⟨blk false, k_false, none⟩) ∧ s5 = .int .i64 I_false ∧ Hid (Below w0.heap.size w0 wx))
    case first =>
      go_region_held3 (fun W => W.cell? ⟨blk false, k_false, none⟩ = some (.slice ao_false T_false.length cap_false) ∧ W.cell? ⟨w.heap.size, 0, none⟩ = some (.int .i64 y.tenant) ∧ W.cell? ⟨w.heap.size, 1, none⟩ = some (.string y.key))
        (first | exact HQ_F.out _ HB3.out | exact HQ_F.out _ HB2F.out | exact HQ_F.out _ (HB2F.out.drew))
        (first | (go_at_call 36; refine (HIX_false.out _ (by first | exact HW.out _ HB2F.out | exact HW.out _ HB2F.out.drew)).mono ?_; rintro e w3 ⟨rfl, hb3⟩; have HB3 : Hid (Below w0.heap.size w0 w3) := (by first | exact HB2F.out.trans (hb3.mono HB2F.out.size) | exact HB2F.out.drew.trans (hb3.mono HB2F.out.size))))
      all_goals
        go_wp2
        go_meet
        case rel => exact ⟨rfl, rfl, HB3⟩
    case rest =>
    obtain ⟨rfl, rfl, HB4⟩ := hcut
    go_wp2
    go_ret2
    exact ⟨⟨false, I_false, by rw [← HKK_false.out]; rfl, by rw [← HKK_false.out]; exact hk_false, HII_false.out, fun _ hp => HE.out, fun e => by cases e⟩, HW.out _ HB4.out⟩
  · have hI : I_true = (k : Int) := HII_true.out.trans e
    subst hI
    have HE := Hid.mk2 e
    clear e
    go_wp2
    go_ret2
    exact ⟨⟨true, k, by rw [← HKK_true.out]; rfl, by rw [← HKK_true.out]; exact hk_true, HE.out.symm, (fun e => by cases e), fun _ => by omega⟩, HW.out _ HB4o.out⟩
theorem find_any (w : World) (base p : Nat) (blk num : Bool → Nat) (val : Bool → Nat → Value) (ents : Bool → Nat → List NU) (next many moved : Nat) (h : Tm w base p blk num val ents next many moved) (hn : ∀ b, num b ≤ 1000000) (y : Nm) (hy : y.ok) (hl : ∀ b i, i < num b → (ents b i).length ≤ 1000000) :
    Calls Try.prog 22 #[.pointer (some ⟨p, 0, none⟩), .agg #[.int .i64 y.tenant, .string y.key]] w fun e w' => Found blk num ents y e ∧ Below w.heap.size w w' := by
  by_cases h0 : num true = 0
  · exact find_rows w base p blk num val ents next many moved h hn y hy hl h0
  · exact find_old w base p blk num val ents next many moved h hn y hy hl (by omega)
end Go.Proofs.Ytlomciinkpecpaa
