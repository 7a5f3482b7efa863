/-
  WheelNames is true: the limits and errors have their numbers, and the chapter's examples are so; no condition (there is no input).
-/
import Derived.Test.YtlhlleokehkoladWhDel
import Derived.Test.YtlhlleokehkoladRows2
namespace Go.Proofs.Ytlhlleokehkolad
open Go.ChangeShapes Go.WideShapes Go.ChangeAt Go.RowKit
open Go.ChangeMaps (open_string shut_string)
set_option linter.unusedSimpArgs false
set_option linter.unusedVariables false
set_option maxRecDepth 100000

def nmC : Nm := ⟨1, ⟨#[97]⟩⟩
def nmD : Nm := ⟨4, ⟨#[97]⟩⟩
theorem namesL : addL (addL (addL [] 10 nmA 20) 10 nmC 20) 10 nmA 30 = [(nmA, 30), (nmC, 20)] := by decide +kernel
theorem namesD : dueOf 25 [(nmA, 30), (nmC, 20)] = [(nmC, 20)] := by decide +kernel
theorem namesR : restOf 25 [(nmA, 30), (nmC, 20)] = [(nmA, 30)] := by decide +kernel
theorem namesE : addE 25 nmA 25 = 2 := by decide +kernel
theorem namesE2 : addL [(nmA, 30)] 25 nmA 25 = [(nmA, 30)] := by decide +kernel
theorem namesF : delE [(nmA, 30)] nmB = 6 := by decide +kernel
theorem namesF2 : (if nmB.ok then strike nmB [(nmA, 30)] else [(nmA, 30)]) = [(nmA, 30)] := by decide +kernel
theorem namesG : addE 25 nmD 99 = 8 := by decide +kernel

theorem zeroSelf : Try.zeroCells40[0]? = some (.pointer none) := by kernel_rfl

set_option maxHeartbeats 4000000 in
theorem wheelNames_walk (w : World) : Calls Try.prog 3 #[] w fun e w' => e = .returned (.bool true) ∧ Below w.heap.size w w' := by
  have HAL := Hid.mk2 (alive_any w)
  go_enter Try.func3, Try.ntmps3
  go_upto_region 4 with (go_at_call 8; refine HAL.out.mono ?_; rintro e w0 ⟨rfl, hb0⟩)
  obtain ⟨X, hX⟩ : ∃ X, X = w0.heap.size := ⟨_, rfl⟩
  obtain ⟨wX, hwX⟩ : ∃ wX, wX = w0.alloc (.cells #[.int .i64 0, .string ⟨#[97]⟩] 24) := ⟨_, rfl⟩
  have hbX : Below w.heap.size w wX := by rw [hwX]; exact hb0.alloc hb0.size _
  have hsX : X < wX.heap.size := by rw [hwX, hX]; simp
  have a0 : wX.cell? ⟨X, 0, none⟩ = some (.int .i64 0) := by rw [hwX, hX]; simp
  have a1 : wX.cell? ⟨X, 1, none⟩ = some (.string ⟨#[97]⟩) := by rw [hwX, hX]; simp
  rw [← hwX, ← hX]
  clear hwX hX hb0
  have HN := Hid.mk2 (new_wl wX 10 (by omega))
  go_upto_region 5 with (go_at_call 9; refine HN.out.mono ?_; rintro e w1 ⟨p, rfl, hW1, hb1⟩)
  have b0' := (hb1.cell (p := ⟨X, 0, none⟩) hsX).trans a0
  have b1' := (hb1.cell (p := ⟨X, 1, none⟩) hsX).trans a1
  have HA1 := Hid.mk2 (add_wl w1 wX.heap.size p 10 [] 0 hW1 hb1.size (by omega) nmA 20)
  clear hW1
  go_upto_region 6 with (go_at_call 10; refine HA1.out.mono ?_; rintro e w2 ⟨rfl, hW2, hb2⟩)
  have hb02 := hb1.trans hb2
  have HA2 := Hid.mk2 (add_wl w2 wX.heap.size p 10 _ 2 hW2 hb02.size (by omega) nmC 20)
  clear hW2 b0' b1'
  go_upto_region 7 with (go_at_call 10; refine HA2.out.mono ?_; rintro e w3 ⟨rfl, hW3, hb3⟩)
  have hb03 := hb02.trans hb3
  have c0 := (hb03.cell (p := ⟨X, 0, none⟩) hsX).trans a0
  have c1 := (hb03.cell (p := ⟨X, 1, none⟩) hsX).trans a1
  have HA3 := Hid.mk2 (add_wl w3 wX.heap.size p 10 _ 4 hW3 hb03.size (by omega) nmA 30)
  clear hW3
  go_upto_region 8 with (go_at_call 10; refine HA3.out.mono ?_; rintro e w4 ⟨rfl, hW4, hb4⟩)
  have hb04 := hb03.trans hb4
  rw [namesL] at hW4
  obtain ⟨mu, mb4, hW4, hF4⟩ := hW4
  have HT := Hid.mk2 (tick_any w4 p 10 _ mu mb4 6 hW4 (by omega) 25 (by omega) (by omega))
  have HF4 := Hid.mk2 hF4
  clear hW4 c0 c1 hF4
  go_upto_region 9 with (go_at_call 11; refine HT.out.mono ?_; rintro e w5 ⟨g, S, rfl, hA5, hP5, hR5, mb5, hW5, hK5, hF5, hg5⟩)
  rw [namesD] at hP5
  rw [namesR] at hW5
  obtain rfl : S = [(nmC, (20 : Int))] := List.perm_singleton.1 hP5
  have hb05 : Below wX.heap.size wX w5 := hb04.trans (hK5.to_below hb04.size HF4.out)
  have hFB5 : ∀ k, Foot p mu mb5 k → wX.heap.size ≤ k := fun k hk => (hF5 k hk).elim (HF4.out k) (fun h => by have := hb04.size; omega)
  have HFB5 := Hid.mk2 hFB5
  clear hK5 hF5 hFB5 hP5 hR5
  have d0 := (hb05.cell (p := ⟨X, 0, none⟩) hsX).trans a0
  have d1 := (hb05.cell (p := ⟨X, 1, none⟩) hsX).trans a1
  have HU := Hid.mk2 (until_any w5 p 25 _ mu mb5 18 hW5 nmA)
  go_upto_region 10 with (go_at_call 12; refine HU.out.mono ?_; rintro e w6 ⟨hb6, hc6⟩; obtain rfl : e = .returned (.tuple #[.int .i64 30, .int .i64 0]) := (by rcases hc6 with ⟨h, _⟩ | ⟨_, h, _⟩ | ⟨_, u, hu, rfl⟩; exact absurd (show nmA.ok by decide +kernel) h; exact absurd rfl (h (nmA, 30) (by simp)); (have : u = 30 := by simpa using hu); rw [this]))
  have hW6 := hW5.below hb6
  have hA6 := hA5.below hb6
  have hb06 : Below wX.heap.size wX w6 := hb05.trans (hb6.mono hb05.size)
  clear hc6 hW5 hA5 d0 d1
  have e0 := (hb06.cell (p := ⟨X, 0, none⟩) hsX).trans a0
  have e1 := (hb06.cell (p := ⟨X, 1, none⟩) hsX).trans a1
  have HAB := Hid.mk2 (add_any w6 p 25 _ mu mb5 18 hW6 (by omega) nmA 25)
  rw [namesE, namesE2] at HAB
  go_upto_region 11 with (go_at_call 10; refine HAB.out.mono ?_; rintro e w7 ⟨rfl, mb7, hW7, hK7, hF7⟩)
  have hA7 := hA6.kept hK7 hg5
  have hg7 : ¬ Foot p mu mb7 g := fun hf => (hF7 g hf).elim hg5 (fun h => by have := hA6.lt; omega)
  have hb07 : Below wX.heap.size wX w7 := hb06.trans (hK7.to_below hb06.size HFB5.out)
  have HFB7 : Hid (∀ k, Foot p mu mb7 k → wX.heap.size ≤ k) := fun k hk => (hF7 k hk).elim (HFB5.out k) (fun h => by have := hb06.size; omega)
  clear hA6 hW6 hK7 hF7 hg5 e0 e1
  have HDE := Hid.mk2 (del_any w7 p 25 _ mu mb7 20 hW7 nmB)
  rw [namesF, namesF2] at HDE
  go_upto_region 12 with (go_at_call 13; refine HDE.out.mono ?_; rintro e w8 ⟨rfl, mb8, hW8, hK8, hF8⟩)
  have hA8 := hA7.kept hK8 hg7
  have hg8 : ¬ Foot p mu mb8 g := fun hf => (hF8 g hf).elim hg7 (fun h => by have := hA7.lt; omega)
  have hb08 : Below wX.heap.size wX w8 := hb07.trans (hK8.to_below hb07.size HFB7.out)
  have HFB8 : Hid (∀ k, Foot p mu mb8 k → wX.heap.size ≤ k) := fun k hk => (hF8 k hk).elim (HFB7.out k) (fun h => by have := hb07.size; omega)
  clear hA7 hW7 hK8 hF8 hg7
  have HTB := Hid.mk2 (tick_bad w8 p 25 _ mu mb8 20 hW8 24 (by omega))
  have HNB := Hid.mk2 (new_bad w8 (-1) (by omega))
  have HAD := Hid.mk2 (add_any w8 p 25 _ mu mb8 20 hW8 (by omega) nmD 99)
  rw [namesG] at HAD
  go_upto_region 15 with (first
    | (go_at_call 11; refine HTB.out.mono ?_; rintro e wq ⟨rfl, hwq⟩; obtain rfl : w8 = wq := hwq.symm)
    | (go_at_call 9; refine HNB.out.mono ?_; rintro e wq ⟨rfl, hwq⟩; obtain rfl : w8 = wq := hwq.symm)
    | (go_at_call 10; refine HAD.out.mono ?_; rintro e w9 ⟨rfl, mb9, hW9, hK9, hF9⟩))
  have hA9 := hA8.kept hK9 hg8
  have hb09 : Below wX.heap.size wX w9 := hb08.trans (hK9.to_below hb08.size HFB8.out)
  clear hA8 hW8 hK9 hF9 hg8 hW9
  go_upto_region 17 with fail
  obtain ⟨wP, hwP⟩ : ∃ wP, wP = w9.alloc (.cells Try.zeroCells40 40) := ⟨_, rfl⟩
  obtain ⟨q, hq⟩ : ∃ q, q = w9.heap.size := ⟨_, rfl⟩
  have hbP : Below w9.heap.size w9 wP := by rw [hwP]; exact alb _ _
  have hq0 : wP.cell? ⟨q, 0, none⟩ = some (.pointer none) := by
    rw [hwP, hq]
    exact (World.cell?_alloc_mark w9 Try.zeroCells40 40 (0, 0) 0).trans zeroSelf
  have hAP := hA9.below hbP
  have hb0P : Below wX.heap.size wX wP := hb09.trans (hbP.mono hb09.size)
  first
    | rw [← hwP, ← hq]
    | (rw [← hq]; rw [← hwP])
    | trace_state
  have hgc := hAP.cells 0 (by simp)
  have g0 : wP.cell? ⟨g, 0, none⟩ = some (.int .i64 1) := hgc.1
  have f0 := (hb0P.cell (p := ⟨X, 0, none⟩) hsX).trans a0
  have f1 := (hb0P.cell (p := ⟨X, 1, none⟩) hsX).trans a1
  have hbE : Below w.heap.size w wP := hbX.trans (hb0P.mono hbX.size)
  have HBE := Hid.mk2 hbE
  have HX := Hid.mk2 hsX
  have HBP := Hid.mk2 hb0P
  have HNT := Hid.mk2 (tick_not wP (.pointer none) (.inl rfl) 0)
  have HNL := Hid.mk2 (len_not wP (.pointer (some ⟨q, 0, none⟩)) (.inr ⟨q, rfl, hq0⟩))
  have HNN := Hid.mk2 (now_not wP (.pointer (some ⟨q, 0, none⟩)) (.inr ⟨q, rfl, hq0⟩))
  have HNA := Hid.mk2 (fun W (hW : Below wP.heap.size wP W) => add_not W (.pointer none) (.inl rfl) nmA 1)
  have HND := Hid.mk2 (fun W (hW : Below wP.heap.size wP W) => del_not W (.pointer (some ⟨q, 0, none⟩)) (.inr ⟨q, rfl, (hW.cell (p := ⟨q, 0, none⟩) (World.block_lt_of_cell? wP _ hq0)).trans hq0⟩) nmA)
  clear hwP hq hbP hAP hA9 hgc hbE hb0P hb09 hb1 hb2 hb3 hb4 hb02 hb03 hb04 hb05 hb06 hb07 hb08 hb6 HAL HN HA1 HA2 HA3 HT HF4 HFB5 HU HAB HFB7 HDE HFB8 HTB HNB HAD hq0 a0 a1 hbX
  go_upto_region 20 with (first
    | (go_at_call 11; refine HNT.out.mono ?_; rintro e wq ⟨rfl, hwq⟩; obtain rfl : wP = wq := hwq.symm)
    | (go_at_call 14; refine HNL.out.mono ?_; rintro e wq ⟨rfl, hwq⟩; obtain rfl : wP = wq := hwq.symm)
    | (go_at_call 15; refine HNN.out.mono ?_; rintro e wq ⟨rfl, hwq⟩; obtain rfl : wP = wq := hwq.symm))
  go_wp2_with (first
    | (go_at_call 10; refine (HNA.out wP (Below.refl _ _)).mono ?_; rintro e wR ⟨rfl, hbR⟩; have k0 := (hbR.cell (p := ⟨X, 0, none⟩) (Nat.lt_of_lt_of_le HX.out HBP.out.size)).trans f0; have k1 := (hbR.cell (p := ⟨X, 1, none⟩) (Nat.lt_of_lt_of_le HX.out HBP.out.size)).trans f1)
    | (go_at_call 13; refine (HND.out wR hbR).mono ?_; rintro e wS ⟨rfl, hbS⟩))
  go_ret
  exact ⟨rfl, (HBE.out.trans (hbR.mono HBE.out.size)).trans (hbS.mono (Nat.le_trans HBE.out.size hbR.size))⟩

set_option maxRecDepth 100000 in
theorem wheelNames_lifted (os : Os) (started : os.Started) (H : Type) (enc : TypeId × Value → H) :
    ReturnsInHanded {} Try.checked os 3 .any (Rows.wheelNamesSpec.pre6 enc Try.prog Try.f3 Rows.wheelNamesRow.domain false) (Rows.wheelNamesSpec.post enc Try.prog Try.f3 false true false false) := by
  refine returnsInHanded_of_change (C := Try.checked) (by kernel_rfl) started (by kernel_rfl) Try.func3
    (ChangeSpec.witness6 (enc := enc) (C := Try.checked) false ⟨#[], #[], []⟩ 8 (by kernel_rfl) (by kernel_rfl) (by kernel_rfl) (by kernel_rfl)) ?_
  intro W base args ds gs before hval0 hW hcnd _
  have hval : ∀ (j : Nat) t v, Try.f3.params[j]? = some t → args[j]? = some v → Value.okWide Try.prog W .any base t v := hval0
  have hW' := hW
  obtain ⟨p, q, hA0, hV, rfl, hfz, hnd⟩ := hW
  have hA : DataW.TrodAll enc Try.prog W 0 (fun _ => true) true Try.f3.params.toList args.toList ds p := hA0
  rw [Try.params3] at hA hval
  obtain ⟨rfl, rfl, rfl⟩ := trodAll_none hA
  obtain ⟨rfl, rfl⟩ := trodVars_none hV
  clear hA0 hval0
  refine (wheelNames_walk W ).mono fun e W' ⟨he, bel⟩ => ?_
  subst he
  exact ⟨_, rfl, _, _, _, [], _, [], hW', trodAll_mk1 (shut_bool Try.underlying4 _), trodAll_mk0, rfl, bel.frame _, fun h => by cases h⟩

theorem wheelNames_proved : Rows.WheelNamesSaid :=
  OpenClaim.holds_of_wide 3 Try.f3 rfl rfl rfl rfl rfl rfl rfl ⟨rfl, rfl, rfl, rfl, rfl⟩ rfl rfl rfl rfl rfl (by kernel_rfl) Try.func3 (by kernel_rfl)
    (of_decide_eq_true (by kernel_rfl)) (by unfold Func.isWrapper; first | (rw [if_pos (by decide +kernel)]; kernel_rfl) | (rw [if_neg (by decide +kernel)]; exact ⟨rfl, rfl⟩))
    (fun os started H enc _ => wheelNames_lifted os started H enc)
#print axioms wheelNames_proved
end Go.Proofs.Ytlhlleokehkolad
