/-
  QuotaNames: the limits and errors have their numbers, and the chapter's examples are so; no condition (there is no input).
-/
import Derived.Test.YtkcgleahbhmggaaQtAlive
import Derived.Test.YtkcgleahbhmggaaQtRows
import Derived.Deep.OwnRows
import Derived.Test.YtkcgleahbhmggaaChecked
namespace Go.Proofs.Ytkcgleahbhmggaa
open Go.ChangeShapes Go.WideShapes Go.ChangeAt Go.RowKit
open Go.ChangeMaps (open_string shut_string)
set_option linter.unusedSimpArgs false
set_option linter.unusedVariables false
set_option maxRecDepth 100000

def nq : List Pg := [⟨0, 0, 1, by decide⟩, pz, pz, pz]
/-- the example's slab, in its box -/
structure NX (wk : World) (g : Nat) : Prop where
  sb : Sb wk (some ⟨g, 0, none⟩) nq 4
  cl : wk.cell? ⟨g + 1, 0, none⟩ = some (.slice (some ⟨g, 0, none⟩) 4 4)
  lt : g + 1 < wk.heap.size
theorem NX.step {w w' : World} {g : Nat} (h : NX w g) (hb : Below w.heap.size w w') : NX w' g :=
  ⟨h.sb.below hb, (below_cells hb _ 0 h.lt).trans h.cl, by have := hb.size; have := h.lt; omega⟩
theorem NX.alloc {w : World} {g : Nat} (h : NX w g) (o : Obj) : NX (w.alloc o) g := h.step ((Below.refl _ _).alloc (Nat.le_refl _) _)
def nqW (w : World) : World := (w.alloc (.cells #[.int .i64 0, .int .i64 0, .int .u16 1, .int .i64 0, .int .i64 0, .int .u16 0, .int .i64 0, .int .i64 0, .int .u16 0, .int .i64 0, .int .i64 0, .int .u16 0] 30)).alloc (.cells #[.slice (some ⟨w.heap.size, 0, none⟩) 4 4] 33)
theorem nqW_below (w : World) : Below w.heap.size w (nqW w) := ((Below.refl _ _).alloc (Nat.le_refl _) _).alloc (by simp) _
theorem NX.begin (w : World) : NX (nqW w) w.heap.size := by
  unfold nqW
  refine ⟨⟨by decide, by omega, (by intro e; cases e), .inr ⟨w.heap.size, 0, rfl, by simp; omega, fun i hi => ?_⟩⟩, by simp, by simp⟩
  have h4 : i < 4 := hi
  have : i = 0 ∨ i = 1 ∨ i = 2 ∨ i = 3 := by omega
  rcases this with rfl | rfl | rfl | rfl <;> exact ⟨by simp [nq, pz], by simp [nq, pz], by simp [nq, pz]⟩
theorem il_one (w : World) (x : Int) : Il (w.alloc (.cells #[.int .i64 x] 3)) (some ⟨w.heap.size, 0, none⟩) [x] 1 := by
  refine ⟨by simp, by omega, (by intro e; cases e), .inr ⟨w.heap.size, 0, rfl, by simp, fun j hj => ?_⟩⟩
  have : j = 0 := by simp at hj; omega
  subst this
  simp
theorem il_five (w : World) : Il (w.alloc (.cells (madeCells #[Value.int .i64 0] 5) 3)) (some ⟨w.heap.size, 0, none⟩) [0, 0, 0, 0, 0] 5 := by
  refine ⟨by simp, by omega, (by intro e; cases e), .inr ⟨w.heap.size, 0, rfl, by simp, fun j hj => ?_⟩⟩
  have : j = 0 ∨ j = 1 ∨ j = 2 ∨ j = 3 ∨ j = 4 := by simp at hj; omega
  rcases this with rfl | rfl | rfl | rfl | rfl <;> simp [madeCells]
theorem run_five (W : World) : (Instr.makeSlice 22 (.int .i64 5) (.int .i64 5)).run Try.prog W = .ok (.slice (some ⟨W.heap.size, 0, none⟩) 5 5) (W.alloc (.cells (madeCells #[Value.int .i64 0] 5) 3)) :=
  run_make_row' 22 3 (.int .i64 0) 8 Try.underlying22 Try.infoInt rfl .i64 .i64 5 (by omega) (by omega) W
set_option maxHeartbeats 2000000 in
theorem quotaNames_walk (w : World) : Calls Try.prog 3 #[] w fun e w' => e = .returned (.bool true) ∧ Below w.heap.size w w' := by
  have HS1 := Hid.mk2 (fun W ao (h : Il W ao [2, 1] 2) => set_any 4 W ao [2, 1] 2 h 1 3 80 [] (by decide +kernel) (by decide +kernel))
  have HS2 := Hid.mk2 (fun W ao (h : Il W ao [2, 1] 2) => set_any 4 W ao [2, 1] 2 h 2 0 2 [] (by decide +kernel) (by decide +kernel))
  have HSU := Hid.mk2 (fun W ao (h : Il W ao [2, 1] 2) => qsum_any W ao [2, 1] 2 h)
  have HR1 := Hid.mk2 (fun W g ao (hx : NX W g) (h : Il W ao [1, 3] 2) => qroom_any W _ nq 4 hx.sb ao [1, 3] 2 h 0)
  have HO1 := Hid.mk2 (fun W g ao (hx : NX W g) (h : Il W ao [1, 3] 2) => qover_any W _ nq 4 hx.sb ao [1, 3] 2 h 0)
  have HR2 := Hid.mk2 (fun W g ao (hx : NX W g) (h : Il W ao [1, 3] 2) => qroom_any W _ nq 4 hx.sb ao [1, 3] 2 h 1)
  have HO2 := Hid.mk2 (fun W g ao (hx : NX W g) (h : Il W ao [0, 3] 2) => qover_any W _ nq 4 hx.sb ao [0, 3] 2 h 0)
  have HS5 := Hid.mk2 (fun W ao (h : Il W ao [0, 0, 0, 0, 0] 5) => qsum_any W ao [0, 0, 0, 0, 0] 5 h)
  have HC1 := Hid.mk2 (fun W ao (h : Il W ao [2, 2] 2) => qcheck_any 4 W ao [2, 2] 2 h)
  have HC2 := Hid.mk2 (fun W => qcheck_any 4 W none [] 0 (Il.nil W))
  have HC3 := Hid.mk2 (fun W ao (h : Il W ao [1] 1) => qcheck_any 17 W ao [1] 1 h)
  rw [show ([2, 1] : List Int).length = 2 from rfl, show ([] : List Int).length = 0 from rfl] at HS1 HS2
  rw [show ([2, 1] : List Int).length = 2 from rfl, show sumV [2, 1] = 3 from by decide +kernel, show sumE [2, 1] = 0 from by decide +kernel] at HSU
  rw [show ([1, 3] : List Int).length = 2 from rfl, show nq.length = 4 from rfl, show roomV nq [1, 3] 0 = false from by decide +kernel, show askE nq [1, 3] 0 = 0 from by decide +kernel] at HR1
  rw [show ([1, 3] : List Int).length = 2 from rfl, show nq.length = 4 from rfl, show overV nq [1, 3] 0 = 0 from by decide +kernel, show askE nq [1, 3] 0 = 0 from by decide +kernel] at HO1
  rw [show ([1, 3] : List Int).length = 2 from rfl, show nq.length = 4 from rfl, show roomV nq [1, 3] 1 = true from by decide +kernel, show askE nq [1, 3] 1 = 0 from by decide +kernel] at HR2
  rw [show ([0, 3] : List Int).length = 2 from rfl, show nq.length = 4 from rfl, show overV nq [0, 3] 0 = 1 from by decide +kernel, show askE nq [0, 3] 0 = 0 from by decide +kernel] at HO2
  rw [show ([0, 0, 0, 0, 0] : List Int).length = 5 from rfl, show sumV [0, 0, 0, 0, 0] = 0 from by decide +kernel, show sumE [0, 0, 0, 0, 0] = 4 from by decide +kernel] at HS5
  rw [show ([2, 2] : List Int).length = 2 from rfl, show chkE 4 [2, 2] = 0 from by decide +kernel] at HC1
  rw [show ([] : List Int).length = 0 from rfl, show chkE 4 [] = 80 from by decide +kernel] at HC2
  rw [show ([1] : List Int).length = 1 from rfl, show chkE 17 [1] = 2 from by decide +kernel] at HC3
  go_enter Try.func3, Try.ntmps3
  go_upto_region 2 with (go_at_call 12; refine (HS1.out _ _ (il_two _ _ _)).mono ?_; rintro e w1 ⟨ro1, rc1, rfl, -, hb⟩; have HB1 := Hid.mk2 (below_alloc hb); clear hb)
  go_upto_region 3 with (go_at_call 12; refine (HS2.out _ _ (il_two _ _ _)).mono ?_; rintro e w2 ⟨ro2, rc2, rfl, -, hb⟩; have HB2 := Hid.mk2 (HB1.out.trans ((below_alloc hb).mono HB1.out.size)); clear hb)
  go_upto_region 4 with (go_at_call 13; refine (HSU.out _ _ (il_two _ _ _)).mono ?_; rintro e w3 ⟨rfl, hw3⟩; have HB3 : Hid (Below w.heap.size w w3) := (by rw [hw3]; exact HB2.out.alloc HB2.out.size _); clear hw3)
  go_upto_region 5 with fail
  have HX4 := Hid.mk2 (NX.begin w3)
  have HB4 := Hid.mk2 (HB3.out.trans ((nqW_below w3).mono HB3.out.size))
  change Code.wp _ _ _ _ (nqW w3)
  generalize nqW w3 = w4 at HX4 HB4 ⊢
  have c4 := HX4.out.cl
  have l4 := HX4.out.lt
  generalize w3.heap.size = G at HX4 c4 l4 ⊢
  go_upto_region 6 with (go_at_call 14; refine (HR1.out _ _ _ (HX4.out.alloc _) (il_two _ _ _)).mono ?_; rintro e w5 ⟨rfl, hb⟩; have HX5 := Hid.mk2 ((HX4.out.alloc _).step hb); have c5 := HX5.out.cl; have l5 := HX5.out.lt; have HB5 := Hid.mk2 (HB4.out.trans ((below_alloc hb).mono HB4.out.size)); clear hb)
  go_upto_region 7 with (go_at_call 15; refine (HO1.out _ _ _ (HX5.out.alloc _) (il_two _ _ _)).mono ?_; rintro e w6 ⟨rfl, hb⟩; have HX6 := Hid.mk2 ((HX5.out.alloc _).step hb); have c6 := HX6.out.cl; have l6 := HX6.out.lt; have HB6 := Hid.mk2 (HB5.out.trans ((below_alloc hb).mono HB5.out.size)); clear hb)
  go_upto_region 8 with (go_at_call 14; refine (HR2.out _ _ _ (HX6.out.alloc _) (il_two _ _ _)).mono ?_; rintro e w7 ⟨rfl, hb⟩; have HX7 := Hid.mk2 ((HX6.out.alloc _).step hb); have c7 := HX7.out.cl; have l7 := HX7.out.lt; have HB7 := Hid.mk2 (HB6.out.trans ((below_alloc hb).mono HB6.out.size)); clear hb)
  go_upto_region 9 with (go_at_call 15; refine (HO2.out _ _ _ (HX7.out.alloc _) (il_two _ _ _)).mono ?_; rintro e w8 ⟨rfl, hb⟩; have HB8 := Hid.mk2 (HB7.out.trans ((below_alloc hb).mono HB7.out.size)); clear hb)
  clear HX4 HX5 HX6 HX7 c4 c5 c6 c7 l4 l5 l6 l7
  have hmk := run_five w8
  go_upto_region 10 with (go_at_call 13; refine (HS5.out _ _ (il_five _)).mono ?_; rintro e w9 ⟨rfl, hw9⟩; have HB9 : Hid (Below w.heap.size w w9) := (by rw [hw9]; exact HB8.out.alloc HB8.out.size _); clear hw9)
  go_upto_region 11 with (first
    | (go_at_call 16; have hq := H11; clear hq; refine (HC3.out _ _ (il_one _ _)).mono ?_; rintro e w12 ⟨rfl, hw12⟩; have HB12 : Hid (Below w.heap.size w w12) := (by rw [hw12]; exact HB10.out.alloc HB10.out.size _); clear hw12)
    | (go_at_call 16; have hq := HB10; clear hq; refine (HC2.out _).mono ?_; rintro e w11 ⟨rfl, hw11⟩; have hw11 := hw11.symm; subst hw11; have H11 : Hid True := trivial)
    | (go_at_call 16; refine (HC1.out _ _ (il_two _ _ _)).mono ?_; rintro e w10 ⟨rfl, hw10⟩; have HB10 : Hid (Below w.heap.size w w10) := (by rw [hw10]; exact HB9.out.alloc HB9.out.size _); clear hw10))
  go_wp2_with (go_at_call 17; refine (alive8_any _).mono ?_; rintro e w13 ⟨rfl, hb13⟩; have HB13 := Hid.mk2 (HB12.out.trans (hb13.mono HB12.out.size)); clear hb13)
  go_ret
  exact ⟨rfl, HB13.out⟩

set_option maxRecDepth 100000 in
theorem quotaNames_lifted (os : Os) (started : os.Started) (H : Type) (enc : TypeId × Value → H) :
    ReturnsInHanded {} Try.checked os 3 .any (Rows.quotaNamesSpec.pre6 enc Try.prog Try.f3 Rows.quotaNamesRow.domain false) (Rows.quotaNamesSpec.post enc Try.prog Try.f3 false true false false) := by
  refine returnsInHanded_of_change (C := Try.checked) (by kernel_rfl) started (by kernel_rfl) Try.func3
    (ChangeSpec.witness6 (enc := enc) (C := Try.checked) false ⟨#[], #[], []⟩ 8 (by kernel_rfl) (by kernel_rfl) (by kernel_rfl) (by kernel_rfl)) ?_
  intro W base args ds gs before hval0 hW hcnd _
  have hval : ∀ (j : Nat) t v, Try.f3.params[j]? = some t → args[j]? = some v → Value.okWide Try.prog W .any base t v := hval0
  have hW' := hW
  obtain ⟨p, q, hA0, hV, rfl, hfz, hnd⟩ := hW
  have hA : DataW.TrodAll enc Try.prog W 0 (fun _ => true) true Try.f3.params.toList args.toList ds p := hA0
  rw [Try.params3] at hA hval
  obtain ⟨rfl, rfl, rfl⟩ := trodAll_none hA
  obtain ⟨rfl, rfl⟩ := trodVars_none hV
  clear hA0 hval0
  refine (quotaNames_walk W ).mono fun e W' ⟨he, bel⟩ => ?_
  subst he
  exact ⟨_, rfl, _, _, _, [], _, [], hW', trodAll_mk1 (shut_bool Try.underlying4 _), trodAll_mk0, rfl, bel.frame _, fun h => by cases h⟩

theorem quotaNames_proved : Rows.QuotaNamesSaid :=
  OpenClaim.holds_of_wide 3 Try.f3 rfl rfl rfl rfl rfl rfl rfl ⟨rfl, rfl, rfl, rfl, rfl⟩ rfl rfl rfl rfl rfl (by kernel_rfl) Try.func3 (by kernel_rfl)
    (of_decide_eq_true (by kernel_rfl)) (by unfold Func.isWrapper; first | (rw [if_pos (by decide +kernel)]; kernel_rfl) | (rw [if_neg (by decide +kernel)]; exact ⟨rfl, rfl⟩))
    (fun os started H enc _ => quotaNames_lifted os started H enc)
#print axioms quotaNames_proved
end Go.Proofs.Ytkcgleahbhmggaa
