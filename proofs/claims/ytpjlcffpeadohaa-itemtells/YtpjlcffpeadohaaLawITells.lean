/-
  ItemTells: which items may be, their sizes, when they are due, and moments, are the document's. No conditions.
-/
import Derived.Test.YtpjlcffpeadohaaItIn
import Derived.Test.YtpjlcffpeadohaaItRefA
import Derived.Test.YtpjlcffpeadohaaChecked
import Derived.Shelf.SlSortCmp.QuietGrown
import Derived.Deep.Cut
namespace Go.Proofs.Ytpjlcffpeadohaa
open Go.ChangeShapes Go.WideShapes Go.ChangeAt Go.RowKit Go.Sort Go.Shelf
open Go.ChangeMaps (open_string shut_string)
set_option linter.unusedSimpArgs false
set_option linter.unusedVariables false
set_option maxRecDepth 100000

theorem below_grow (w : World) (n : Nat) (os : Array Obj) : Below w.heap.size w (grow (w.drewN n) os) :=
  ⟨rfl, rfl, rfl, by simp [grow, World.drewN], fun k hk => heap_grow_old _ _ hk⟩
theorem grown_alloc {f : FuncId} {args : Array Value} {w : World} {v : Value} {o : Obj} (h : Calls Try.prog f args w fun e w' => e = .returned v ∧ w' = w.alloc o) :
    Calls Try.prog f args w fun e w' => e = .returned v ∧ ∃ q os', w' = grow (w.drewN q) os' := by
  refine h.mono ?_
  rintro e w' ⟨rfl, rfl⟩
  exact ⟨rfl, 0, _, alloc_eq_grow w _⟩
/-- an item's cells -/
def It.At (x : It) (w : World) (b : Nat) : Prop :=
  b < w.heap.size ∧ w.cell? ⟨b, 0, none⟩ = some (.string x.key) ∧ w.cell? ⟨b, 1, none⟩ = some (.string x.value) ∧ w.cell? ⟨b, 2, none⟩ = some (.int .u32 x.flags) ∧ w.cell? ⟨b, 3, none⟩ = some (.int .i64 x.till) ∧ w.cell? ⟨b, 4, none⟩ = some (.int .u64 x.unique)
theorem It.At.below {x : It} {w w' : World} {b : Nat} (h : x.At w b) (hb : Below w.heap.size w w') : x.At w' b := by
  obtain ⟨h, h0, h1, h2, h3, h4⟩ := h
  exact ⟨Nat.lt_of_lt_of_le h hb.size, (hb.cell (p := ⟨b, 0, none⟩) h).trans h0, (hb.cell (p := ⟨b, 1, none⟩) h).trans h1, (hb.cell (p := ⟨b, 2, none⟩) h).trans h2, (hb.cell (p := ⟨b, 3, none⟩) h).trans h3, (hb.cell (p := ⟨b, 4, none⟩) h).trans h4⟩
theorem It.At.made (x : It) (w : World) : x.At (w.alloc x.obj) w.heap.size := by
  unfold It.obj
  refine ⟨by simp, ?_, ?_, ?_, ?_, ?_⟩ <;> simp

set_option maxHeartbeats 4000000 in
theorem itemTells_walk (w : World) (x : It) (now : Int) (w1 : (Lit.int .i64 now).wf = true) (many : Int) (w2 : (Lit.int .i64 many).wf = true) :
    Calls Try.prog 3 #[x.v, .int .i64 now, .int .i64 many] w fun e w' => e = .returned (.bool true) ∧ Below w.heap.size w w' := by
  have mixed : Try.prog.follows .mixedOrders = true := by kernel_rfl
  have HI := Hid.mk2 (fun W => isize_any x W)
  have HR := Hid.mk2 (fun W => rsize9_any x W)
  have HU := Hid.mk2 (fun W => iuntil_any now many W)
  have HV := Hid.mk2 (fun W => runtil_any now many W)
  have hck := fun W => grown_alloc (icheck_any x W)
  have hrk := fun W => grown_alloc (rcheck9_any x W)
  have hdu := fun W => grown_alloc (idue_any x now W)
  have hrd := fun W => grown_alloc (rdue9_any x now W)
  obtain ⟨D, e1⟩ : ∃ D, D = dueV x now := ⟨_, rfl⟩
  obtain ⟨S, e2⟩ : ∃ S, S = szV x := ⟨_, rfl⟩
  obtain ⟨E, e3⟩ : ∃ E, E = ckE x := ⟨_, rfl⟩
  obtain ⟨U, e4⟩ : ∃ U, U = unV now many := ⟨_, rfl⟩
  obtain ⟨F, e5⟩ : ∃ F, F = unE now many := ⟨_, rfl⟩
  rw [← e2, ← e3] at HI HR
  rw [← e4, ← e5] at HU HV
  rw [← e3] at hck hrk
  rw [← e1] at hdu hrd
  clear e1 e2 e3 e4 e5 w1 w2
  have HM := Hid.mk2 (It.At.made x w)
  obtain ⟨key, value, flags, till, unique⟩ := x
  unfold It.v It.obj at *
  dsimp only at *
  go_enter Try.func3, Try.ntmps3
  go_upto_region 5 with (first
    | (go_at_call 4; refine (HI.out _).mono ?_; rintro e w1 ⟨rfl, rfl⟩)
    | (go_at_call 5; refine (HR.out _).mono ?_; rintro e w2 ⟨rfl, hb2⟩)
    | (go_at_call 6; refine (HU.out _).mono ?_; rintro e w3 ⟨rfl, hw3⟩; subst hw3)
    | (go_at_call 7; refine (HV.out _).mono ?_; rintro e w4 ⟨rfl, hw4⟩; subst hw4))
  have hall : Below w.heap.size w w4 := (((Below.refl _ _).alloc (Nat.le_refl _) _).alloc (by simp) _).alloc (by simp; omega) _ |>.trans (hb2.mono (by simp; omega))
  have hcs := (HM.out.below ((Below.refl _ _).alloc (Nat.le_refl _) _)).below ((Below.refl _ _).alloc (Nat.le_refl _) _) |>.below hb2
  have HBA := Hid.mk2 hall
  obtain ⟨hlt, c0, c1, c2, c3, c4⟩ := hcs
  clear hb2 hall HI HR HU HV HM
  obtain ⟨b, hb⟩ : ∃ b, b = w.heap.size := ⟨_, rfl⟩
  dsimp only at c0 c1 c2 c3 c4
  have d0 : ∀ n os, (grow (w4.drewN n) os).cell? ⟨w.heap.size, 0, none⟩ = _ := cell_grown hlt c0
  have d1 : ∀ n os, (grow (w4.drewN n) os).cell? ⟨w.heap.size, 1, none⟩ = _ := cell_grown hlt c1
  have d2 : ∀ n os, (grow (w4.drewN n) os).cell? ⟨w.heap.size, 2, none⟩ = _ := cell_grown hlt c2
  have d3 : ∀ n os, (grow (w4.drewN n) os).cell? ⟨w.heap.size, 3, none⟩ = _ := cell_grown hlt c3
  have d4 : ∀ n os, (grow (w4.drewN n) os).cell? ⟨w.heap.size, 4, none⟩ = _ := cell_grown hlt c4
  clear c0 c1 c2 c3 c4
  go_quiet_grown (first
    | (go_at_call 8; exact Calls.grown_of (hck _))
    | (go_at_call 9; exact Calls.grown_of (hrk _))
    | (go_at_call 10; exact Calls.grown_of (hdu _))
    | (go_at_call 11; exact Calls.grown_of (hrd _)))
  go_wp2
  go_ret
  exact ⟨by simp, HBA.out.trans ((below_grow w4 _ _).mono HBA.out.size)⟩

set_option maxRecDepth 100000 in
theorem itemTells_lifted (os : Os) (started : os.Started) (H : Type) (enc : TypeId × Value → H) :
    ReturnsInHanded {} Try.checked os 3 .any (Rows.itemTellsSpec.pre6 enc Try.prog Try.f3 Rows.itemTellsRow.domain false) (Rows.itemTellsSpec.post enc Try.prog Try.f3 false true false false) := by
  refine returnsInHanded_of_change (C := Try.checked) (by kernel_rfl) started (by kernel_rfl) Try.func3
    (ChangeSpec.witness6 (enc := enc) (C := Try.checked) false ⟨#[], #[.agg #[.string ⟨#[]⟩, .string ⟨#[]⟩, .int .u32 0, .int .i64 0, .int .u64 0], .int .i64 0, .int .i64 0], []⟩ 8 (by kernel_rfl) (by kernel_rfl) (by kernel_rfl) (by kernel_rfl)) ?_
  intro W base args ds gs before hval0 hW hcnd _
  have hval : ∀ (j : Nat) t v, Try.f3.params[j]? = some t → args[j]? = some v → Value.okWide Try.prog W .any base t v := hval0
  have hW' := hW
  obtain ⟨p, q, hA0, hV, rfl, hfz, hnd⟩ := hW
  have hA : DataW.TrodAll enc Try.prog W 0 (fun _ => true) true Try.f3.params.toList args.toList ds p := hA0
  rw [Try.params3] at hA hval
  obtain ⟨v0, vs0, d0, ds0, p0, q0, hargs, rfl, rfl, h0, r0⟩ := trodAll_cons hA
  obtain ⟨v1, vs1, d1, ds1, p1, q1, rfl, rfl, rfl, h1, r1⟩ := trodAll_cons r0
  obtain ⟨v2, vs2, d2, ds2, p2, q2, rfl, rfl, rfl, h2, r2⟩ := trodAll_cons r1
  obtain ⟨rfl, rfl, rfl⟩ := trodAll_nil r2
  obtain rfl : args = #[v0, v1, v2] := by cases args; simp_all
  obtain ⟨rfl, rfl⟩ := trodVars_none hV
  have k0 := h0
  have lt0 : ∀ x ∈ p0, x.block < W.heap.size := by obtain ⟨m, hm⟩ := k0; exact DataW.trod_lt m _ _ _ hm
  obtain ⟨l0, rfl⟩ := inItem_of (hval 0 25 v0 rfl rfl) h0
  obtain ⟨a1, rfl, rfl, rfl, w1⟩ := open_int Try.underlying3 (hval 1 3 v1 rfl rfl) h1
  obtain ⟨a2, rfl, rfl, rfl, w2⟩ := open_int Try.underlying3 (hval 2 3 v2 rfl rfl) h2
  clear hA0 hval0
  refine (itemTells_walk W l0 a1 w1 a2 w2).mono fun e W' ⟨he, bel⟩ => ?_
  subst he
  exact ⟨_, rfl, _, _, _, [], _, [], hW', trodAll_mk1 (shut_bool Try.underlying4 _), (trodAll_cons_mk (Below.trod laidOut_all (by kernel_rfl) (of_decide_eq_true (by kernel_rfl)) k0 bel lt0) (trodAll_cons_mk (shut_int Try.underlying3 w1) (trodAll_cons_mk (shut_int Try.underlying3 w2) trodAll_mk0))), rfl, bel.frame _, fun h => by cases h⟩

theorem itemTells_proved : Rows.ItemTellsSaid :=
  OpenClaim.holds_of_wide 3 Try.f3 rfl rfl rfl rfl rfl rfl rfl ⟨rfl, rfl, rfl, rfl, rfl⟩ rfl rfl rfl rfl rfl (by kernel_rfl) Try.func3 (by kernel_rfl)
    (of_decide_eq_true (by kernel_rfl)) (by unfold Func.isWrapper; first | (rw [if_pos (by decide +kernel)]; kernel_rfl) | (rw [if_neg (by decide +kernel)]; exact ⟨rfl, rfl⟩))
    (fun os started H enc _ => itemTells_lifted os started H enc)
#print axioms itemTells_proved
end Go.Proofs.Ytpjlcffpeadohaa
