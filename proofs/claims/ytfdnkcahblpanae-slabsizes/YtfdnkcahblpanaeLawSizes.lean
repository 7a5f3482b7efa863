/-
  SlabSizes: the classes of sizes, and the sizes and chunks of classes, are those of the document. No conditions.
-/
import Derived.Test.YtfdnkcahblpanaeSbClass
import Derived.Test.YtfdnkcahblpanaeChecked
namespace Go.Proofs.Ytfdnkcahblpanae
open Go.ChangeShapes Go.WideShapes Go.ChangeAt Go.RowKit
open Go.ChangeMaps (open_string shut_string)
set_option linter.unusedSimpArgs false
set_option linter.unusedVariables false
set_option maxRecDepth 100000

theorem slabSizes_walk (w : World) (n : Int) (h0 : (Lit.int .i64 n).wf = true) (c : Int) (h1 : (Lit.int .i64 c).wf = true) :
    Calls Try.prog 4 #[.int .i64 n, .int .i64 c] w fun e w' => e = .returned (.bool true) ∧ Below w.heap.size w w' := by
  have hcl : ∃ A E : Int, (∀ W, Calls Try.prog 23 #[.int .i64 n] W fun e w' => e = .returned (.tuple #[.int .i64 A, .int .i64 E]) ∧ w' = W) ∧ (∀ W, Calls Try.prog 24 #[.int .i64 n] W fun e w' => e = .returned (.tuple #[.int .i64 A, .int .i64 E]) ∧ w' = W) := by
    by_cases h : 1 ≤ n ∧ n ≤ 256
    · exact ⟨_, _, fun W => scls_good n W h, fun W => rcls_good n W h⟩
    · exact ⟨_, _, fun W => scls_bad n W h, fun W => rcls_bad n W h⟩
  obtain ⟨A, E, c1, c2⟩ := hcl
  have c3 := fun W => sSize_any c W
  have c4 := fun W => sChunks_any c W
  have c5 := fun W => risClass_any c W
  cases ec : isC c
  · rw [ec] at c5
    simp only [ec, if_neg (show ¬ (false = true) by decide)] at c3 c4
    clear ec
    go_enter Try.func4, Try.ntmps4
    go_wp2_with (first
      | (go_at_call 23; refine (c1 _).mono ?_; rintro e w2 ⟨rfl, hwq⟩; obtain rfl := hwq)
      | (go_at_call 24; refine (c2 _).mono ?_; rintro e w2 ⟨rfl, hwq⟩; obtain rfl := hwq)
      | (go_at_call 25; refine (c3 _).mono ?_; rintro e w2 ⟨rfl, hwq⟩; obtain rfl := hwq)
      | (go_at_call 26; refine (c4 _).mono ?_; rintro e w2 ⟨rfl, hwq⟩; obtain rfl := hwq)
      | (go_at_call 27; refine (c5 _).mono ?_; rintro e w2 ⟨rfl, hwq⟩; obtain rfl := hwq))
    go_ret
    exact ⟨rfl, Below.refl _ _⟩
  · have c6 := fun W => rsize_any c W ec
    have c7 := fun W => rchunks_any c W ec
    rw [ec] at c5
    simp only [ec, if_pos rfl] at c3 c4
    obtain ⟨S, hS⟩ : ∃ S : Int, S = 16 * 2 ^ c.toNat := ⟨_, rfl⟩
    obtain ⟨K, hK⟩ : ∃ K : Int, K = (chunks c : Int) := ⟨_, rfl⟩
    rw [← hS] at c3 c6
    rw [← hK] at c4 c7
    clear ec hS hK
    go_enter Try.func4, Try.ntmps4
    go_wp2_with (first
      | (go_at_call 23; refine (c1 _).mono ?_; rintro e w2 ⟨rfl, hwq⟩; obtain rfl := hwq)
      | (go_at_call 24; refine (c2 _).mono ?_; rintro e w2 ⟨rfl, hwq⟩; obtain rfl := hwq)
      | (go_at_call 25; refine (c3 _).mono ?_; rintro e w2 ⟨rfl, hwq⟩; obtain rfl := hwq)
      | (go_at_call 26; refine (c4 _).mono ?_; rintro e w2 ⟨rfl, hwq⟩; obtain rfl := hwq)
      | (go_at_call 27; refine (c5 _).mono ?_; rintro e w2 ⟨rfl, hwq⟩; obtain rfl := hwq)
      | (go_at_call 28; refine (c6 _).mono ?_; rintro e w2 ⟨rfl, hwq⟩; obtain rfl := hwq)
      | (go_at_call 29; refine (c7 _).mono ?_; rintro e w2 ⟨rfl, hwq⟩; obtain rfl := hwq))
    go_ret
    exact ⟨rfl, Below.refl _ _⟩

set_option maxRecDepth 100000 in
theorem slabSizes_lifted (os : Os) (started : os.Started) (H : Type) (enc : TypeId × Value → H) :
    ReturnsInHanded {} Try.checked os 4 .any (Rows.slabSizesSpec.pre6 enc Try.prog Try.f4 Rows.slabSizesRow.domain false) (Rows.slabSizesSpec.post enc Try.prog Try.f4 false true false false) := by
  refine returnsInHanded_of_change (C := Try.checked) (by kernel_rfl) started (by kernel_rfl) Try.func4
    (ChangeSpec.witness6 (enc := enc) (C := Try.checked) false ⟨#[], #[.int .i64 0, .int .i64 0], []⟩ 8 (by kernel_rfl) (by kernel_rfl) (by kernel_rfl) (by kernel_rfl)) ?_
  intro W base args ds gs before hval0 hW hcnd _
  have hval : ∀ (j : Nat) t v, Try.f4.params[j]? = some t → args[j]? = some v → Value.okWide Try.prog W .any base t v := hval0
  have hW' := hW
  obtain ⟨p, q, hA0, hV, rfl, hfz, hnd⟩ := hW
  have hA : DataW.TrodAll enc Try.prog W 0 (fun _ => true) true Try.f4.params.toList args.toList ds p := hA0
  rw [Try.params4] at hA hval
  obtain ⟨v0, vs0, d0, ds0, p0, q0, hargs, rfl, rfl, h0, r0⟩ := trodAll_cons hA
  obtain ⟨v1, vs1, d1, ds1, p1, q1, rfl, rfl, rfl, h1, r1⟩ := trodAll_cons r0
  obtain ⟨rfl, rfl, rfl⟩ := trodAll_nil r1
  obtain rfl : args = #[v0, v1] := by cases args; simp_all
  obtain ⟨rfl, rfl⟩ := trodVars_none hV
  obtain ⟨a0, rfl, rfl, rfl, w0⟩ := open_int Try.underlying3 (hval 0 3 v0 rfl rfl) h0
  obtain ⟨a1, rfl, rfl, rfl, w1⟩ := open_int Try.underlying3 (hval 1 3 v1 rfl rfl) h1
  clear hA0 hval0
  refine (slabSizes_walk W a0 w0 a1 w1).mono fun e W' ⟨he, bel⟩ => ?_
  subst he
  exact ⟨_, rfl, _, _, _, [], _, [], hW', trodAll_mk1 (shut_bool Try.underlying4 _), (trodAll_cons_mk (shut_int Try.underlying3 w0) (trodAll_cons_mk (shut_int Try.underlying3 w1) trodAll_mk0)), rfl, bel.frame _, fun h => by cases h⟩

theorem slabSizes_proved : Rows.SlabSizesSaid :=
  OpenClaim.holds_of_wide 4 Try.f4 rfl rfl rfl rfl rfl rfl rfl ⟨rfl, rfl, rfl, rfl, rfl⟩ rfl rfl rfl rfl rfl (by kernel_rfl) Try.func4 (by kernel_rfl)
    (of_decide_eq_true (by kernel_rfl)) (by unfold Func.isWrapper; first | (rw [if_pos (by decide +kernel)]; kernel_rfl) | (rw [if_neg (by decide +kernel)]; exact ⟨rfl, rfl⟩))
    (fun os started H enc _ => slabSizes_lifted os started H enc)
#print axioms slabSizes_proved
end Go.Proofs.Ytfdnkcahblpanae
