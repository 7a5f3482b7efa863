/-
  TicketCalm: where a ticket waits, whoever has the eldest one is ready, whatever the inboxes. No conditions.
-/
import Derived.Test.YtbncanlkkgclbaaLawTCalm
import Derived.Test.YtbncanlkkgclbaaTkIn
import Derived.Test.YtbncanlkkgclbaaChecked
namespace Go.Proofs.Ytbncanlkkgclbaa
open Go.ChangeShapes Go.WideShapes Go.ChangeAt Go.RowKit
open Go.ChangeMaps (open_string shut_string)
set_option linter.unusedSimpArgs false
set_option linter.unusedVariables false
set_option maxRecDepth 100000

theorem ticketCalm_walk (w : World) (next : Int) (ao : Option Addr) (B : List Bx) (cap : Nat) (h : Qr w ao B cap) :
    Calls Try.prog 8 #[.agg #[.int .i64 next, .slice ao B.length cap]] w fun e w' => e = .returned (.bool true) ∧ Below w.heap.size w w' := ticketCalm_any B ao cap next w h

set_option maxRecDepth 100000 in
theorem ticketCalm_lifted (os : Os) (started : os.Started) (H : Type) (enc : TypeId × Value → H) :
    ReturnsInHanded {} Try.checked os 8 .any (Rows.ticketCalmSpec.pre6 enc Try.prog Try.f8 Rows.ticketCalmRow.domain false) (Rows.ticketCalmSpec.post enc Try.prog Try.f8 false true false false) := by
  refine returnsInHanded_of_change (C := Try.checked) (by kernel_rfl) started (by kernel_rfl) Try.func8
    (ChangeSpec.witness6 (enc := enc) (C := Try.checked) false ⟨#[], #[.agg #[.int .i64 0, .slice none 0 0]], []⟩ 8 (by kernel_rfl) (by kernel_rfl) (by kernel_rfl) (by kernel_rfl)) ?_
  intro W base args ds gs before hval0 hW hcnd _
  have hval : ∀ (j : Nat) t v, Try.f8.params[j]? = some t → args[j]? = some v → Value.okWide Try.prog W .any base t v := hval0
  have hW' := hW
  obtain ⟨p, q, hA0, hV, rfl, hfz, hnd⟩ := hW
  have hA : DataW.TrodAll enc Try.prog W 0 (fun _ => true) true Try.f8.params.toList args.toList ds p := hA0
  rw [Try.params8] at hA hval
  obtain ⟨v0, vs0, d0, ds0, p0, q0, hargs, rfl, rfl, h0, r0⟩ := trodAll_cons hA
  obtain ⟨rfl, rfl, rfl⟩ := trodAll_nil r0
  obtain rfl : args = #[v0] := by cases args; simp_all
  obtain ⟨rfl, rfl⟩ := trodVars_none hV
  have k0 := h0
  have lt0 : ∀ x ∈ p0, x.block < W.heap.size := by obtain ⟨m, hm⟩ := k0; exact DataW.trod_lt m _ _ _ hm
  obtain ⟨n0, ao0, l0, cap0, rfl, g0⟩ := inQueue_of (fun _ => rfl) (hval 0 62 v0 rfl rfl) h0
  clear hA0 hval0
  refine (ticketCalm_walk W n0 ao0 l0 cap0 g0).mono fun e W' ⟨he, bel⟩ => ?_
  subst he
  exact ⟨_, rfl, _, _, _, [], _, [], hW', trodAll_mk1 (shut_bool Try.underlying4 _), (trodAll_cons_mk (Below.trod laidOut_all (by kernel_rfl) (of_decide_eq_true (by kernel_rfl)) k0 bel lt0) trodAll_mk0), rfl, bel.frame _, fun h => by cases h⟩

theorem ticketCalm_proved : Rows.TicketCalmSaid :=
  OpenClaim.holds_of_wide 8 Try.f8 rfl rfl rfl rfl rfl rfl rfl ⟨rfl, rfl, rfl, rfl, rfl⟩ rfl rfl rfl rfl rfl (by kernel_rfl) Try.func8 (by kernel_rfl)
    (of_decide_eq_true (by kernel_rfl)) (by unfold Func.isWrapper; first | (rw [if_pos (by decide +kernel)]; kernel_rfl) | (rw [if_neg (by decide +kernel)]; exact ⟨rfl, rfl⟩))
    (fun os started H enc _ => ticketCalm_lifted os started H enc)
#print axioms ticketCalm_proved
end Go.Proofs.Ytbncanlkkgclbaa

