/-
  EnginePages (the walk, lifted to what its row asks): whatever the pages, quotas, moment and operations, the pages keep the quotas, and memory is refused only to a tenant that has all its pages. Under the card's own conditions alone (the library's tables are as their text lays them).
-/
import Derived.Test.YtcdpiefflnaghaaGreatDoorV04
import Derived.Test.YtcdpiefflnaghaaGreatDoorU14
import Derived.Test.YtcdpiefflnaghaaGreatDoorU44
import Derived.Test.YtcdpiefflnaghaaGreatDoorU07
import Derived.Stop.Joined
namespace Go.Proofs.YtcdpiefflnaghaaGreatDoor
open Go.Proofs.YtcdpiefflnaghaaGreatDoor.It
open Go.Proofs.YtcdpiefflnaghaaGreatDoor.Lr
open Go.Proofs.YtcdpiefflnaghaaGreatDoor.Me
open Go.Proofs.YtcdpiefflnaghaaGreatDoor.Qt
open Go.Proofs.YtcdpiefflnaghaaGreatDoor.Sb
open Go.Proofs.YtcdpiefflnaghaaGreatDoor.Tb
open Go.Proofs.YtcdpiefflnaghaaGreatDoor.Wh
open Go.ChangeShapes Go.WideShapes Go.ChangeAt Go.RowKit
set_option linter.unusedSimpArgs false
set_option linter.unusedVariables false
set_option maxRecDepth 100000

theorem enginePages_walk (W : World) (ht : It.Tab W) (pages : Int) (w0 : (Lit.int .i64 pages).wf = true) (qo : Option Addr) (Q : List Int) (qc : Nat) (hq : GRd EI W qo Q qc) (w1 : ∀ n ∈ Q, -9223372036854775808 ≤ n ∧ n ≤ 9223372036854775807) (now : Int) (w2 : (Lit.int .i64 now).wf = true) (lo : Option Addr) (l : List En.Opr) (lc : Nat) (h : En.Ops W lo l lc) (w3 : ∀ o ∈ l, En.OprOk W o) :
    Calls Tryz.prog 7 #[.int .i64 pages, .slice qo Q.length qc, .int .i64 now, .slice lo l.length lc] W fun e w' => e = .returned (.bool true) ∧ RowKit.Below W.heap.size W w' :=
  En.pages_go En.eng_is W (fun w' hb => It.Tab.below ht hb) pages now Q qo qc hq l lo lc h

set_option maxRecDepth 100000 in
theorem enginePages_lifted (os : Os) (started : os.Started) (H : Type) (enc : TypeId × Value → H) :
    ReturnsInHanded {} Tryz.checked os 7 .any (fun w args => (Rows.enginePagesSpec.pre enc Tryz.prog Tryz.f7 [] false w args ∧ laidMetH Tryz.prog It.laid3 w) ∧ sizedMet enc Tryz.prog Tryz.f7 (OpenSpec.ofChange Rows.enginePagesSpec) false w args) (Rows.enginePagesSpec.post enc Tryz.prog Tryz.f7 false true false false) := by
  refine returnsInHanded_of_change_and (C := Tryz.checked) (X := fun w _ => laidMetH Tryz.prog It.laid3 w) (fun _ _ _ hh h => h.of_heap hh) It.own started (by kernel_rfl) Tryz.func7
    (ChangeSpec.witness_shaped (enc := enc) (C := Tryz.checked) (os := os) (X := fun w _ => laidMetH Tryz.prog It.laid3 w) false (World.doorLaid Tryz.prog 400 os) #[.int .i64 0, .slice none 0 0, .int .i64 0, .slice none 0 0] 8 rfl (World.shaped_of_RefB (by kernel_rfl) (by kernel_rfl)) (by kernel_rfl) (by kernel_rfl) (by kernel_rfl) (It.door_met os _)) ?_
  intro W base args ds gs before hval0 hW hcnd _ hL _
  have hval : ∀ (j : Nat) t v, Tryz.f7.params[j]? = some t → args[j]? = some v → Value.okWide Tryz.prog W .any base t v := hval0
  have hW' := hW
  obtain ⟨p, q, hA0, hV, rfl, hfz, hnd⟩ := hW
  have hA : DataW.TrodAll enc Tryz.prog W 0 (fun _ => true) true Tryz.f7.params.toList args.toList ds p := hA0
  rw [Tryz.params7] at hA hval
  obtain ⟨v0, vs0, d0, ds0, p0, q0, hargs, rfl, rfl, h0, r0⟩ := trodAll_cons hA
  obtain ⟨v1, vs1, d1, ds1, p1, q1, rfl, rfl, rfl, h1, r1⟩ := trodAll_cons r0
  obtain ⟨v2, vs2, d2, ds2, p2, q2, rfl, rfl, rfl, h2, r2⟩ := trodAll_cons r1
  obtain ⟨v3, vs3, d3, ds3, p3, q3, rfl, rfl, rfl, h3, r3⟩ := trodAll_cons r2
  obtain ⟨rfl, rfl, rfl⟩ := trodAll_nil r3
  obtain rfl : args = #[v0, v1, v2, v3] := by cases args; simp_all
  obtain ⟨rfl, rfl⟩ := trodVars_none hV
  obtain ⟨a0, rfl, rfl, rfl, w0⟩ := open_int Tryz.underlying3 (hval 0 3 v0 rfl rfl) h0
  have k1 := h1
  have lt1 : ∀ x ∈ p1, x.block < W.heap.size := by obtain ⟨m, hm⟩ := k1; exact DataW.trod_lt m _ _ _ hm
  obtain ⟨lo1, l1, lc1, rfl, g1, w1⟩ := En.inNums_of (fun _ => rfl) (hval 1 26 v1 rfl rfl) h1
  obtain ⟨a2, rfl, rfl, rfl, w2⟩ := open_int Tryz.underlying3 (hval 2 3 v2 rfl rfl) h2
  have k3 := h3
  have lt3 : ∀ x ∈ p3, x.block < W.heap.size := by obtain ⟨m, hm⟩ := k3; exact DataW.trod_lt m _ _ _ hm
  obtain ⟨lo3, l3, lc3, rfl, g3, w3⟩ := En.inOps_of (fun _ => rfl) (hval 3 47 v3 rfl rfl) h3
  clear hA0 hval0
  refine (enginePages_walk W (It.tab_of_laid hL) a0 w0 lo1 l1 lc1 g1 w1 a2 w2 lo3 l3 lc3 g3 w3).mono fun e W' ⟨he, bel⟩ => ?_
  subst he
  exact ⟨_, rfl, _, _, _, [], _, [], hW', trodAll_mk1 (shut_bool Tryz.underlying4 _), (trodAll_cons_mk (shut_int Tryz.underlying3 w0) (trodAll_cons_mk (Below.trod En.laidOut_all (by kernel_rfl) (of_decide_eq_true (by kernel_rfl)) k1 bel lt1) (trodAll_cons_mk (shut_int Tryz.underlying3 w2) (trodAll_cons_mk (Below.trod En.laidOut_all (by kernel_rfl) (of_decide_eq_true (by kernel_rfl)) k3 bel lt3) trodAll_mk0)))), rfl, bel.frame _, fun h => by cases h⟩

end Go.Proofs.YtcdpiefflnaghaaGreatDoor
