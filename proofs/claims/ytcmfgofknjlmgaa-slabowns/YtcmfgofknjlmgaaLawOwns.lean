/-
  SlabOwns: what is taken is one chunk more of that tenant and class, nobody else's pages change, nobody has more than its quota, nobody is refused below it. No conditions.
-/
import Derived.Test.YtcmfgofknjlmgaaSbOwns3
import Derived.Test.YtcmfgofknjlmgaaSbRows
import Derived.Test.YtcmfgofknjlmgaaChecked
namespace Go.Proofs.Ytcmfgofknjlmgaa
open Go.ChangeShapes Go.WideShapes Go.ChangeAt Go.RowKit
open Go.ChangeMaps (open_string shut_string)
set_option linter.unusedSimpArgs false
set_option linter.unusedVariables false
set_option maxRecDepth 100000

theorem slabOwns_walk (w : World) (ao : Option Addr) (cap : Nat) (ps : List Pg) (h : Sb w ao ps cap) (t : Int) (wt : (Lit.int .i64 t).wf = true) (c : Int) (wc : (Lit.int .i64 c).wf = true) (q : Int) (wq : (Lit.int .i64 q).wf = true) :
    Calls Try.prog 6 #[.agg #[.slice ao ps.length cap], .int .i64 t, .int .i64 c, .int .i64 q] w fun e w' => e = .returned (.bool true) ∧ Below w.heap.size w w' := by
  by_cases hmany : 100 < ps.length
  · have h100 : decide ((100 : Int) < ps.length) = true := by simp; omega
    have h100n : decide (100 < ps.length) = true := by simp; omega
    clear h
    go_enter Try.func6, Try.ntmps6
    go_wp2_with (go_at_call 12; refine (alive_any _).mono ?_; rintro e w1 ⟨rfl, hb1⟩; have a1 : w1.cell? ⟨w.heap.size, 0, none⟩ = some (.slice ao ps.length cap) := (below_cells hb1 _ 0 (by simp)).trans (by simp); have x1 : w.heap.size < w1.heap.size := by (have := hb1.size; simp at this; omega))
    go_ret
    exact ⟨rfl, below_alloc hb1⟩
  have h100 : decide ((100 : Int) < ps.length) = false := by simp; omega
  have h100n : decide (100 < ps.length) = false := by simp; omega
  cases ho : sOk ps
  · have HCK := Hid.mk2 (fun W (hb : Below w.heap.size w W) => scheck_any W _ ps cap (h.below hb))
    rw [show sE ps = 8 by unfold sE; rw [ho]; rfl] at HCK
    clear h ho
    go_enter Try.func6, Try.ntmps6
    go_wp2_with (first
      | (go_at_call 12; refine (alive_any _).mono ?_; rintro e w1 ⟨rfl, hb1⟩; have a1 : w1.cell? ⟨w.heap.size, 0, none⟩ = some (.slice ao ps.length cap) := (below_cells hb1 _ 0 (by simp)).trans (by simp); have x1 : w.heap.size < w1.heap.size := by (have := hb1.size; simp at this; omega))
      | (go_at_call 22; refine (HCK.out _ (below_alloc hb1)).mono ?_; rintro e w2 ⟨rfl, hb2⟩))
    go_ret
    exact ⟨rfl, (below_alloc hb1).trans (hb2.mono (by omega))⟩
  have hlen := sOk_len ho
  obtain ⟨b, off, rfl, hbl, hcs⟩ := h.lies (by intro e; rw [e] at hlen; simp at hlen)
  cases eT : isT t
  · exact owns2 w b off ps cap h ho hbl hcs t c q (by unfold takeE; rw [if_neg (by rw [ho]; decide), if_pos eT])
  cases eC : isC c
  · exact owns2 w b off ps cap h ho hbl hcs t c q (by unfold takeE; rw [if_neg (by rw [ho]; decide), if_neg (by rw [eT]; decide), if_pos eC])
  cases eQ : isQ q
  · exact owns2 w b off ps cap h ho hbl hcs t c q (by unfold takeE; rw [if_neg (by rw [ho]; decide), if_neg (by rw [eT]; decide), if_neg (by rw [eC]; decide), if_pos eQ])
  cases eP : place ps t c q with
  | none => exact owns9 w b off ps cap h ho hbl hcs t c q eT eC eQ eP
  | some x =>
    obtain ⟨I, K⟩ := x
    exact owns0 w b off ps cap h ho hbl hcs t c q eT eC eQ I K eP

set_option maxRecDepth 100000 in
theorem slabOwns_lifted (os : Os) (started : os.Started) (H : Type) (enc : TypeId × Value → H) :
    ReturnsInHanded {} Try.checked os 6 .any (Rows.slabOwnsSpec.pre6 enc Try.prog Try.f6 Rows.slabOwnsRow.domain false) (Rows.slabOwnsSpec.post enc Try.prog Try.f6 false true false false) := by
  refine returnsInHanded_of_change (C := Try.checked) (by kernel_rfl) started (by kernel_rfl) Try.func6
    (ChangeSpec.witness6 (enc := enc) (C := Try.checked) false ⟨#[], #[.agg #[.slice none 0 0], .int .i64 0, .int .i64 0, .int .i64 0], []⟩ 8 (by kernel_rfl) (by kernel_rfl) (by kernel_rfl) (by kernel_rfl)) ?_
  intro W base args ds gs before hval0 hW hcnd _
  have hval : ∀ (j : Nat) t v, Try.f6.params[j]? = some t → args[j]? = some v → Value.okWide Try.prog W .any base t v := hval0
  have hW' := hW
  obtain ⟨p, q, hA0, hV, rfl, hfz, hnd⟩ := hW
  have hA : DataW.TrodAll enc Try.prog W 0 (fun _ => true) true Try.f6.params.toList args.toList ds p := hA0
  rw [Try.params6] at hA hval
  obtain ⟨v0, vs0, d0, ds0, p0, q0, hargs, rfl, rfl, h0, r0⟩ := trodAll_cons hA
  obtain ⟨v1, vs1, d1, ds1, p1, q1, rfl, rfl, rfl, h1, r1⟩ := trodAll_cons r0
  obtain ⟨v2, vs2, d2, ds2, p2, q2, rfl, rfl, rfl, h2, r2⟩ := trodAll_cons r1
  obtain ⟨v3, vs3, d3, ds3, p3, q3, rfl, rfl, rfl, h3, r3⟩ := trodAll_cons r2
  obtain ⟨rfl, rfl, rfl⟩ := trodAll_nil r3
  obtain rfl : args = #[v0, v1, v2, v3] := by cases args; simp_all
  obtain ⟨rfl, rfl⟩ := trodVars_none hV
  have k0 := h0
  have lt0 : ∀ x ∈ p0, x.block < W.heap.size := by obtain ⟨m, hm⟩ := k0; exact DataW.trod_lt m _ _ _ hm
  obtain ⟨a0, cap0, l0, rfl, w0⟩ := inSlab_of (fun _ => rfl) (hval 0 46 v0 rfl rfl) h0
  obtain ⟨a1, rfl, rfl, rfl, w1⟩ := open_int Try.underlying3 (hval 1 3 v1 rfl rfl) h1
  obtain ⟨a2, rfl, rfl, rfl, w2⟩ := open_int Try.underlying3 (hval 2 3 v2 rfl rfl) h2
  obtain ⟨a3, rfl, rfl, rfl, w3⟩ := open_int Try.underlying3 (hval 3 3 v3 rfl rfl) h3
  clear hA0 hval0
  refine (slabOwns_walk W a0 cap0 l0 w0 a1 w1 a2 w2 a3 w3).mono fun e W' ⟨he, bel⟩ => ?_
  subst he
  exact ⟨_, rfl, _, _, _, [], _, [], hW', trodAll_mk1 (shut_bool Try.underlying4 _), (trodAll_cons_mk (Below.trod laidOut_all (by kernel_rfl) (of_decide_eq_true (by kernel_rfl)) k0 bel lt0) (trodAll_cons_mk (shut_int Try.underlying3 w1) (trodAll_cons_mk (shut_int Try.underlying3 w2) (trodAll_cons_mk (shut_int Try.underlying3 w3) trodAll_mk0)))), rfl, bel.frame _, fun h => by cases h⟩

theorem slabOwns_proved : Rows.SlabOwnsSaid :=
  OpenClaim.holds_of_wide 6 Try.f6 rfl rfl rfl rfl rfl rfl rfl ⟨rfl, rfl, rfl, rfl, rfl⟩ rfl rfl rfl rfl rfl (by kernel_rfl) Try.func6 (by kernel_rfl)
    (of_decide_eq_true (by kernel_rfl)) (by unfold Func.isWrapper; first | (rw [if_pos (by decide +kernel)]; kernel_rfl) | (rw [if_neg (by decide +kernel)]; exact ⟨rfl, rfl⟩))
    (fun os started H enc _ => slabOwns_lifted os started H enc)
#print axioms slabOwns_proved
end Go.Proofs.Ytcmfgofknjlmgaa
