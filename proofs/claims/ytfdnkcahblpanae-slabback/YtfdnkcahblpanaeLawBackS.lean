/-
  SlabBack: what was taken, given back, leaves the slab as it was; what is given back is one chunk less, and a page without any is free. No conditions.
-/
import Derived.Test.YtfdnkcahblpanaeSbBack3
import Derived.Test.YtfdnkcahblpanaeSbRows
import Derived.Test.YtfdnkcahblpanaeChecked
namespace Go.Proofs.Ytfdnkcahblpanae
open Go.ChangeShapes Go.WideShapes Go.ChangeAt Go.RowKit
open Go.ChangeMaps (open_string shut_string)
set_option linter.unusedSimpArgs false
set_option linter.unusedVariables false
set_option maxRecDepth 100000

theorem slabBack_walk (w : World) (ao : Option Addr) (cap : Nat) (ps : List Pg) (h : Sb w ao ps cap) (t : Int) (wt : (Lit.int .i64 t).wf = true) (c : Int) (wc : (Lit.int .i64 c).wf = true) (q : Int) (wq : (Lit.int .i64 q).wf = true) (gi : Int) (wi : (Lit.int .i64 gi).wf = true) (gk : Int) (wk : (Lit.int .i64 gk).wf = true) :
    Calls Try.prog 6 #[.agg #[.slice ao ps.length cap], .int .i64 t, .int .i64 c, .int .i64 q, .int .i64 gi, .int .i64 gk] w fun e w' => e = .returned (.bool true) ∧ Below w.heap.size w w' := by
  by_cases hmany : 100 < ps.length
  · have h100 : decide ((100 : Int) < ps.length) = true := by simp; omega
    have h100n : decide (100 < ps.length) = true := by simp; omega
    clear h
    go_enter Try.func6, Try.ntmps6
    go_wp2_with (go_at_call 30; refine (alive_any _).mono ?_; rintro e w1 ⟨rfl, hb1⟩; have a1 : w1.cell? ⟨w.heap.size, 0, none⟩ = some (.slice ao ps.length cap) := (below_cells hb1 _ 0 (by simp)).trans (by simp); have x1 : w.heap.size < w1.heap.size := by (have := hb1.size; simp at this; omega))
    go_ret
    exact ⟨rfl, below_alloc hb1⟩
  have h100 : decide ((100 : Int) < ps.length) = false := by simp; omega
  have h100n : decide (100 < ps.length) = false := by simp; omega
  cases ho : sOk ps
  · have HCK := Hid.mk2 (fun W (hb : Below w.heap.size w W) => scheck_any W _ ps cap (h.below hb))
    rw [show sE ps = 8 by unfold sE; rw [ho]; rfl] at HCK
    clear h ho
    go_enter Try.func6, Try.ntmps6
    go_wp2_with (first
      | (go_at_call 30; refine (alive_any _).mono ?_; rintro e w1 ⟨rfl, hb1⟩; have a1 : w1.cell? ⟨w.heap.size, 0, none⟩ = some (.slice ao ps.length cap) := (below_cells hb1 _ 0 (by simp)).trans (by simp); have x1 : w.heap.size < w1.heap.size := by (have := hb1.size; simp at this; omega))
      | (go_at_call 16; refine (HCK.out _ (below_alloc hb1)).mono ?_; rintro e w2 ⟨rfl, hb2⟩))
    go_ret
    exact ⟨rfl, (below_alloc hb1).trans (hb2.mono (by omega))⟩
  have hlen := sOk_len ho
  obtain ⟨b, off, rfl, hbl, hcs⟩ := h.lies (by intro e; rw [e] at hlen; simp at hlen)
  have hfree : (∃ F : Int, freeE ps gi gk = F ∧ ¬ F = 0) ∨ ∃ (I K : Nat) (hI : I < ps.length), gi = (I : Int) ∧ gk = (K : Int) ∧ hasK ps[I] K = true := by
    by_cases hF : freeE ps gi gk = 0
    · right
      unfold freeE at hF
      rw [if_neg (by rw [ho]; decide)] at hF
      cases eI : inP ps gi
      · rw [if_pos eI] at hF; simp at hF
      · rw [if_neg (by rw [eI]; decide)] at hF
        have hI : 0 ≤ gi ∧ gi < (ps.length : Int) := by simpa [inP] using eI
        have hI2 : gi.toNat < ps.length := by omega
        cases eK : hasK (pgAt ps gi) gk
        · rw [if_pos eK] at hF; simp at hF
        · have eP : pgAt ps gi = ps[gi.toNat] := by unfold pgAt; rw [List.getElem?_eq_getElem hI2]; rfl
          rw [eP] at eK
          have hk := hasK_lt (sOk_pg ho _ hI2) eK
          refine ⟨gi.toNat, gk.toNat, hI2, by omega, by omega, ?_⟩
          rw [show ((gk.toNat : Nat) : Int) = gk by omega]
          exact eK
    · exact .inl ⟨_, rfl, hF⟩
  have htake : (∃ E : Int, takeE ps t c q = E ∧ ¬ E = 0) ∨ (isT t = true ∧ isC c = true ∧ isQ q = true ∧ ∃ I0 K0, place ps t c q = some (I0, K0)) := by
    by_cases hE : takeE ps t c q = 0
    · right
      unfold takeE at hE
      rw [if_neg (by rw [ho]; decide)] at hE
      cases eT : isT t
      · rw [if_pos eT] at hE; simp at hE
      cases eC : isC c
      · rw [if_neg (by rw [eT]; decide), if_pos eC] at hE; simp at hE
      cases eQ : isQ q
      · rw [if_neg (by rw [eT]; decide), if_neg (by rw [eC]; decide), if_pos eQ] at hE; simp at hE
      cases eP : place ps t c q with
      | none => rw [if_neg (by rw [eT]; decide), if_neg (by rw [eC]; decide), if_neg (by rw [eQ]; decide), if_pos (by rw [eP]; rfl)] at hE; simp at hE
      | some x => exact ⟨rfl, rfl, rfl, x.1, x.2, rfl⟩
    · exact .inl ⟨_, rfl, hE⟩
  rcases htake with ⟨E, hE, hE0⟩ | ⟨eT, eC, eQ, I0, K0, hp⟩
  · rcases hfree with ⟨F, hF, hF0⟩ | ⟨I, K, hI, rfl, rfl, hK⟩
    · exact back_nn w b off ps cap h ho hbl hcs t c q gi gk E hE hE0 F hF hF0
    · exact back_ny w b off ps cap h ho hbl hcs t c q I K E hE hE0 hI hK
  · rcases hfree with ⟨F, hF, hF0⟩ | ⟨I, K, hI, rfl, rfl, hK⟩
    · exact back_yn w b off ps cap h ho hbl hcs t c q gi gk eT eC eQ I0 K0 hp F hF hF0
    · exact back_yy w b off ps cap h ho hbl hcs t c q I K eT eC eQ I0 K0 hp hI hK

set_option maxRecDepth 100000 in
theorem slabBack_lifted (os : Os) (started : os.Started) (H : Type) (enc : TypeId × Value → H) :
    ReturnsInHanded {} Try.checked os 6 .any (Rows.slabBackSpec.pre6 enc Try.prog Try.f6 Rows.slabBackRow.domain false) (Rows.slabBackSpec.post enc Try.prog Try.f6 false true false false) := by
  refine returnsInHanded_of_change (C := Try.checked) (by kernel_rfl) started (by kernel_rfl) Try.func6
    (ChangeSpec.witness6 (enc := enc) (C := Try.checked) false ⟨#[], #[.agg #[.slice none 0 0], .int .i64 0, .int .i64 0, .int .i64 0, .int .i64 0, .int .i64 0], []⟩ 8 (by kernel_rfl) (by kernel_rfl) (by kernel_rfl) (by kernel_rfl)) ?_
  intro W base args ds gs before hval0 hW hcnd _
  have hval : ∀ (j : Nat) t v, Try.f6.params[j]? = some t → args[j]? = some v → Value.okWide Try.prog W .any base t v := hval0
  have hW' := hW
  obtain ⟨p, q, hA0, hV, rfl, hfz, hnd⟩ := hW
  have hA : DataW.TrodAll enc Try.prog W 0 (fun _ => true) true Try.f6.params.toList args.toList ds p := hA0
  rw [Try.params6] at hA hval
  obtain ⟨v0, vs0, d0, ds0, p0, q0, hargs, rfl, rfl, h0, r0⟩ := trodAll_cons hA
  obtain ⟨v1, vs1, d1, ds1, p1, q1, rfl, rfl, rfl, h1, r1⟩ := trodAll_cons r0
  obtain ⟨v2, vs2, d2, ds2, p2, q2, rfl, rfl, rfl, h2, r2⟩ := trodAll_cons r1
  obtain ⟨v3, vs3, d3, ds3, p3, q3, rfl, rfl, rfl, h3, r3⟩ := trodAll_cons r2
  obtain ⟨v4, vs4, d4, ds4, p4, q4, rfl, rfl, rfl, h4, r4⟩ := trodAll_cons r3
  obtain ⟨v5, vs5, d5, ds5, p5, q5, rfl, rfl, rfl, h5, r5⟩ := trodAll_cons r4
  obtain ⟨rfl, rfl, rfl⟩ := trodAll_nil r5
  obtain rfl : args = #[v0, v1, v2, v3, v4, v5] := by cases args; simp_all
  obtain ⟨rfl, rfl⟩ := trodVars_none hV
  have k0 := h0
  have lt0 : ∀ x ∈ p0, x.block < W.heap.size := by obtain ⟨m, hm⟩ := k0; exact DataW.trod_lt m _ _ _ hm
  obtain ⟨a0, cap0, l0, rfl, w0⟩ := inSlab_of (fun _ => rfl) (hval 0 24 v0 rfl rfl) h0
  obtain ⟨a1, rfl, rfl, rfl, w1⟩ := open_int Try.underlying3 (hval 1 3 v1 rfl rfl) h1
  obtain ⟨a2, rfl, rfl, rfl, w2⟩ := open_int Try.underlying3 (hval 2 3 v2 rfl rfl) h2
  obtain ⟨a3, rfl, rfl, rfl, w3⟩ := open_int Try.underlying3 (hval 3 3 v3 rfl rfl) h3
  obtain ⟨a4, rfl, rfl, rfl, w4⟩ := open_int Try.underlying3 (hval 4 3 v4 rfl rfl) h4
  obtain ⟨a5, rfl, rfl, rfl, w5⟩ := open_int Try.underlying3 (hval 5 3 v5 rfl rfl) h5
  clear hA0 hval0
  refine (slabBack_walk W a0 cap0 l0 w0 a1 w1 a2 w2 a3 w3 a4 w4 a5 w5).mono fun e W' ⟨he, bel⟩ => ?_
  subst he
  exact ⟨_, rfl, _, _, _, [], _, [], hW', trodAll_mk1 (shut_bool Try.underlying4 _), (trodAll_cons_mk (Below.trod laidOut_all (by kernel_rfl) (of_decide_eq_true (by kernel_rfl)) k0 bel lt0) (trodAll_cons_mk (shut_int Try.underlying3 w1) (trodAll_cons_mk (shut_int Try.underlying3 w2) (trodAll_cons_mk (shut_int Try.underlying3 w3) (trodAll_cons_mk (shut_int Try.underlying3 w4) (trodAll_cons_mk (shut_int Try.underlying3 w5) trodAll_mk0)))))), rfl, bel.frame _, fun h => by cases h⟩

theorem slabBack_proved : Rows.SlabBackSaid :=
  OpenClaim.holds_of_wide 6 Try.f6 rfl rfl rfl rfl rfl rfl rfl ⟨rfl, rfl, rfl, rfl, rfl⟩ rfl rfl rfl rfl rfl (by kernel_rfl) Try.func6 (by kernel_rfl)
    (of_decide_eq_true (by kernel_rfl)) (by unfold Func.isWrapper; first | (rw [if_pos (by decide +kernel)]; kernel_rfl) | (rw [if_neg (by decide +kernel)]; exact ⟨rfl, rfl⟩))
    (fun os started H enc _ => slabBack_lifted os started H enc)
#print axioms slabBack_proved
end Go.Proofs.Ytfdnkcahblpanae
