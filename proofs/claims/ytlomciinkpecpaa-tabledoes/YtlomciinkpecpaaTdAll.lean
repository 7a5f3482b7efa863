/-
  The document's table: All.
-/
import Derived.Test.YtlomciinkpecpaaTdY
namespace Go.Proofs.Ytlomciinkpecpaa
open Go.RowKit
set_option linter.unusedSimpArgs false
set_option linter.unusedVariables false
set_option maxRecDepth 100000

theorem OwnN.at {w : World} {base : Nat} {v : Value} {T : List Nm} (h : OwnN w base v T) :
    ∃ ao cap, v = .slice ao T.length cap ∧ T.length ≤ cap ∧ cap ≤ maxLen ∧ NsAt w ao T := by
  rcases h.2 with ⟨rfl, hn⟩ | ⟨g, cap, cur, rfl, hb, hg, hnc, hcm, hcs, htake⟩
  · have : T = [] := List.eq_nil_of_length_eq_zero hn
    subst this
    exact ⟨none, 0, rfl, by simp, by simp [maxLen], .inl rfl⟩
  · refine ⟨_, cap, rfl, hnc, hcm, .inr ⟨g, rfl, (Array.getElem?_eq_some_iff.1 hg).1, fun i hi => ?_⟩⟩
    have key : ∀ j (hj : j < 2), w.cell? ⟨g, i * 2 + j, none⟩ = some ((ncells T[i])[j]'(by rw [ncells_len]; exact hj)) := fun j hj => by
      have := World.ownsRow.cells h (g := g) rfl (i * 2 + j) _ (flatN_get T i j hi hj)
      rw [addr_add] at this
      simp only [Nat.zero_add] at this
      exact this
    exact ⟨key 0 (by omega), key 1 (by omega)⟩
set_option maxHeartbeats 1000000 in
theorem rall_any (w : World) (ao : Option Addr) (D : List NU) (cap : Nat) (h : De w ao D cap) (hl : D.length ≤ 1000) :
    Calls Try.prog 18 #[.agg #[.slice ao D.length cap]] w fun e w' => ∃ bo bc, e = .returned (.slice bo D.length bc) ∧ NsAt w' bo (D.map Prod.fst) ∧ D.length ≤ bc ∧ bc ≤ maxLen ∧ Below w.heap.size w w' := by
  have hcap := h.hl
  have hcm := h.hc
  unfold maxLen at hcm
  obtain ⟨w0, hw0⟩ : ∃ x, x = w.alloc (Obj.cells #[.slice ao D.length cap] 46) := ⟨_, rfl⟩
  have z0 : w0.cell? ⟨w.heap.size, 0, none⟩ = some (.slice ao D.length cap) := by rw [hw0]; simp
  have x0 : w.heap.size < w0.heap.size := by rw [hw0]; simp
  have HB0 : Hid (Below w.heap.size w w0) := by rw [hw0]; exact (Below.refl _ _).alloc (Nat.le_refl _) _
  have HT := Hid.mk2 (h.at_.belowD HB0.out)
  clear h
  go_enter Try.func18, Try.ntmps18
  go_upto_region 1 with (fail)
  rw [← hw0]
  clear hw0
  go_wp2
  go_loopw [3, 4] (fun s3 s4 wr => ∃ j : Nat, j ≤ D.length ∧ s4 = .int .i64 j ∧ Hid (OwnN wr w0.heap.size s3 ((D.take j).map Prod.fst)) ∧ Hid (Below w0.heap.size w0 wr)) (fun _ s4 _ => D.length - (intOf s4).toNat)
  case atStart => exact ⟨0, Nat.zero_le _, rfl, Hid.mk2 (by simpa using OwnN.nil _ _), Below.refl _ _⟩
  case round =>
    obtain ⟨j, hj, rfl, HO, HB⟩ := hrel
    have d0 := (bcl HB.out _ 0 x0).trans z0
    by_cases hlt : j < D.length
    · have hlt2 : (j : Int) < (D.length : Int) := by omega
      rcases HT.out with h0 | ⟨b, off, rfl, hbb, hcs⟩
      · rw [h0] at hlt; simp at hlt
      obtain ⟨q0, q1, q2⟩ := hcs j hlt
      have HTK : Hid ((D.take (j + 1)).map Prod.fst = (D.take j).map Prod.fst ++ [D[j].1]) := by
        unfold Hid
        rw [List.take_succ_eq_append_getElem hlt, List.map_append]
        simp
      obtain ⟨z, hz⟩ : ∃ z, z = D[j] := ⟨_, rfl⟩
      rw [← hz] at q0 q1 q2 HTK
      have e0 := (bcl HB.out _ _ hbb).trans q0
      have e1 := (bcl HB.out _ _ hbb).trans q1
      have hLn : ((D.take j).map Prod.fst).length ≤ 1000000 := by simp; omega
      have hbx := HB.out.size
      clear hz hcs q0 q1 q2
      go_wp2_with (at_builtin; refine app_n1 rfl (.tmp 12) (.tmp 19) rfl w0.heap.size _ _ HO.out rfl z.1 rfl _ rfl (by first | rfl | (simp; done)) (by omega) (by first | omega | (simp; omega)) ?_; intro v4 w4 ho4 hg4)
      go_roundw
      case rel =>
        refine ⟨j + 1, by omega, by go_num, by rw [HTK.out]; exact ho4, ?_⟩
        exact HB.out.grown hg4.grown (by omega) (fun k hk => (HO.out.lt k hk).1)
      case measure => simp [intOf]; omega
    · have hlt2 : decide ((j : Int) < (D.length : Int)) = false := by simp; omega
      have hkt : D.take j = D := List.take_of_length_le (by omega)
      rw [hkt] at HO
      clear hkt
      have hL : (D.map Prod.fst).length = D.length := by simp
      obtain ⟨bo, bc, hv, h1, h2, h3⟩ := HO.out.at
      rw [hL] at hv h1
      clear hL
      subst hv
      clear HO
      go_wp2
      go_ret
      exact ⟨bo, bc, rfl, h3, h1, h2, HB0.out.trans (HB.out.mono HB0.out.size)⟩
end Go.Proofs.Ytlomciinkpecpaa
