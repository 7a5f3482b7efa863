/-
  QuotaOver: a tenant that gives back as many pages as it has too many, the greatest ones first, has just its quota. No conditions.
-/
import Derived.Test.YtkcgleahbhmggaaQtOver
import Derived.Test.YtkcgleahbhmggaaChecked
namespace Go.Proofs.Ytkcgleahbhmggaa
open Go.ChangeShapes Go.WideShapes Go.ChangeAt Go.RowKit
open Go.ChangeMaps (open_string shut_string)
set_option linter.unusedSimpArgs false
set_option linter.unusedVariables false
set_option maxRecDepth 100000

theorem over_long (w : World) (so : Option Addr) (sc : Nat) (ps : List Pg) (hs : Sb w so ps sc) (ao : Option Addr) (cap : Nat) (q : List Int) (h : Il w ao q cap) (t : Int) (hl : 100 < ps.length ∨ 100 < q.length) :
    Calls Try.prog 7 #[.agg #[.slice so ps.length sc], .slice ao q.length cap, .int .i64 t] w fun e w' => e = .returned (.bool true) ∧ Below w.heap.size w w' := by
  have hmx := h.len
  have hmp : ps.length ≤ 9223372036854775807 := by have := hs.hl; have := hs.hc; omega
  clear hs h
  by_cases h1 : 100 < ps.length
  · have hl1 : decide ((100 : Int) < ps.length) = true := by simp; omega
    clear hl
    go_enter Try.func7, Try.ntmps7
    go_wp2_with (go_at_call 17; refine (alive8_any _).mono ?_; rintro e w1 ⟨rfl, hb1⟩; have z1 : w1.cell? ⟨w.heap.size, 0, none⟩ = some (.slice so ps.length sc) := (below_cells hb1 _ 0 (by simp)).trans (by simp); have hs1 : w.heap.size < w1.heap.size := by (have := hb1.size; simp at this; omega))
    go_ret
    exact ⟨rfl, below_alloc hb1⟩
  · have hl1 : decide ((100 : Int) < ps.length) = false := by simp; omega
    have hl2 : decide ((100 : Int) < q.length) = true := by simp; omega
    clear hl
    go_enter Try.func7, Try.ntmps7
    go_wp2_with (go_at_call 17; refine (alive8_any _).mono ?_; rintro e w1 ⟨rfl, hb1⟩; have z1 : w1.cell? ⟨w.heap.size, 0, none⟩ = some (.slice so ps.length sc) := (below_cells hb1 _ 0 (by simp)).trans (by simp); have hs1 : w.heap.size < w1.heap.size := by (have := hb1.size; simp at this; omega))
    go_ret
    exact ⟨rfl, below_alloc hb1⟩
theorem over_bad (w : World) (so : Option Addr) (sc : Nat) (ps : List Pg) (hs : Sb w so ps sc) (ao : Option Addr) (cap : Nat) (q : List Int) (h : Il w ao q cap) (t : Int) (hl : ps.length ≤ 100) (hlq : q.length ≤ 100) (eA : askE ps q t ≠ 0) :
    Calls Try.prog 7 #[.agg #[.slice so ps.length sc], .slice ao q.length cap, .int .i64 t] w fun e w' => e = .returned (.bool true) ∧ Below w.heap.size w w' := by
  have HOV := Hid.mk2 (fun W (hb : Below w.heap.size w W) => qover_any W so ps sc (hs.below hb) ao q cap (h.below hb) t)
  rw [show overV ps q t = 0 from by unfold overV; rw [if_neg eA]] at HOV
  obtain ⟨E, hE⟩ : ∃ E, E = askE ps q t := ⟨_, rfl⟩
  rw [← hE] at HOV eA
  have e1 : (E != 0) = true := by simp [eA]
  have hl1 : decide ((100 : Int) < ps.length) = false := by simp; omega
  have hl2 : decide ((100 : Int) < q.length) = false := by simp; omega
  clear hs h eA hE
  go_enter Try.func7, Try.ntmps7
  go_wp2_with (first
    | (go_at_call 17; refine (alive8_any _).mono ?_; rintro e w1 ⟨rfl, hb1⟩; have z1 : w1.cell? ⟨w.heap.size, 0, none⟩ = some (.slice so ps.length sc) := (below_cells hb1 _ 0 (by simp)).trans (by simp); have hs1 : w.heap.size < w1.heap.size := by (have := hb1.size; simp at this; omega))
    | (go_at_call 15; refine (HOV.out _ (below_alloc hb1)).mono ?_; rintro e w2 ⟨rfl, hb2⟩))
  go_ret
  exact ⟨rfl, (below_alloc hb1).trans (hb2.mono (below_alloc hb1).size)⟩
set_option maxHeartbeats 2000000 in
theorem over_zero (w : World) (so : Option Addr) (sc : Nat) (ps : List Pg) (hs : Sb w so ps sc) (ao : Option Addr) (cap : Nat) (q : List Int) (h : Il w ao q cap) (t : Int) (hl : ps.length ≤ 100) (hlq : q.length ≤ 100) (eA : askE ps q t = 0) (hz : owned ps t ≤ (qAt q t).toNat) :
    Calls Try.prog 7 #[.agg #[.slice so ps.length sc], .slice ao q.length cap, .int .i64 t] w fun e w' => e = .returned (.bool true) ∧ Below w.heap.size w w' := by
  have hne : ps ≠ [] := by
    intro e
    have h1 := (askE_ok eA).1
    rw [e] at h1
    exact absurd h1 (by decide)
  have HSX := Hid.mk2 (fun ty => SX.begin hs hne ty)
  have HQ := Hid.mk2 h
  have HS := Hid.mk2 hs
  obtain ⟨T, b, off, rfl, hT, rfl, hbl, hc, h0, h16⟩ := askE_get h eA
  obtain ⟨eO, eC, eH⟩ := askE_ok eA
  have eM := (chkE_may eC).2.2
  have eT := hasQ_t (mayQ_len eM).2 eH
  obtain ⟨N, hN⟩ : ∃ N, N = ps.length := ⟨_, rfl⟩
  have HN := Hid.mk2 hN
  obtain ⟨Q, hQ⟩ : ∃ Q : Nat, qAt q T = (Q : Int) := ⟨(qAt q T).toNat, by omega⟩
  obtain ⟨OW, hOW⟩ : ∃ OW, OW = owned ps T := ⟨_, rfl⟩
  obtain ⟨M, hM⟩ : ∃ M : Nat, M = OW - Q := ⟨_, rfl⟩
  have HAL : Hid (∀ ps' : List Pg, sOk ps' = true → ps'.length = N → askE ps' q T = 0) := fun ps' h1 h2 => by
    unfold askE
    rw [if_neg (by simp [h1]), h2, hN, if_neg (by simp [eC]), if_neg (by simp [eH])]
  have HOV : Hid (∀ W so' sc' ps', Sb W so' ps' sc' → Below w.heap.size w W → sOk ps' = true → ps'.length = N → ∀ Z : Nat, Z = owned ps' T - Q → Calls Try.prog 15 #[.agg #[.slice so' N sc'], .slice (some ⟨b, off, none⟩) q.length cap, .int .i64 T] W fun e w' => e = .returned (.tuple #[.int .i64 Z, .int .i64 0]) ∧ Below W.heap.size W w') := fun W so' sc' ps' h1 h2 h3 h4 Z hZ => by
    have h5 := qover_any W so' ps' sc' h1 _ q cap (HQ.out.below h2) T
    have h6 := HAL.out ps' h3 h4
    have h7 : overV ps' q T = (Z : Int) := by unfold overV; rw [if_pos h6, hQ]; omega
    rw [h6, h7, h4] at h5
    exact h5
  have HRM : Hid (∀ W so' sc' ps', Sb W so' ps' sc' → Below w.heap.size w W → sOk ps' = true → ps'.length = N → Calls Try.prog 14 #[.agg #[.slice so' N sc'], .slice (some ⟨b, off, none⟩) q.length cap, .int .i64 T] W fun e w' => e = .returned (.tuple #[.bool (decide ((owned ps' T : Int) < Q)), .int .i64 0]) ∧ Below W.heap.size W w') := fun W so' sc' ps' h1 h2 h3 h4 => by
    have h5 := qroom_any W so' ps' sc' h1 _ q cap (HQ.out.below h2) T
    have h6 := HAL.out ps' h3 h4
    have h7 : roomV ps' q T = decide ((owned ps' T : Int) < Q) := by unfold roomV; rw [h6, hQ]; simp
    rw [h6, h7, h4] at h5
    exact h5
  have HOD : Hid (∀ W so' sc' ps', Sb W so' ps' sc' → sOk ps' = true → ps'.length = N → Calls Try.prog 25 #[.agg #[.slice so' N sc'], .int .i64 T] W fun e w' => e = .returned (.tuple #[.int .i64 (owned ps' T), .int .i64 0]) ∧ Below W.heap.size W w') := fun W so' sc' ps' h1 h3 h4 => by
    have h5 := Owned_any W so' ps' sc' h1 h3 T eT
    rw [h4] at h5
    exact h5
  have HLA : Hid (∀ W so' sc' ps', Sb W so' ps' sc' → sOk ps' = true → ps'.length = N → Calls Try.prog 27 #[.agg #[.slice so' N sc'], .int .i64 T] W fun e w' => e = .returned (.tuple #[.int .i64 (lastI ps' T), .int .i64 0]) ∧ Below W.heap.size W w') := fun W so' sc' ps' h1 h3 h4 => by
    have h5 := Last_any W so' ps' sc' h1 h3 T eT
    rw [h4] at h5
    exact h5
  have HFR : Hid (∀ W so' sc' ps' (P k : Nat), Sb W so' ps' sc' → ps'.length = N → Calls Try.prog 28 #[.agg #[.slice so' N sc'], .int .i64 P, .int .i64 k] W fun e w' => ∃ ro rc, e = .returned (.tuple #[.agg #[.slice ro (freeR ps' P k).length rc], .int .i64 (freeE ps' P k)]) ∧ FreshS w' W.heap.size (.slice ro (freeR ps' P k).length rc) (freeR ps' P k) ∧ Below W.heap.size W w') := fun W so' sc' ps' P k h1 h4 => by
    have h5 := free_sb W so' ps' sc' h1 P k _ _ rfl rfl
    rw [h4] at h5
    refine h5.mono ?_
    rintro e w' ⟨ro, rc, rfl, -, hf, hb⟩
    exact ⟨ro, rc, rfl, hf, hb⟩
  have HO := Hid.mk2 eO
  have hOWN : OW ≤ N := by rw [hOW, hN]; exact owned_le ps T
  have HOW := Hid.mk2 hOW
  have HMM := Hid.mk2 hM
  have hMN : M ≤ 100 := by omega
  have hTl : (T : Int) < (q.length : Int) := by omega
  have hl1 : decide ((100 : Int) < (N : Int)) = false := by simp; omega
  have hl2 : decide ((100 : Int) < q.length) = false := by simp; omega
  have hm0 : decide ((M : Int) < 0) = false := by rw [decide_eq_false_iff_not]; omega
  rw [hQ] at hc
  have HRV : Hid (0 < M → decide ((owned ps T : Int) < Q) = false) := fun h => by rw [decide_eq_false_iff_not]; omega

  rw [← hN] at HSX ⊢
  have hz2 : OW ≤ Q := by rw [hOW]; rw [hQ] at hz; simpa using hz
  clear hs h hne h0 h16 eO eC eH eM eT hQ hOW eA hl HS hN hz
  clear hM
  have hM : M = OW - Q := HMM.out
  have hMz : M = 0 := by omega
  clear hM
  subst hMz
  clear hm0 hMN
  have hle : decide (OW ≤ Q) = true := by simp; omega
  clear HRV hz2
  go_enter Try.func7, Try.ntmps7
  go_upto_if 5 with (go_at_call 17; refine (alive8_any _).mono ?_; rintro e w1 ⟨rfl, hb1⟩; have HX1 := Hid.mk2 ((HSX.out _).step hb1); have z1 : w1.cell? ⟨w.heap.size, 0, none⟩ = some (.slice so N sc) := (HX1.out.cl.trans (by rw [HN.out])); have hs1 : w.heap.size < w1.heap.size := HX1.out.lt; clear hb1)
  clear HSX
  go_upto_if 7 with (go_at_call 15; refine (HOV.out _ _ _ _ HX1.out.sb HX1.out.bel HO.out HN.out.symm 0 (HMM.out.trans (by rw [HOW.out]))).mono ?_; rintro e w2 ⟨rfl, hb2⟩; have HX2 := Hid.mk2 (HX1.out.step hb2); have z2 : w2.cell? ⟨w.heap.size, 0, none⟩ = some (.slice so N sc) := (HX2.out.cl.trans (by rw [HN.out])); have hs2 : w.heap.size < w2.heap.size := HX2.out.lt; clear hb2)
  go_upto_region 12 with (go_at_call 14; refine (HRM.out _ _ _ _ HX2.out.sb HX2.out.bel HO.out HN.out.symm).mono ?_; rintro e w3 ⟨rfl, hb3⟩; have HX3 := Hid.mk2 (HX2.out.step hb3); have z3 : w3.cell? ⟨w.heap.size, 0, none⟩ = some (.slice so N sc) := (HX3.out.cl.trans (by rw [HN.out])); have hs3 : w.heap.size < w3.heap.size := HX3.out.lt; clear hb3)
  have r3 : w3.cell? ⟨b, off + T, none⟩ = some (.int .i64 Q) := (below_cells HX3.out.bel _ _ hbl).trans hc
  go_wp2
  refine wp_loop_rounds 1 ?_
  rw [rounds_succ]
  have hOD := HOD.out _ _ _ _ HX3.out.sb HO.out HN.out.symm
  rw [← HOW.out] at hOD
  go_wp2_with (first
    | (go_at_call 25; refine hOD.mono ?_; rintro e w4 ⟨rfl, hb4⟩; have HX4 := Hid.mk2 (HX3.out.step hb4); have z4 : w4.cell? ⟨w.heap.size, 0, none⟩ = some (.slice so N sc) := (HX4.out.cl.trans (by rw [HN.out])); have hs4 : w.heap.size < w4.heap.size := HX4.out.lt; clear hb4)
    | (go_at_call 15; refine (HOV.out _ _ _ _ HX4.out.sb HX4.out.bel HO.out HN.out.symm 0 (HMM.out.trans (by rw [HOW.out]))).mono ?_; rintro e w5 ⟨rfl, hb5⟩; have HX5 := Hid.mk2 (HX4.out.step hb5); have r5 : w5.cell? ⟨b, off + T, none⟩ = some (.int .i64 Q) := (below_cells HX5.out.bel _ _ hbl).trans hc; clear hb5))
  go_ret
  exact ⟨rfl, HX5.out.bel⟩
set_option maxHeartbeats 2000000 in
theorem over_pos (w : World) (so : Option Addr) (sc : Nat) (ps : List Pg) (hs : Sb w so ps sc) (ao : Option Addr) (cap : Nat) (q : List Int) (h : Il w ao q cap) (t : Int) (hl : ps.length ≤ 100) (hlq : q.length ≤ 100) (eA : askE ps q t = 0) (hz : (qAt q t).toNat < owned ps t) :
    Calls Try.prog 7 #[.agg #[.slice so ps.length sc], .slice ao q.length cap, .int .i64 t] w fun e w' => e = .returned (.bool true) ∧ Below w.heap.size w w' := by
  have hne : ps ≠ [] := by
    intro e
    have h1 := (askE_ok eA).1
    rw [e] at h1
    exact absurd h1 (by decide)
  have HSX := Hid.mk2 (fun ty => SX.begin hs hne ty)
  have HQ := Hid.mk2 h
  have HS := Hid.mk2 hs
  obtain ⟨T, b, off, rfl, hT, rfl, hbl, hc, h0, h16⟩ := askE_get h eA
  obtain ⟨eO, eC, eH⟩ := askE_ok eA
  have eM := (chkE_may eC).2.2
  have eT := hasQ_t (mayQ_len eM).2 eH
  obtain ⟨N, hN⟩ : ∃ N, N = ps.length := ⟨_, rfl⟩
  have HN := Hid.mk2 hN
  obtain ⟨Q, hQ⟩ : ∃ Q : Nat, qAt q T = (Q : Int) := ⟨(qAt q T).toNat, by omega⟩
  obtain ⟨OW, hOW⟩ : ∃ OW, OW = owned ps T := ⟨_, rfl⟩
  obtain ⟨M, hM⟩ : ∃ M : Nat, M = OW - Q := ⟨_, rfl⟩
  have HAL : Hid (∀ ps' : List Pg, sOk ps' = true → ps'.length = N → askE ps' q T = 0) := fun ps' h1 h2 => by
    unfold askE
    rw [if_neg (by simp [h1]), h2, hN, if_neg (by simp [eC]), if_neg (by simp [eH])]
  have HOV : Hid (∀ W so' sc' ps', Sb W so' ps' sc' → Below w.heap.size w W → sOk ps' = true → ps'.length = N → ∀ Z : Nat, Z = owned ps' T - Q → Calls Try.prog 15 #[.agg #[.slice so' N sc'], .slice (some ⟨b, off, none⟩) q.length cap, .int .i64 T] W fun e w' => e = .returned (.tuple #[.int .i64 Z, .int .i64 0]) ∧ Below W.heap.size W w') := fun W so' sc' ps' h1 h2 h3 h4 Z hZ => by
    have h5 := qover_any W so' ps' sc' h1 _ q cap (HQ.out.below h2) T
    have h6 := HAL.out ps' h3 h4
    have h7 : overV ps' q T = (Z : Int) := by unfold overV; rw [if_pos h6, hQ]; omega
    rw [h6, h7, h4] at h5
    exact h5
  have HRM : Hid (∀ W so' sc' ps', Sb W so' ps' sc' → Below w.heap.size w W → sOk ps' = true → ps'.length = N → Calls Try.prog 14 #[.agg #[.slice so' N sc'], .slice (some ⟨b, off, none⟩) q.length cap, .int .i64 T] W fun e w' => e = .returned (.tuple #[.bool (decide ((owned ps' T : Int) < Q)), .int .i64 0]) ∧ Below W.heap.size W w') := fun W so' sc' ps' h1 h2 h3 h4 => by
    have h5 := qroom_any W so' ps' sc' h1 _ q cap (HQ.out.below h2) T
    have h6 := HAL.out ps' h3 h4
    have h7 : roomV ps' q T = decide ((owned ps' T : Int) < Q) := by unfold roomV; rw [h6, hQ]; simp
    rw [h6, h7, h4] at h5
    exact h5
  have HOD : Hid (∀ W so' sc' ps', Sb W so' ps' sc' → sOk ps' = true → ps'.length = N → Calls Try.prog 25 #[.agg #[.slice so' N sc'], .int .i64 T] W fun e w' => e = .returned (.tuple #[.int .i64 (owned ps' T), .int .i64 0]) ∧ Below W.heap.size W w') := fun W so' sc' ps' h1 h3 h4 => by
    have h5 := Owned_any W so' ps' sc' h1 h3 T eT
    rw [h4] at h5
    exact h5
  have HLA : Hid (∀ W so' sc' ps', Sb W so' ps' sc' → sOk ps' = true → ps'.length = N → Calls Try.prog 27 #[.agg #[.slice so' N sc'], .int .i64 T] W fun e w' => e = .returned (.tuple #[.int .i64 (lastI ps' T), .int .i64 0]) ∧ Below W.heap.size W w') := fun W so' sc' ps' h1 h3 h4 => by
    have h5 := Last_any W so' ps' sc' h1 h3 T eT
    rw [h4] at h5
    exact h5
  have HFR : Hid (∀ W so' sc' ps' (P k : Nat), Sb W so' ps' sc' → ps'.length = N → Calls Try.prog 28 #[.agg #[.slice so' N sc'], .int .i64 P, .int .i64 k] W fun e w' => ∃ ro rc, e = .returned (.tuple #[.agg #[.slice ro (freeR ps' P k).length rc], .int .i64 (freeE ps' P k)]) ∧ FreshS w' W.heap.size (.slice ro (freeR ps' P k).length rc) (freeR ps' P k) ∧ Below W.heap.size W w') := fun W so' sc' ps' P k h1 h4 => by
    have h5 := free_sb W so' ps' sc' h1 P k _ _ rfl rfl
    rw [h4] at h5
    refine h5.mono ?_
    rintro e w' ⟨ro, rc, rfl, -, hf, hb⟩
    exact ⟨ro, rc, rfl, hf, hb⟩
  have HO := Hid.mk2 eO
  have hOWN : OW ≤ N := by rw [hOW, hN]; exact owned_le ps T
  have HOW := Hid.mk2 hOW
  have HMM := Hid.mk2 hM
  have hMN : M ≤ 100 := by omega
  have hTl : (T : Int) < (q.length : Int) := by omega
  have hl1 : decide ((100 : Int) < (N : Int)) = false := by simp; omega
  have hl2 : decide ((100 : Int) < q.length) = false := by simp; omega
  have hm0 : decide ((M : Int) < 0) = false := by rw [decide_eq_false_iff_not]; omega
  rw [hQ] at hc
  have HRV : Hid (0 < M → decide ((owned ps T : Int) < Q) = false) := fun h => by rw [decide_eq_false_iff_not]; omega

  rw [← hN] at HSX ⊢
  have hz2 : Q < OW := by rw [hOW]; rw [hQ] at hz; simpa using hz
  have hMp : 0 < M := by omega
  have hM1 : decide (0 < M) = true := by simp [hMp]
  have hM2 : ((M : Int) == 0) = false := by simp; omega
  have HRM0 : Hid (∀ W, Sb W so ps sc → Below w.heap.size w W → Calls Try.prog 14 #[.agg #[.slice so N sc], .slice (some ⟨b, off, none⟩) q.length cap, .int .i64 T] W fun e w' => e = .returned (.tuple #[.bool false, .int .i64 0]) ∧ Below W.heap.size W w') := fun W h1 h2 => by
    have h3 := HRM.out W _ _ _ h1 h2 eO hN.symm
    rw [HRV.out hMp] at h3
    exact h3
  have HZ := Hid.mk2 hz2
  have HMP := Hid.mk2 hMp
  clear hs h hne h0 h16 eO eC eH eM eT hQ hOW hM eA hl HS hN hz HRM HRV hz2 hMp
  go_enter Try.func7, Try.ntmps7
  go_upto_if 5 with (go_at_call 17; refine (alive8_any _).mono ?_; rintro e w1 ⟨rfl, hb1⟩; have HX1 := Hid.mk2 ((HSX.out _).step hb1); have z1 : w1.cell? ⟨w.heap.size, 0, none⟩ = some (.slice so N sc) := (HX1.out.cl.trans (by rw [HN.out])); have hs1 : w.heap.size < w1.heap.size := HX1.out.lt; clear hb1)
  clear HSX
  go_upto_if 7 with (go_at_call 15; refine (HOV.out _ _ _ _ HX1.out.sb HX1.out.bel HO.out HN.out.symm M (by rw [HMM.out, HOW.out])).mono ?_; rintro e w2 ⟨rfl, hb2⟩; have HX2 := Hid.mk2 (HX1.out.step hb2); have z2 : w2.cell? ⟨w.heap.size, 0, none⟩ = some (.slice so N sc) := (HX2.out.cl.trans (by rw [HN.out])); have hs2 : w.heap.size < w2.heap.size := HX2.out.lt; clear hb2)
  go_upto_region 12 with (go_at_call 14; refine (HRM0.out _ HX2.out.sb HX2.out.bel).mono ?_; rintro e w3 ⟨rfl, hb3⟩; have HX3 := Hid.mk2 (HX2.out.step hb3); have z3 : w3.cell? ⟨w.heap.size, 0, none⟩ = some (.slice so N sc) := (HX3.out.cl.trans (by rw [HN.out])); have hs3 : w.heap.size < w3.heap.size := HX3.out.lt; clear hb3)
  go_wp2
  clear HX1 HX2 z1 z2 hs1 hs2 HRM0
  go_loopw [12] (fun i wr => ∃ (r : Nat) (ao' : Option Addr) (ps' : List Pg) (cap' : Nat), r ≤ M ∧ i = .int .i64 r ∧ Hid (SX w wr ao' ps' cap') ∧ Hid (sOk ps' = true ∧ ps'.length = N ∧ owned ps' T + r = OW) ∧ wr.cell? ⟨w.heap.size, 0, none⟩ = some (.slice ao' N cap') ∧ w.heap.size < wr.heap.size) (fun i _ => M - (intOf i).toNat)
  case atStart => exact ⟨0, so, ps, sc, Nat.zero_le _, rfl, HX3.out, ⟨HO.out, HN.out.symm, HOW.out.symm⟩, z3, hs3⟩
  case round =>
    obtain ⟨r, ao', ps', cap', hr, rfl, HX, HP, hcl, hsz⟩ := hrel
    clear HX3 z3 hs3
    by_cases hlt : r < M
    · have hlt2 : (r : Int) < (M : Int) := by omega
      have hpos : 0 < owned ps' T := by have := HP.out.2.2; have := HMM.out; have := HZ.out; omega
      obtain ⟨P, hP1, hP2, hP3⟩ := last_some hpos
      have hLA := HLA.out wr _ _ _ HX.out.sb HP.out.1 HP.out.2.1
      rw [hP1] at hLA
      have hPN : P < N := by rw [← HP.out.2.1]; exact hP2
      have HP3 : Hid (∃ hP2 : P < ps'.length, isOf T ps'[P] = true) := ⟨hP2, hP3⟩
      have p1 : decide ((P : Int) < 0) = false := by rw [decide_eq_false_iff_not]; omega
      have p2 : decide ((N : Int) ≤ P) = false := by rw [decide_eq_false_iff_not]; omega
      have p3 : decide (N ≤ P) = false := by rw [decide_eq_false_iff_not]; omega
      clear hpos hP1 hP2 hP3
      go_upto_region 18 with (go_at_call 27; refine hLA.mono ?_; rintro e w4 ⟨rfl, hb4⟩; have HX4 := Hid.mk2 (HX.out.step hb4); have z4 : w4.cell? ⟨w.heap.size, 0, none⟩ = some (.slice ao' N cap') := (HX4.out.cl.trans (by rw [HP.out.2.1])); have hs4 : w.heap.size < w4.heap.size := HX4.out.lt; clear hb4)
      go_wp2
      clear hLA hcl hsz HX
      go_loopw [15] (fun j wx => ∃ (k : Nat) (ao2 : Option Addr) (ps2 : List Pg) (cap2 : Nat), k ≤ 16 ∧ j = .int .i64 k ∧ Hid (SX w wx ao2 ps2 cap2) ∧ Hid (GB ps' ps2 P k) ∧ wx.cell? ⟨w.heap.size, 0, none⟩ = some (.slice ao2 N cap2) ∧ w.heap.size < wx.heap.size) (fun j _ => 16 - (intOf j).toNat)
      case atStart => exact ⟨0, ao', ps', cap', by omega, rfl, HX4.out, GB.refl HP.out.1 P, z4, hs4⟩
      case round =>
        obtain ⟨k, ao2, ps2, cap2, hk, rfl, HY, HG, hcy, hsy⟩ := hrel
        clear HX4 z4 hs4
        have hln : ps2.length = N := HG.out.len.trans HP.out.2.1
        by_cases hk2 : k < 16
        · have hk3 : (k : Int) < 16 := by omega
          have hFR := HFR.out wr _ _ ps2 P k HY.out.sb hln
          have hP2 : P < ps2.length := by rw [hln]; exact hPN
          obtain ⟨R, hR⟩ : ∃ R, R = freeR ps2 P k := ⟨_, rfl⟩
          by_cases hE : freeE ps2 P k = 0
          · have hG2 := HG.out.step hP2 hk2 hE
            rw [hE, ← hR] at hFR
            rw [← hR] at hG2
            have hRN : R.length = N := hG2.len.trans HP.out.2.1
            have HG2 := Hid.mk2 hG2
            have HRN := Hid.mk2 hRN
            have HRne : Hid (R ≠ []) := fun e => by rw [e] at hRN; simp at hRN; omega
            rw [hRN] at hFR
            clear hR hE hG2 hRN hln hP2
            go_wp2_with (go_at_call 28; refine hFR.mono ?_; rintro e w6 ⟨ro, rc, rfl, hf6, hb6⟩; have HF6 := Hid.mk2 hf6; have HB6 := Hid.mk2 hb6; have HY6 := Hid.mk2 (HY.out.step hb6); have z6 : w6.cell? ⟨w.heap.size, 0, none⟩ = some (.slice ao2 N cap2) := (below_cells hb6 _ 0 hsy).trans hcy; have f6 : w6.frozen? ⟨w.heap.size, 0, none⟩ = false := HY6.out.fz; have hs6 : w.heap.size < w6.heap.size := HY6.out.lt; clear hf6 hb6)
            go_roundw
            case rel =>
              have hput := HY.out.put HB6.out (by rw [HRN.out]; exact HF6.out) HRne.out (.cells #[.slice ro N rc] 33)
              rw [HRN.out] at hput
              refine ⟨k + 1, ro, R, rc, by omega, by go_num, hput, HG2.out, ?_, ?_⟩
              · exact hput.cl.trans (by rw [HRN.out])
              · exact hput.lt
            case measure => simp [intOf]; omega
          · have hG2 := HG.out.skip hP2 hk2 hE
            have HG2 := Hid.mk2 hG2
            have hR0 : freeR ps2 P k = [] := by unfold freeR; rw [if_neg hE]
            rw [hR0, List.length_nil] at hFR
            obtain ⟨E, hEE⟩ : ∃ E, E = freeE ps2 P k := ⟨_, rfl⟩
            rw [← hEE] at hFR hE
            have e1 : (E == 0) = false := by simp [hE]
            clear hR hE hG2 hR0 hEE hln hP2
            go_wp2_with (go_at_call 28; refine hFR.mono ?_; rintro e w6 ⟨ro, rc, rfl, -, hb6⟩; have HY6 := Hid.mk2 (HY.out.step hb6); have z6 : w6.cell? ⟨w.heap.size, 0, none⟩ = some (.slice ao2 N cap2) := (below_cells hb6 _ 0 hsy).trans hcy; have hs6 : w.heap.size < w6.heap.size := HY6.out.lt; clear hb6)
            go_roundw
            case rel =>
              have hal := HY6.out.alloc (.cells #[.slice ro 0 rc] 33)
              exact ⟨k + 1, ao2, ps2, cap2, by omega, by go_num, hal, HG2.out, (hal.cl.trans (by rw [HG.out.len, HP.out.2.1])), hal.lt⟩
            case measure => simp [intOf]; omega
        · have hk3 : decide ((k : Int) < 16) = false := by simp; omega
          have hk16 : k = 16 := by omega
          subst hk16
          obtain ⟨g1, g2⟩ := HP3.out
          have hD := HG.out.done g1 g2
          have HD2 : Hid (sOk ps2 = true ∧ ps2.length = N ∧ owned ps2 T + (r + 1) = OW) := ⟨HG.out.ok, hln, by have := HP.out.2.2; omega⟩
          clear hD g1 g2 hln
          go_wp2
          go_roundw
          case rel => exact ⟨r + 1, ao2, ps2, cap2, by omega, by go_num, HY.out, HD2.out, hcy, hsy⟩
          case measure => simp [intOf]; omega
    · have hlt2 : decide ((r : Int) < (M : Int)) = false := by rw [decide_eq_false_iff_not]; omega
      have hrM : r = M := by omega
      subst hrM
      have hOQ : owned ps' T = Q := by have := HP.out.2.2; have := HMM.out; have := HZ.out; omega
      have hOD := HOD.out _ _ _ _ HX.out.sb HP.out.1 HP.out.2.1
      rw [hOQ] at hOD
      have HQ0 : Hid (0 = owned ps' T - Q) := by show _ = _; rw [hOQ]; omega
      clear hOQ
      go_wp2_with (first
        | (go_at_call 25; refine hOD.mono ?_; rintro e w4 ⟨rfl, hb4⟩; have HX4 := Hid.mk2 (HX.out.step hb4); have z4 : w4.cell? ⟨w.heap.size, 0, none⟩ = some (.slice ao' N cap') := (HX4.out.cl.trans (by rw [HP.out.2.1])); have hs4 : w.heap.size < w4.heap.size := HX4.out.lt; clear hb4)
        | (go_at_call 15; refine (HOV.out _ _ _ _ HX4.out.sb HX4.out.bel HP.out.1 HP.out.2.1 0 HQ0.out).mono ?_; rintro e w5 ⟨rfl, hb5⟩; have HX5 := Hid.mk2 (HX4.out.step hb5); have r5 : w5.cell? ⟨b, off + T, none⟩ = some (.int .i64 Q) := (below_cells HX5.out.bel _ _ hbl).trans hc; clear hb5))
      go_ret
      exact ⟨rfl, HX5.out.bel⟩
theorem quotaOver_walk (w : World) (so : Option Addr) (sc : Nat) (ps : List Pg) (hs : Sb w so ps sc) (ao : Option Addr) (len cap : Nat) (q : List Int) (h : InInts w ao len cap q) (t : Int) {P1 : Prop} (_ : P1) :
    Calls Try.prog 7 #[.agg #[.slice so ps.length sc], .slice ao len cap, .int .i64 t] w fun e w' => e = .returned (.bool true) ∧ Below w.heap.size w w' := by
  obtain ⟨rfl, h⟩ := h
  by_cases h1 : 100 < ps.length
  · exact over_long w so sc ps hs ao cap q h t (.inl h1)
  by_cases h2 : 100 < q.length
  · exact over_long w so sc ps hs ao cap q h t (.inr h2)
  by_cases eA : askE ps q t = 0
  · by_cases hz : owned ps t ≤ (qAt q t).toNat
    · exact over_zero w so sc ps hs ao cap q h t (by omega) (by omega) eA hz
    · exact over_pos w so sc ps hs ao cap q h t (by omega) (by omega) eA (by omega)
  · exact over_bad w so sc ps hs ao cap q h t (by omega) (by omega) eA

set_option maxRecDepth 100000 in
theorem quotaOver_lifted (os : Os) (started : os.Started) (H : Type) (enc : TypeId × Value → H) :
    ReturnsInHanded {} Try.checked os 7 .any (Rows.quotaOverSpec.pre6 enc Try.prog Try.f7 Rows.quotaOverRow.domain false) (Rows.quotaOverSpec.post enc Try.prog Try.f7 false true false false) := by
  refine returnsInHanded_of_change (C := Try.checked) (by kernel_rfl) started (by kernel_rfl) Try.func7
    (ChangeSpec.witness6 (enc := enc) (C := Try.checked) false ⟨#[], #[.agg #[.slice none 0 0], .slice none 0 0, .int .i64 0], []⟩ 8 (by kernel_rfl) (by kernel_rfl) (by kernel_rfl) (by kernel_rfl)) ?_
  intro W base args ds gs before hval0 hW hcnd _
  have hval : ∀ (j : Nat) t v, Try.f7.params[j]? = some t → args[j]? = some v → Value.okWide Try.prog W .any base t v := hval0
  have hW' := hW
  obtain ⟨p, q, hA0, hV, rfl, hfz, hnd⟩ := hW
  have hA : DataW.TrodAll enc Try.prog W 0 (fun _ => true) true Try.f7.params.toList args.toList ds p := hA0
  rw [Try.params7] at hA hval
  obtain ⟨v0, vs0, d0, ds0, p0, q0, hargs, rfl, rfl, h0, r0⟩ := trodAll_cons hA
  obtain ⟨v1, vs1, d1, ds1, p1, q1, rfl, rfl, rfl, h1, r1⟩ := trodAll_cons r0
  obtain ⟨v2, vs2, d2, ds2, p2, q2, rfl, rfl, rfl, h2, r2⟩ := trodAll_cons r1
  obtain ⟨rfl, rfl, rfl⟩ := trodAll_nil r2
  obtain rfl : args = #[v0, v1, v2] := by cases args; simp_all
  obtain ⟨rfl, rfl⟩ := trodVars_none hV
  have k0 := h0
  have lt0 : ∀ x ∈ p0, x.block < W.heap.size := by obtain ⟨m, hm⟩ := k0; exact DataW.trod_lt m _ _ _ hm
  obtain ⟨a0, cap0, l0, rfl, w0⟩ := inSlab_of (fun _ => rfl) (hval 0 33 v0 rfl rfl) h0
  have k1 := h1
  have lt1 : ∀ x ∈ p1, x.block < W.heap.size := by obtain ⟨m, hm⟩ := k1; exact DataW.trod_lt m _ _ _ hm
  obtain ⟨a1, len1, cap1, rfl⟩ := okWide_slice Try.underlying22 (hval 1 22 v1 rfl rfl)
  obtain ⟨l1, w1⟩ := inInts_of (fun _ => rfl) h1
  obtain ⟨a2, rfl, rfl, rfl, w2⟩ := open_int Try.underlying3 (hval 2 3 v2 rfl rfl) h2
  clear hA0 hval0
  refine (quotaOver_walk W a0 cap0 l0 w0 a1 len1 cap1 l1 w1 a2 w2).mono fun e W' ⟨he, bel⟩ => ?_
  subst he
  exact ⟨_, rfl, _, _, _, [], _, [], hW', trodAll_mk1 (shut_bool Try.underlying4 _), (trodAll_cons_mk (Below.trod laidOut_all (by kernel_rfl) (of_decide_eq_true (by kernel_rfl)) k0 bel lt0) (trodAll_cons_mk (Below.trod laidOut_all (by kernel_rfl) (of_decide_eq_true (by kernel_rfl)) k1 bel lt1) (trodAll_cons_mk (shut_int Try.underlying3 w2) trodAll_mk0))), rfl, bel.frame _, fun h => by cases h⟩

theorem quotaOver_proved : Rows.QuotaOverSaid :=
  OpenClaim.holds_of_wide 7 Try.f7 rfl rfl rfl rfl rfl rfl rfl ⟨rfl, rfl, rfl, rfl, rfl⟩ rfl rfl rfl rfl rfl (by kernel_rfl) Try.func7 (by kernel_rfl)
    (of_decide_eq_true (by kernel_rfl)) (by unfold Func.isWrapper; first | (rw [if_pos (by decide +kernel)]; kernel_rfl) | (rw [if_neg (by decide +kernel)]; exact ⟨rfl, rfl⟩))
    (fun os started H enc _ => quotaOver_lifted os started H enc)
#print axioms quotaOver_proved
end Go.Proofs.Ytkcgleahbhmggaa
