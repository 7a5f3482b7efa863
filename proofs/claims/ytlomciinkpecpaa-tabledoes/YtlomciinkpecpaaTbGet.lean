/-
  The contracts of Get and Del.
-/
import Derived.Test.YtlomciinkpecpaaTbBegin
namespace Go.Proofs.Ytlomciinkpecpaa
open Go.RowKit
set_option linter.unusedSimpArgs false
set_option linter.unusedVariables false
set_option maxRecDepth 100000

/-- a name's number, if it is there -/
def lk (T : List NU) (y : Nm) : Option Int := (T.find? (fun q => decide (q.1 = y))).map Prod.snd
theorem find_mem {y : Nm} {u : Int} : ∀ {L : List NU}, L.Pairwise (fun p q => p.1 ≠ q.1) → (y, u) ∈ L → L.find? (fun q => decide (q.1 = y)) = some (y, u)
  | [], _, hm => by cases hm
  | x :: L, ha, hm => by
    obtain ⟨h1, h2⟩ := List.pairwise_cons.1 ha
    by_cases e : x.1 = y
    · rcases List.mem_cons.1 hm with rfl | hm
      · simp
      · exact absurd e (h1 _ hm)
    · rcases List.mem_cons.1 hm with rfl | hm
      · exact absurd rfl e
      · rw [List.find?_cons_of_neg (by simp [e])]
        exact find_mem h2 hm
theorem lk_mem {T : List NU} {y : Nm} {u : Int} (ha : T.Pairwise (fun p q => p.1 ≠ q.1)) (hm : (y, u) ∈ T) : lk T y = some u := by unfold lk; rw [find_mem ha hm]; rfl
theorem lk_none {T : List NU} {y : Nm} (h : ∀ q ∈ T, q.1 ≠ y) : lk T y = none := by
  unfold lk
  rw [List.find?_eq_none.2 (fun q hq => by simpa using h q hq)]
  rfl
theorem found_cases {num : Bool → Nat} {ents : Bool → Nat → List NU} {next many : Nat} {T : List NU} {y : Nm} {b : Bool} {k : Int} (hI : Iv num ents next many) (hP : (flat num ents).Perm T) (hlt : rix y (num b) < num b) (hk : k = ixOf (ents b (rix y (num b))) y) (hf : b = false → 0 < num true → ixOf (ents true (rix y (num true))) y = -1) (ht : b = true → 0 ≤ k) :
    (k = -1 ∧ ∀ q ∈ T, q.1 ≠ y) ∨ ∃ (j : Nat) (x : Int), k = j ∧ ∃ h : j < (ents b (rix y (num b))).length, (ents b (rix y (num b)))[j] = (y, x) ∧ (y, x) ∈ T := by
  rcases ixOf_ge (ents b (rix y (num b))) y with e | ⟨j, e, hj, e2⟩
  · rw [← hk] at e
    refine .inl ⟨e, fun q hq => ?_⟩
    have hb : b = false := by
      cases b
      · rfl
      · have := ht rfl; omega
    subst hb
    refine hI.absent (y := y) (fun b' hb' => ?_) q (hP.mem_iff.2 hq)
    cases b'
    · rw [← hk]; exact e
    · exact hf rfl hb'
  · rw [← hk] at e
    have hm := List.getElem_mem hj
    obtain ⟨z, hz⟩ : ∃ z, z = (ents b (rix y (num b)))[j] := ⟨_, rfl⟩
    rw [← hz] at e2 hm
    obtain ⟨z1, z2⟩ := z
    have e3 : z1 = y := e2
    subst e3
    exact .inr ⟨j, z2, e, hj, hz.symm, hP.mem_iff.1 (mem_flat.2 ⟨b, rix z1 (num b), hlt, hm⟩)⟩
theorem TB.apart {w : World} {base p : Nat} {T : List NU} {moved C : Nat} {F : Nat → Prop} (h : TB w base p T moved C F) : T.Pairwise (fun p q => p.1 ≠ q.1) := by
  obtain ⟨blk, num, val, ents, next, h1, h2, h3, _⟩ := h
  exact apart_perm h3.symm h2.apart
/-- what a call that keeps all names leaves -/
def Same (w : World) (base p : Nat) (T : List NU) (C : Nat) (F : Nat → Prop) (w' : World) : Prop := ∃ moved F', moved ≤ 4 ∧ TB w' base p T moved C F' ∧ Kept F w w' ∧ ∀ k, F' k → F k ∨ w.heap.size ≤ k
def getV (T : List NU) (y : Nm) : Value := .tuple #[.int .i64 ((lk T y).getD 0), .bool (lk T y).isSome, .int .i64 0]
set_option maxHeartbeats 1000000 in
theorem get_ok (w : World) (base p : Nat) (T : List NU) (moved0 C : Nat) (F : Nat → Prop) (h : TB w base p T moved0 C F) (hC : T.length ≤ C) (hC2 : C ≤ 200000) (y : Nm) (hy : y.ok) :
    Calls Try.prog 13 #[.pointer (some ⟨p, 0, none⟩), .agg #[.int .i64 y.tenant, .string y.key]] w fun e w' => e = .returned (getV T y) ∧ Same w base p T C F w' := by
  have HT := Hid.mk2 h
  have HBG := Hid.mk2 (fun W (hb : Below w.heap.size w W) => begin_ok W base p T moved0 C F (h.below hb) hC hC2 y hy)
  have HY := Hid.mk2 hy
  clear h hy
  go_enter Try.func13, Try.ntmps13
  go_upto_region 1 with (fail)
  obtain ⟨w0, hw0⟩ : ∃ w0, w0 = w.alloc (Obj.cells #[.int .i64 y.tenant, .string y.key] 28) := ⟨_, rfl⟩
  rw [← hw0]
  have HB0 : Hid (Below w.heap.size w w0) := by rw [hw0]; exact (Below.refl _ _).alloc (Nat.le_refl _) _
  have a0 : w0.cell? ⟨w.heap.size, 0, none⟩ = some (.int .i64 y.tenant) := by rw [hw0]; simp
  have a1 : w0.cell? ⟨w.heap.size, 1, none⟩ = some (.string y.key) := by rw [hw0]; simp
  have y0 : w.heap.size < w0.heap.size := by rw [hw0]; simp
  clear hw0
  go_upto_region 4 with (go_at_call 21; refine (HBG.out _ HB0.out).mono ?_; rintro e w1 ⟨rfl, moved, F', hm, hT1, hK1, hF1⟩; have hbk := hK1.block w.heap.size y0 (fun hf => by have := (HT.out.lt hf).2; omega); have b0 := (World.cell?_of_block (a := ⟨w.heap.size, 0, none⟩) hbk).trans a0; have b1 := (World.cell?_of_block (a := ⟨w.heap.size, 1, none⟩) hbk).trans a1; have HT1 := Hid.mk2 hT1; have HK1 := Hid.mk2 hK1; have HF1 := Hid.mk2 hF1; clear hT1 hK1 hF1 hbk)
  clear a0 a1
  have HSM : Hid (∀ W, Below w1.heap.size w1 W → Same w base p T C F W) := fun W hb => ⟨moved, F', hm, HT1.out.below hb, ((Kept.below (F := F) HB0.out).trans HK1.out (fun k hk => .inl hk)).trans (Kept.below (F := F) hb) (fun k hk => .inl hk), fun k hk => (HF1.out k hk).imp id (fun g => Nat.le_trans HB0.out.size g)⟩
  have HAP := Hid.mk2 HT1.out.apart
  have htb := HT1.out
  obtain ⟨blk, num, val, ents, next, hTm, hI, hP, hN, hFe⟩ := htb
  have HFD := Hid.mk2 (find_any w1 base p blk num val ents next T.length moved hTm (fun b => by have := hN b; omega) y HY.out (fun b i hi => by have h1 := row_le num ents b hi; have h2 := hP.length_eq; omega))
  have HTm := Hid.mk2 hTm
  have HI := Hid.mk2 hI
  have HP := Hid.mk2 hP
  clear hTm hI hP hN hFe
  go_upto_region 5 with (go_at_call 22; refine HFD.out.mono ?_; rintro e w2 ⟨⟨b, k, rfl, hlt, hk, hf, ht⟩, hb2⟩; have HB2 := Hid.mk2 hb2; have HKK := Hid.mk2 hk; have HKF := Hid.mk2 hf; have HKT := Hid.mk2 ht; clear hb2 hk hf ht)
  have hfc := found_cases HI.out HP.out hlt HKK.out HKF.out HKT.out
  clear HKK HKF HKT HFD
  rcases hfc with ⟨rfl, hno⟩ | ⟨j, x, rfl, hj, hjx, hmx⟩
  · have HV : Hid (getV T y = .tuple #[.int .i64 0, .bool false, .int .i64 0]) := by show _ = _; unfold getV; rw [lk_none hno]; rfl
    clear hno
    go_wp2
    go_ret3
    exact ⟨by rw [HV.out]; rfl, HSM.out _ HB2.out⟩
  · have HV : Hid (getV T y = .tuple #[.int .i64 x, .bool true, .int .i64 0]) := by show _ = _; unfold getV; rw [lk_mem HAP.out hmx]; rfl
    clear hmx
    have HTm2 := Hid.mk2 (HTm.out.below HB2.out)
    obtain ⟨ix, hix⟩ : ∃ ix, ix = rix y (num b) := ⟨_, rfl⟩
    rw [← hix] at hlt ⊢
    have hj' : j < (ents b ix).length := by rw [hix]; exact hj
    have hjx' : (ents b ix)[j] = (y, x) := by subst hix; exact hjx
    clear hj hjx hix
    have c0 := HTm2.out.cell b ix hlt
    rcases (HTm2.out.own b ix hlt).row with ⟨e1, e2⟩ | ⟨g, cap, e1, h1, h2, h3⟩
    · rw [e2] at hj'; simp at hj'
    rw [e1] at c0
    rcases h3 with e3 | ⟨g', off, e3, hgl, hcs⟩
    · rw [e3] at hj'; simp at hj'
    cases e3
    obtain ⟨-, -, c2⟩ := hcs j hj'
    rw [hjx'] at c2
    have c3 : w2.cell? ⟨g, 0 + j * 3 + 2, none⟩ = some (.int .i64 x) := c2
    rw [Nat.zero_add] at c3
    have hj2 : (j : Int) < ((ents b ix).length : Int) := by omega
    have hj3 : ¬ (j : Int) < 0 := by omega
    clear hcs c2 hjx' e1
    go_wp2
    go_ret3
    exact ⟨by rw [HV.out]; rfl, HSM.out _ HB2.out⟩
end Go.Proofs.Ytlomciinkpecpaa
