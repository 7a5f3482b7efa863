/-
  The contract of Put.
-/
import Derived.Test.YtlomciinkpecpaaTbPut
namespace Go.Proofs.Ytlomciinkpecpaa
open Go.RowKit
set_option linter.unusedSimpArgs false
set_option linter.unusedVariables false
set_option maxRecDepth 100000

theorem OwnR.setNum {w : World} {base g cap : Nat} {L : List NU} (h : OwnR w base (.slice (some ⟨g, 0, none⟩) L.length cap) L) {j : Nat} (hj : j < L.length) {y : Nm} {x : Int} (e : L[j] = (y, x)) (x' : Int) :
    OwnR (w.setCell ⟨g, j * 3 + 2, none⟩ (.int .i64 x')) base (.slice (some ⟨g, 0, none⟩) L.length cap) (L.set j (y, x')) := by
  obtain ⟨cur, hb, hg, hsz, hn, hm, hcl⟩ := h.parts
  have h1 := heap_set (o := j * 3 + 2) (v := .int .i64 x') hg
  have hl : (L.set j (y, x')).length = L.length := by simp
  rw [← hl]
  refine OwnR.mk' hb h1 (by simp [hsz]) (by rw [hl]; exact hn) hm ?_
  intro k u hu
  have hk : k < L.length * 3 := by have := (List.getElem?_eq_some_iff.1 hu).1; rw [flatT_len, hl] at this; exact this
  have hi : k / 3 < L.length := by omega
  have hi2 : k / 3 < (L.set j (y, x')).length := by rw [hl]; exact hi
  have h2 := flatT_get (L.set j (y, x')) (k / 3) (k % 3) hi2 (by omega)
  have h3 := flatT_get L (k / 3) (k % 3) hi (by omega)
  rw [show k / 3 * 3 + k % 3 = k by omega] at h2 h3
  have h4 := hcl k _ h3
  rw [h2] at hu
  by_cases e2 : k = j * 3 + 2
  · subst e2
    have hu2 : u = .int .i64 x' := by
      have e3 : (j * 3 + 2) / 3 = j := by omega
      have e4 : (j * 3 + 2) % 3 = 2 := by omega
      have hu3 := Option.some.inj hu
      simp only [e3, e4, List.getElem_set_self] at hu3
      rw [← hu3]
      rfl
    rw [hu2]
    exact World.cell?_setCell_same _ _ _ h4
  · rw [World.cell?_setCell_other _ _ _ _ (by first | (simp; done) | (simp; omega)), h4]
    rw [← hu]
    by_cases e5 : k / 3 = j
    · have e6 : k % 3 = 0 ∨ k % 3 = 1 := by omega
      have hu3 : (L.set j (y, x'))[k / 3] = (y, x') := by simp [e5]
      have hu4 : L[k / 3] = (y, x) := by rw [← e]; simp [e5]
      simp only [hu3, hu4]
      rcases e6 with e6 | e6
      · simp only [e6]; rfl
      · simp only [e6]; rfl
    · have hu3 : (L.set j (y, x'))[k / 3] = L[k / 3] := List.getElem_set_ne (fun e => e5 e.symm) _
      simp only [hu3]
set_option maxHeartbeats 1000000 in
theorem put_ok (w : World) (base p : Nat) (T : List NU) (moved0 C : Nat) (F : Nat → Prop) (h : TB w base p T moved0 C F) (hC : T.length < C) (hC2 : C ≤ 200000) (y : Nm) (hy : y.ok) (x' : Int) :
    Calls Try.prog 9 #[.pointer (some ⟨p, 0, none⟩), .agg #[.int .i64 y.tenant, .string y.key], .int .i64 x'] w fun e w' => e = .returned (.int .i64 0) ∧ ∃ T', T' = (y, x') :: strike y T ∧ Same w base p T' C F w' := by
  have HT := Hid.mk2 h
  have HBG := Hid.mk2 (fun W (hb : Below w.heap.size w W) => begin_ok W base p T moved0 C F (h.below hb) (Nat.le_of_lt hC) hC2 y hy)
  have HY := Hid.mk2 hy
  clear h hy
  go_enter Try.func9, Try.ntmps9
  go_upto_region 1 with (fail)
  obtain ⟨w0, hw0⟩ : ∃ w0, w0 = w.alloc (Obj.cells #[.int .i64 y.tenant, .string y.key] 28) := ⟨_, rfl⟩
  rw [← hw0]
  have HB0 : Hid (Below w.heap.size w w0) := by rw [hw0]; exact (Below.refl _ _).alloc (Nat.le_refl _) _
  have a0 : w0.cell? ⟨w.heap.size, 0, none⟩ = some (.int .i64 y.tenant) := by rw [hw0]; simp
  have a1 : w0.cell? ⟨w.heap.size, 1, none⟩ = some (.string y.key) := by rw [hw0]; simp
  have y0 : w.heap.size < w0.heap.size := by rw [hw0]; simp
  have z0 : w0.frozen? ⟨w.heap.size, 1, none⟩ = false := by rw [hw0]; simp
  clear hw0
  go_upto_region 4 with (go_at_call 21; refine (HBG.out _ HB0.out).mono ?_; rintro e w1 ⟨rfl, moved, F', hm, hT1, hK1, hF1⟩; have hbk := hK1.block w.heap.size y0 (fun hf => by have := (HT.out.lt hf).2; omega); have b0 := (World.cell?_of_block (a := ⟨w.heap.size, 0, none⟩) hbk).trans a0; have b1 := (World.cell?_of_block (a := ⟨w.heap.size, 1, none⟩) hbk).trans a1; have z1 := (World.frozen?_of_block (a := ⟨w.heap.size, 1, none⟩) hbk).trans z0; have y1 : w.heap.size < w1.heap.size := Nat.lt_of_lt_of_le y0 hK1.size; have HT1 := Hid.mk2 hT1; have HK1 := Hid.mk2 hK1; have HF1 := Hid.mk2 hF1; clear hT1 hK1 hF1 hbk)
  clear a0 a1 z0
  have HSM : Hid (∀ W, Below w1.heap.size w1 W → Same w base p T C F W) := fun W hb => ⟨moved, F', hm, HT1.out.below hb, ((Kept.below (F := F) HB0.out).trans HK1.out (fun k hk => .inl hk)).trans (Kept.below (F := F) hb) (fun k hk => .inl hk), fun k hk => (HF1.out k hk).imp id (fun g => Nat.le_trans HB0.out.size g)⟩
  have HAP := Hid.mk2 HT1.out.apart
  have htb := HT1.out
  obtain ⟨blk, num, val, ents, next, hTm, hI, hP, hN, hFe⟩ := htb
  have HFD := Hid.mk2 (find_any w1 base p blk num val ents next T.length moved hTm (fun b => by have := hN b; omega) y HY.out (fun b i hi => by have h1 := row_le num ents b hi; have h2 := hP.length_eq; omega))
  have HTm := Hid.mk2 hTm
  have HI := Hid.mk2 hI
  have HP := Hid.mk2 hP
  have HNB := Hid.mk2 hN
  have HFE := Hid.mk2 hFe
  clear hTm hI hP hN hFe
  go_upto_region 5 with (go_at_call 22; refine HFD.out.mono ?_; rintro e w2 ⟨⟨b, k, rfl, hlt, hk, hf, ht⟩, hb2⟩; have HB2 := Hid.mk2 hb2; have HKK := Hid.mk2 hk; have HKF := Hid.mk2 hf; have HKT := Hid.mk2 ht; clear hb2 hk hf ht)
  have hfc := found_cases HI.out HP.out hlt HKK.out HKF.out HKT.out
  rcases hfc with ⟨rfl, hno⟩ | ⟨j, x, rfl, hj, hjx, hmx⟩
  · have HPU := Hid.mk2 (HI.out.add HTm.out.pos HP.out HY.out hno x')
    have hks : y.key.size ≤ 281474976710656 := by have := HY.out.2.2.2; omega
    have HCL := Hid.mk2 (clone_any y.key w2 hks)
    have d0 := (bcl HB2.out _ 0 y1).trans b0
    have d1 := (bcl HB2.out _ 1 y1).trans b1
    have z2 := (bfr HB2.out _ 1 y1).trans z1
    have y2 : w.heap.size < w2.heap.size := Nat.lt_of_lt_of_le y1 HB2.out.size
    clear HKK HKF HKT HFD hno hks b0 b1 z1
    go_upto_region 9 with (go_at_call 23; refine HCL.out.mono ?_; rintro e w3 ⟨rfl, hb3⟩; have HB3 := Hid.mk2 hb3; have q0 := (bcl hb3 _ 0 y2).trans d0; have q1 := (bcl hb3 _ 1 y2).trans d1; have q2 := (bfr hb3 _ 1 y2).trans z2; clear hb3)
    have y3 : w.heap.size < w3.heap.size := Nat.lt_of_lt_of_le y2 HB3.out.size
    obtain ⟨w4, hw4⟩ : ∃ x, x = w3.setCell ⟨w.heap.size, 1, none⟩ (.string y.key) := ⟨_, rfl⟩
    rw [← hw4]
    have r0 : w4.cell? ⟨w.heap.size, 0, none⟩ = some (.int .i64 y.tenant) := by rw [hw4, World.cell?_setCell_other _ _ _ _ (by simp)]; exact q0
    have r1 : w4.cell? ⟨w.heap.size, 1, none⟩ = some (.string y.key) := by rw [hw4]; exact World.cell?_setCell_same _ _ _ q1
    have HK34 : Hid (Kept (fun k => k = w.heap.size) w3 w4) := by rw [hw4]; exact Kept.set (F := fun k => k = w.heap.size) w3 rfl 1 _
    clear hw4 d0 d1 q0 q1 q2 z2
    have HNF : Hid (∀ k, Ft p blk num val k → k ≠ w.heap.size) := fun k hk e => by
      have h1 := HF1.out k (by rw [HFE.out]; exact hk)
      rcases h1 with g | g
      · have := (HT.out.lt g).2; omega
      · omega
    have HTm4 : Hid (Tm w4 base p blk num val ents next T.length moved) := ((HTm.out.below HB2.out).below HB3.out).kept HK34.out (fun k hk e => HNF.out k hk e)
    have HST := Hid.mk2 (stand_any w4 base p blk num val ents next T.length moved HTm4.out (by have := HNB.out false; omega) (y, x') HY.out (by have h1 := row_le num ents false (rix_lt y HTm.out.pos); have h2 := HP.out.length_eq; show (ents false (rix y (num false))).length + 1 ≤ 1000000; omega))
    go_upto_region 10 with (go_at_call 24; refine HST.out.mono ?_; rintro e w5 ⟨rfl, v, hT5, hK5, hF5⟩; have HT5 := Hid.mk2 hT5; have HK5 := Hid.mk2 hK5; have HF5 := Hid.mk2 hF5; clear hT5 hK5 hF5)
    have m4 := HT5.out.manyc
    have mf := HT5.out.pfree 4
    have hTb : T.length < 200000 := by omega
    clear r0 r1 HST HCL
    go_wp2
    go_ret
    refine ⟨rfl, _, rfl, moved, Ft p blk num (up2 val false (rix y (num false)) v), hm, ⟨blk, num, up2 val false (rix y (num false)) v, _, next, ?_, HPU.out.1, HPU.out.2.1, HNB.out, rfl⟩, ?_, ?_⟩
    · have h5 := HT5.out.setMany ((y, x') :: strike y T).length
      have e5 : ((((y, x') :: strike y T).length : Nat) : Int) = (T.length : Int) + 1 := by have := HPU.out.2.2; omega
      rw [e5] at h5
      rw [HPU.out.2.2] at h5 ⊢
      exact h5
    · have k0 := ((Kept.below (F := F) HB0.out).trans HK1.out (fun k hk => .inl hk)).trans (Kept.below (F := F) (HB2.out.trans (HB3.out.mono HB2.out.size))) (fun k hk => .inl hk)
      have k1 := k0.trans HK34.out (fun k hk => .inr (by omega))
      have k2 := k1.trans HK5.out (fun k hk => (HF1.out k (by rw [HFE.out]; exact hk)).imp id (fun g => Nat.le_trans HB0.out.size g))
      exact k2.trans (Kept.set (F := Ft p blk num val) w5 (.inl rfl) 4 _) (fun k hk => (HF1.out k (by rw [HFE.out]; exact hk)).imp id (fun g => Nat.le_trans HB0.out.size g))
    · intro k hk
      rcases HF5.out k hk with g | g
      · exact (HF1.out k (by rw [HFE.out]; exact g)).imp id (fun g => Nat.le_trans HB0.out.size g)
      · exact .inr (Nat.le_trans (Nat.le_of_lt y3) (Nat.le_trans HK34.out.size g))
  · clear HKK HKF HKT HFD hmx b0 b1 z1
    have HTm2 := Hid.mk2 (HTm.out.below HB2.out)
    obtain ⟨ix, hix⟩ : ∃ ix, ix = rix y (num b) := ⟨_, rfl⟩
    rw [← hix] at hlt ⊢
    have hj' : j < (ents b ix).length := by rw [hix]; exact hj
    have hjx' : (ents b ix)[j] = (y, x) := by subst hix; exact hjx
    clear hj hjx hix
    have c0 := HTm2.out.cell b ix hlt
    rcases (HTm2.out.own b ix hlt).row with ⟨e1, e2⟩ | ⟨g, cap, e1, h1, h2, h3⟩
    · rw [e2] at hj'; simp at hj'
    rw [e1] at c0
    have HOW := HTm2.out.own b ix hlt
    rw [e1] at HOW
    have HSN := Hid.mk2 (HOW.setNum hj' hjx' x')
    have HPU := Hid.mk2 (HI.out.set HP.out hlt hj' hjx' x')
    have HE1 := Hid.mk2 e1
    obtain ⟨cur, -, hgh, hsz, -, -, -⟩ := HOW.parts
    have ff := frozen_of_heap hgh (j * 3 + 2)
    rcases h3 with e3 | ⟨g', off, e3, hgl, hcs⟩
    · rw [e3] at hj'; simp at hj'
    cases e3
    obtain ⟨-, -, c2⟩ := hcs j hj'
    rw [Nat.zero_add] at c2
    have hj2 : (j : Int) < ((ents b ix).length : Int) := by omega
    have hj3 : (0 : Int) ≤ (j : Int) := by omega
    have hj4 : decide ((0 : Int) ≤ (j : Int)) = true := by simp
    clear hcs hjx' e1 hgh hsz HOW h1 h2
    go_wp2
    go_ret
    have hg3 : w2.grownBy (w2.setCell ⟨g, j * 3 + 2, none⟩ (.int .i64 x')) (val b ix).ownBlock := by
      rw [HE1.out]
      exact ⟨rfl, rfl, rfl, by simp, fun k hk hne => Below.heap_setCell w2 ⟨g, j * 3 + 2, none⟩ _ k (fun e => hne (by rw [show k = g from e]; rfl))⟩
    refine ⟨rfl, _, rfl, moved, Ft p blk num val, hm, ⟨blk, num, val, _, next, ?_, HPU.out.1, HPU.out.2.1, HNB.out, rfl⟩, ?_, ?_⟩
    · rw [HPU.out.2.2]
      exact HTm2.out.slotIn hlt hg3 _ (by rw [HE1.out]; exact HSN.out)
    · have k5 := Kept.grown (F := Ft p blk num val) hg3 (fun k hk => .inl (.inr (.inr ⟨b, ix, hlt, hk⟩)))
      exact (((Kept.below (F := F) HB0.out).trans HK1.out (fun k hk => .inl hk)).trans (Kept.below (F := F) HB2.out) (fun k hk => .inl hk)).trans k5 (fun k hk => (HF1.out k (by rw [HFE.out]; exact hk)).imp id (fun g => Nat.le_trans HB0.out.size g))
    · intro k hk
      exact (HF1.out k (by rw [HFE.out]; exact hk)).imp id (fun g => Nat.le_trans HB0.out.size g)
end Go.Proofs.Ytlomciinkpecpaa
