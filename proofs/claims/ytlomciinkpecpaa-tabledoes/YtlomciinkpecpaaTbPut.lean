/-
  The contracts of Del and Put.
-/
import Derived.Test.YtlomciinkpecpaaTbGet
import Derived.Shelf.Lay
import Derived.Shelf.Strconv.Clone
import Derived.Ground.NamesProg
namespace Go.Proofs
open Go.Shelf Go.RowKit Go.Lib
shelf_lay LaysM.n316 Nm 316 at Try as Try.lays316
end Go.Proofs
namespace Go.Proofs.Ytlomciinkpecpaa
open Go.RowKit
set_option linter.unusedSimpArgs false
set_option linter.unusedVariables false
set_option maxRecDepth 100000

theorem strClone (s : ByteArray) (w : World) (h : s.size ≤ 281474976710656) : Calls Try.prog 37 #[.string s] w fun e w' => e = .returned (.string s) ∧ Below w.heap.size w w' :=
  Any.stringslite_Clone Try.lays316 s w h
theorem clone_any (s : ByteArray) (w : World) (h : s.size ≤ 281474976710656) : Calls Try.prog 23 #[.string s] w fun e w' => e = .returned (.string s) ∧ Below w.heap.size w w' := by
  have hc := strClone s w h
  go_enter Try.func23, Try.ntmps23
  go_wp2_with (go_at_call 37; refine hc.mono ?_; rintro e w' ⟨rfl, hb⟩)
  go_ret
  exact ⟨rfl, hb⟩
theorem cut_list {L : List NU} {j : Nat} {q : NU} (hj : j < L.length) (e : L[j] = q) : L = L.take j ++ q :: L.drop (j + 1) := by
  have h1 : L.drop j = q :: L.drop (j + 1) := by rw [← e]; exact (List.getElem_cons_drop (h := hj)).symm
  rw [← h1]
  exact (List.take_append_drop j L).symm
theorem strike_apart {y : Nm} {x : Int} {M T : List NU} (hP : T.Perm ((y, x) :: M)) (ha : T.Pairwise (fun p q => p.1 ≠ q.1)) : (strike y T).Perm M := by
  have ha2 := apart_perm hP.symm ha
  obtain ⟨h1, h2⟩ := List.pairwise_cons.1 ha2
  have e : strike y ((y, x) :: M) = M := by
    have : strike y ((y, x) :: M) = strike y M := by simp [strike]
    rw [this, strike_none (fun q hq => (h1 q hq).symm)]
  have h3 : (strike y T).Perm (strike y ((y, x) :: M)) := hP.filter _
  rwa [e] at h3
/-- one entry of a row, and all others -/
theorem flat_entry {num : Bool → Nat} {ents : Bool → Nat → List NU} {b : Bool} {i j : Nat} {q : NU} (hi : i < num b) (hj : j < (ents b i).length) (e : (ents b i)[j] = q) :
    ∃ M, (flat num ents).Perm (q :: M) ∧ (flat num (up2 ents b i ((ents b i).take j ++ (ents b i).drop (j + 1)))).Perm M ∧ ∀ q', (flat num (up2 ents b i ((ents b i).set j q'))).Perm (q' :: M) := by
  obtain ⟨rest, h1, h2⟩ := flat_split num ents b hi
  refine ⟨(ents b i).take j ++ (ents b i).drop (j + 1) ++ rest, ?_, h2 _, fun q' => ?_⟩
  · refine h1.trans ?_
    conv => lhs; rw [cut_list hj e]
    rw [List.append_assoc, List.cons_append, List.append_assoc]
    exact List.perm_middle
  · refine (h2 _).trans ?_
    have hs : (ents b i).set j q' = (ents b i).take j ++ q' :: (ents b i).drop (j + 1) := by rw [List.set_eq_take_append_cons_drop, if_pos hj]
    rw [hs, List.append_assoc, List.cons_append, List.append_assoc]
    exact List.perm_middle
theorem Iv.del {num : Bool → Nat} {ents : Bool → Nat → List NU} {next many : Nat} {T : List NU} {b : Bool} {i j : Nat} {y : Nm} {x : Int} (h : Iv num ents next many) (hP : (flat num ents).Perm T) (hi : i < num b) (hj : j < (ents b i).length) (e : (ents b i)[j] = (y, x)) :
    Iv num (up2 ents b i ((ents b i).take j ++ (ents b i).drop (j + 1))) next (strike y T).length ∧ (flat num (up2 ents b i ((ents b i).take j ++ (ents b i).drop (j + 1)))).Perm (strike y T) ∧ (strike y T).length + 1 = T.length := by
  obtain ⟨M, h1, h2, _⟩ := flat_entry hi hj e
  have hs := strike_apart (hP.symm.trans h1) (apart_perm hP.symm h.apart)
  have hf := h2.trans hs.symm
  have hmem : ∀ b' i', i' < num b' → ∀ q ∈ up2 ents b i ((ents b i).take j ++ (ents b i).drop (j + 1)) b' i', q ∈ ents b' i' := by
    intro b' i' hi' q hq
    by_cases e2 : b' = b ∧ i' = i
    · obtain ⟨rfl, rfl⟩ := e2
      rw [up2_same] at hq
      rcases List.mem_append.1 hq with hm | hm
      · exact List.mem_of_mem_take hm
      · exact List.mem_of_mem_drop hm
    · rwa [up2_other e2] at hq
  refine ⟨⟨fun b' i' hi' q hq => h.home b' i' hi' q (hmem b' i' hi' q hq), fun b' i' hi' q hq => h.ok b' i' hi' q (hmem b' i' hi' q hq), ?_, h.nx, fun i' hi' => ?_, by rw [hf.length_eq]⟩, hf, ?_⟩
  · have ha := apart_perm h1.symm h.apart
    exact apart_perm h2 (List.pairwise_cons.1 ha).2
  · have h0 := h.done i' hi'
    by_cases e2 : true = b ∧ i' = i
    · obtain ⟨rfl, rfl⟩ := e2
      rw [h0] at hj; simp at hj
    · rw [up2_other e2]; exact h0
  · rw [hs.length_eq, ← hP.length_eq, h1.length_eq]
    rfl
theorem Iv.set {num : Bool → Nat} {ents : Bool → Nat → List NU} {next many : Nat} {T : List NU} {b : Bool} {i j : Nat} {y : Nm} {x : Int} (h : Iv num ents next many) (hP : (flat num ents).Perm T) (hi : i < num b) (hj : j < (ents b i).length) (e : (ents b i)[j] = (y, x)) (x' : Int) :
    Iv num (up2 ents b i ((ents b i).set j (y, x'))) next ((y, x') :: strike y T).length ∧ (flat num (up2 ents b i ((ents b i).set j (y, x')))).Perm ((y, x') :: strike y T) ∧ ((y, x') :: strike y T).length = T.length := by
  obtain ⟨M, h1, _, h2⟩ := flat_entry hi hj e
  have hs := strike_apart (hP.symm.trans h1) (apart_perm hP.symm h.apart)
  have hf := (h2 (y, x')).trans (hs.symm.cons _)
  have hmem : ∀ b' i', i' < num b' → ∀ q ∈ up2 ents b i ((ents b i).set j (y, x')) b' i', ∃ q' ∈ ents b' i', q'.1 = q.1 := by
    intro b' i' hi' q hq
    by_cases e2 : b' = b ∧ i' = i
    · obtain ⟨rfl, rfl⟩ := e2
      rw [up2_same] at hq
      rcases List.mem_or_eq_of_mem_set hq with hm | hm
      · exact ⟨q, hm, rfl⟩
      · exact ⟨(y, x), by rw [← e]; exact List.getElem_mem hj, by rw [hm]⟩
    · rw [up2_other e2] at hq
      exact ⟨q, hq, rfl⟩
  refine ⟨⟨fun b' i' hi' q hq => ?_, fun b' i' hi' q hq => ?_, ?_, h.nx, fun i' hi' => ?_, by rw [hf.length_eq]⟩, hf, ?_⟩
  · obtain ⟨q', hm, e3⟩ := hmem b' i' hi' q hq
    rw [← e3]; exact h.home b' i' hi' q' hm
  · obtain ⟨q', hm, e3⟩ := hmem b' i' hi' q hq
    rw [← e3]; exact h.ok b' i' hi' q' hm
  · have ha := apart_perm h1.symm h.apart
    obtain ⟨a1, a2⟩ := List.pairwise_cons.1 ha
    exact apart_perm (h2 _) (List.pairwise_cons.2 ⟨a1, a2⟩)
  · have h0 := h.done i' hi'
    by_cases e2 : true = b ∧ i' = i
    · obtain ⟨rfl, rfl⟩ := e2
      rw [h0] at hj; simp at hj
    · rw [up2_other e2]; exact h0
  · rw [List.length_cons, hs.length_eq, ← hP.length_eq, h1.length_eq]
    rfl
theorem Iv.add {num : Bool → Nat} {ents : Bool → Nat → List NU} {next many : Nat} {T : List NU} {y : Nm} (h : Iv num ents next many) (hp : 1 ≤ num false) (hP : (flat num ents).Perm T) (hy : y.ok) (hno : ∀ q ∈ T, q.1 ≠ y) (x : Int) :
    Iv num (up2 ents false (rix y (num false)) (ents false (rix y (num false)) ++ [(y, x)])) next ((y, x) :: strike y T).length ∧ (flat num (up2 ents false (rix y (num false)) (ents false (rix y (num false)) ++ [(y, x)]))).Perm ((y, x) :: strike y T) ∧ ((y, x) :: strike y T).length = T.length + 1 := by
  have hf0 := standAll_flat num hp [(y, x)] ents
  have hf : (flat num (up2 ents false (rix y (num false)) (ents false (rix y (num false)) ++ [(y, x)]))).Perm ((y, x) :: strike y T) := by
    rw [strike_none hno]
    exact hf0.trans ((List.perm_append_singleton _ _).trans (hP.cons _))
  have hh := standAll_home num [(y, x)] ents (fun b i hi q hq => ⟨h.home b i hi q hq, h.ok b i hi q hq⟩) (fun z hz => by rw [List.mem_singleton.1 hz]; exact hy)
  refine ⟨⟨fun b i hi q hq => (hh b i hi q hq).1, fun b i hi q hq => (hh b i hi q hq).2, ?_, h.nx, fun i hi => ?_, by rw [hf.length_eq]⟩, hf, by rw [List.length_cons, strike_none hno]⟩
  · refine apart_perm hf (List.pairwise_cons.2 ⟨fun q hq => ?_, ?_⟩)
    · rw [strike_none hno] at hq
      exact (hno q hq).symm
    · rw [strike_none hno]
      exact apart_perm hP.symm h.apart
  · rw [up2_other (by simp)]
    exact h.done i hi
set_option maxHeartbeats 1000000 in
theorem del_ok (w : World) (base p : Nat) (T : List NU) (moved0 C : Nat) (F : Nat → Prop) (h : TB w base p T moved0 C F) (hC : T.length ≤ C) (hC2 : C ≤ 200000) (y : Nm) (hy : y.ok) :
    Calls Try.prog 12 #[.pointer (some ⟨p, 0, none⟩), .agg #[.int .i64 y.tenant, .string y.key]] w fun e w' => e = .returned (.tuple #[.bool (lk T y).isSome, .int .i64 0]) ∧ ∃ T', T' = strike y T ∧ Same w base p T' C F w' := by
  have HT := Hid.mk2 h
  have HBG := Hid.mk2 (fun W (hb : Below w.heap.size w W) => begin_ok W base p T moved0 C F (h.below hb) hC hC2 y hy)
  have HY := Hid.mk2 hy
  clear h hy
  go_enter Try.func12, Try.ntmps12
  go_upto_region 1 with (fail)
  obtain ⟨w0, hw0⟩ : ∃ w0, w0 = w.alloc (Obj.cells #[.int .i64 y.tenant, .string y.key] 28) := ⟨_, rfl⟩
  rw [← hw0]
  have HB0 : Hid (Below w.heap.size w w0) := by rw [hw0]; exact (Below.refl _ _).alloc (Nat.le_refl _) _
  have a0 : w0.cell? ⟨w.heap.size, 0, none⟩ = some (.int .i64 y.tenant) := by rw [hw0]; simp
  have a1 : w0.cell? ⟨w.heap.size, 1, none⟩ = some (.string y.key) := by rw [hw0]; simp
  have y0 : w.heap.size < w0.heap.size := by rw [hw0]; simp
  clear hw0
  go_upto_region 4 with (go_at_call 21; refine (HBG.out _ HB0.out).mono ?_; rintro e w1 ⟨rfl, moved, F', hm, hT1, hK1, hF1⟩; have hbk := hK1.block w.heap.size y0 (fun hf => by have := (HT.out.lt hf).2; omega); have b0 := (World.cell?_of_block (a := ⟨w.heap.size, 0, none⟩) hbk).trans a0; have b1 := (World.cell?_of_block (a := ⟨w.heap.size, 1, none⟩) hbk).trans a1; have HT1 := Hid.mk2 hT1; have HK1 := Hid.mk2 hK1; have HF1 := Hid.mk2 hF1; clear hT1 hK1 hF1 hbk)
  clear a0 a1
  have HSM : Hid (∀ W, Below w1.heap.size w1 W → Same w base p T C F W) := fun W hb => ⟨moved, F', hm, HT1.out.below hb, ((Kept.below (F := F) HB0.out).trans HK1.out (fun k hk => .inl hk)).trans (Kept.below (F := F) hb) (fun k hk => .inl hk), fun k hk => (HF1.out k hk).imp id (fun g => Nat.le_trans HB0.out.size g)⟩
  have HAP := Hid.mk2 HT1.out.apart
  have htb := HT1.out
  obtain ⟨blk, num, val, ents, next, hTm, hI, hP, hN, hFe⟩ := htb
  have HFD := Hid.mk2 (find_any w1 base p blk num val ents next T.length moved hTm (fun b => by have := hN b; omega) y HY.out (fun b i hi => by have h1 := row_le num ents b hi; have h2 := hP.length_eq; omega))
  have HTm := Hid.mk2 hTm
  have HI := Hid.mk2 hI
  have HP := Hid.mk2 hP
  have HNB := Hid.mk2 hN
  have HFE := Hid.mk2 hFe
  clear hTm hI hP hN hFe
  go_upto_region 5 with (go_at_call 22; refine HFD.out.mono ?_; rintro e w2 ⟨⟨b, k, rfl, hlt, hk, hf, ht⟩, hb2⟩; have HB2 := Hid.mk2 hb2; have HKK := Hid.mk2 hk; have HKF := Hid.mk2 hf; have HKT := Hid.mk2 ht; clear hb2 hk hf ht)
  have hfc := found_cases HI.out HP.out hlt HKK.out HKF.out HKT.out
  clear HKK HKF HKT HFD
  rcases hfc with ⟨rfl, hno⟩ | ⟨j, x, rfl, hj, hjx, hmx⟩
  · have HV : Hid (lk T y = none) := lk_none hno
    have HSK : Hid (strike y T = T) := strike_none hno
    clear hno
    go_wp2
    go_ret2
    exact ⟨by rw [HV.out]; rfl, T, HSK.out.symm, HSM.out _ HB2.out⟩
  · have HV : Hid (lk T y = some x) := lk_mem HAP.out hmx
    clear hmx
    have HTm2 := Hid.mk2 (HTm.out.below HB2.out)
    obtain ⟨ix, hix⟩ : ∃ ix, ix = rix y (num b) := ⟨_, rfl⟩
    rw [← hix] at hlt ⊢
    have hj' : j < (ents b ix).length := by rw [hix]; exact hj
    have hjx' : (ents b ix)[j] = (y, x) := by subst hix; exact hjx
    clear hj hjx hix
    have c0 := HTm2.out.cell b ix hlt
    rcases (HTm2.out.own b ix hlt).row with ⟨e1, e2⟩ | ⟨g, cap, e1, h1, h2, h3⟩
    · rw [e2] at hj'; simp at hj'
    rw [e1] at c0
    have HOW := HTm2.out.own b ix hlt
    rw [e1] at HOW
    have HDE := Hid.mk2 (delete_any w2 base _ (ents b ix) HOW j (j + 1) (by omega) (by omega))
    have HPU := Hid.mk2 (HI.out.del HP.out hlt hj' hjx')
    have HE1 := Hid.mk2 e1
    have hj3 : ¬ (j : Int) < 0 := by omega
    have hjb : j < 400000 := by have h1 := row_le num ents b hlt; have h2 := HP.out.length_eq; omega
    have HBK := Hid.mk2 (HTm2.out.pblk b (by omega))
    have ff := HTm2.out.free b (by omega) ix
    obtain ⟨LL, hLL⟩ : ∃ LL, LL = (ents b ix).take j ++ (ents b ix).drop (j + 1) := ⟨_, rfl⟩
    rw [← hLL] at HDE HPU
    have ej : ((j : Int) + 1) = ((j + 1 : Nat) : Int) := by omega
    rw [← ej] at HDE
    clear e1 h1 h2 h3 hLL HOW ej hjx'
    go_upto_region 8 with (go_at_call 29; refine HDE.out.mono ?_; rintro e w3 ⟨ro, rcp, rfl, hO3, hg3, hb3⟩; have HG3 : Hid (w2.grownBy w3 (val b ix).ownBlock) := (by rw [HE1.out]; exact hg3); have hbk3 : w3.heap[blk b]? = w2.heap[blk b]? := HG3.out.block _ HBK.out.2.2 (fun e => (HTm2.out.far b ix _ hlt e.symm).2 b (by omega) rfl); have d0 := (World.cell?_of_block (a := ⟨blk b, ix, none⟩) hbk3).trans c0; have df := (World.frozen?_of_block (a := ⟨blk b, ix, none⟩) hbk3).trans ff; have HO3 := Hid.mk2 hO3; have HB3 := Hid.mk2 hb3; clear hO3 hg3 hb3 hbk3)
    have hlv : ∀ g, (Value.slice ro LL.length rcp).ownBlock = some g → (val b ix).ownBlock = some g ∨ w2.heap.size ≤ g := fun g hg => .inl (by rw [HE1.out, ← HB3.out]; exact hg)
    obtain ⟨w4, hw4⟩ : ∃ x, x = w3.setCell ⟨blk b, ix, none⟩ (.slice ro LL.length rcp) := ⟨_, rfl⟩
    rw [← hw4]
    have HT4 : Hid (Tm w4 base p blk num (up2 val b ix (.slice ro LL.length rcp)) (up2 ents b ix LL) next T.length moved) := by rw [hw4]; exact HTm2.out.slotSet hlt HG3.out _ _ HO3.out hlv
    have HK4 : Hid (Kept (Ft p blk num val) w2 w4) := by
      rw [hw4]
      exact (Kept.grown (F := Ft p blk num val) HG3.out (fun k hk => .inl (.inr (.inr ⟨b, ix, hlt, hk⟩)))).trans (Kept.set (F := Ft p blk num val) w3 (.inr (.inl ⟨b, by omega, rfl⟩)) ix _) (fun k hk => .inl hk)
    have HF4 := Hid.mk2 (Ft.slot (w := w2) (p := p) (blk := blk) hlt hlv)
    clear hw4 d0 df c0 ff hlv
    have m4 := HT4.out.manyc
    have mf := HT4.out.pfree 4
    have hTl : 1 ≤ T.length := by have := HPU.out.2.2; omega
    go_wp2
    go_ret2
    refine ⟨by rw [HV.out]; rfl, strike y T, rfl, moved, Ft p blk num (up2 val b ix (.slice ro LL.length rcp)), hm, ⟨blk, num, _, up2 ents b ix LL, next, ?_, HPU.out.1, HPU.out.2.1, HNB.out, rfl⟩, ?_, ?_⟩
    · have h5 := HT4.out.setMany (strike y T).length
      have e5 : (((strike y T).length : Nat) : Int) = (T.length : Int) - 1 := by have := HPU.out.2.2; omega
      rw [e5] at h5
      exact h5
    · have k5 := HK4.out.trans (Kept.set (F := Ft p blk num val) w4 (.inl rfl) 4 (.int .i64 ((T.length : Int) - 1))) (fun k hk => .inl hk)
      exact (((Kept.below (F := F) HB0.out).trans HK1.out (fun k hk => .inl hk)).trans (Kept.below (F := F) HB2.out) (fun k hk => .inl hk)).trans k5 (fun k hk => (HF1.out k (by rw [HFE.out]; exact hk)).imp id (fun g => Nat.le_trans HB0.out.size g))
    · intro k hk
      rcases HF4.out k hk with g | g
      · exact (HF1.out k (by rw [HFE.out]; exact g)).imp id (fun g => Nat.le_trans HB0.out.size g)
      · exact .inr (Nat.le_trans HB0.out.size (Nat.le_trans HK1.out.size (Nat.le_trans HB2.out.size g)))
end Go.Proofs.Ytlomciinkpecpaa
