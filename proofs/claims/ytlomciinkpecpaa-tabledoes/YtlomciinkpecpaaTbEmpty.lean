/-
  Names are moved out of an old row: the contract of emptyRow.
-/
import Derived.Test.YtlomciinkpecpaaTbIv
namespace Go.Proofs.Ytlomciinkpecpaa
open Go.RowKit
set_option linter.unusedSimpArgs false
set_option linter.unusedVariables false
set_option maxRecDepth 100000

theorem delete_any (w : World) (base : Nat) (v : Value) (T : List NU) (h : OwnR w base v T) (i j : Nat) (hij : i ≤ j) (hj : j ≤ T.length) :
    Calls Try.prog 29 #[v, .int .i64 i, .int .i64 j] w fun e w' => ∃ ao cap, e = .returned (.slice ao (T.take i ++ T.drop j).length cap) ∧ OwnR w' base (.slice ao (T.take i ++ T.drop j).length cap) (T.take i ++ T.drop j) ∧ w.grownBy w' v.ownBlock ∧ (Value.slice ao (T.take i ++ T.drop j).length cap).ownBlock = v.ownBlock := by
  rcases h.2 with ⟨rfl, hn⟩ | ⟨g, cap, cur, rfl, _⟩
  · have hT : T = [] := List.eq_nil_of_length_eq_zero hn
    subst hT
    have hj0 : j = 0 := by simpa using hj
    have hi0 : i = 0 := by omega
    subst hj0 hi0
    refine (delete_none w).mono ?_
    rintro e w' ⟨rfl, rfl⟩
    exact ⟨none, 0, rfl, h, World.grownBy.refl _ _, rfl⟩
  · by_cases e : i = j
    · subst e
      obtain ⟨cur, _, _, _, h1, h2, _⟩ := h.parts
      refine (delete_same w g T.length cap i hj h1 h2).mono ?_
      rintro e w' ⟨rfl, rfl⟩
      have e : T.take i ++ T.drop i = T := List.take_append_drop i T
      rw [e]
      exact ⟨_, _, rfl, h, World.grownBy.refl _ _, rfl⟩
    · refine (delete_some w base g cap T h i j (by omega) hj).mono ?_
      rintro e w' ⟨rfl, hO, hg⟩
      exact ⟨_, _, rfl, hO, hg, rfl⟩
section
variable {w : World} {base p : Nat} {blk num : Bool → Nat} {val : Bool → Nat → Value} {ents : Bool → Nat → List NU} {next many moved : Nat}
theorem Tm.setP (h : Tm w base p blk num val ents next many moved) (next' many' moved' : Nat) (o : Nat) (v : Value) (ho : 3 ≤ o)
    (h3 : (w.setCell ⟨p, o, none⟩ v).cell? ⟨p, 3, none⟩ = some (.int .i64 next')) (h4 : (w.setCell ⟨p, o, none⟩ v).cell? ⟨p, 4, none⟩ = some (.int .i64 many')) (h5 : (w.setCell ⟨p, o, none⟩ v).cell? ⟨p, 5, none⟩ = some (.int .i64 moved')) :
    Tm (w.setCell ⟨p, o, none⟩ v) base p blk num val ents next' many' moved' := by
  have eb : ∀ k, k ≠ p → (w.setCell ⟨p, o, none⟩ v).heap[k]? = w.heap[k]? := fun k hk => Below.heap_setCell w ⟨p, o, none⟩ v k hk
  refine ⟨?_, ?_, ?_, h3, h4, h5, fun i => by simpa using h.pfree i, ⟨h.plt.1, by simpa using h.plt.2⟩, fun b i hi => (World.cell?_of_block (eb _ (h.pblk b (by omega)).1)).trans (h.cell b i hi), fun b hb i => (World.frozen?_of_block (eb _ (h.pblk b hb).1)).trans (h.free b hb i), fun b i hi => (h.own b i hi).same (fun g hg => eb g (h.far b i g hi hg).1), fun b hb => ⟨(h.pblk b hb).1, (h.pblk b hb).2.1, by simpa using (h.pblk b hb).2.2⟩, h.bdiff, h.sep, h.far, h.pos⟩
  · rw [World.cell?_setCell_other _ _ _ _ (by first | (simp; done) | (simp; omega))]; exact h.self
  · rw [World.cell?_setCell_other _ _ _ _ (by first | (simp; done) | (simp; omega))]; exact h.rowsc
  · rw [World.cell?_setCell_other _ _ _ _ (by first | (simp; done) | (simp; omega))]; exact h.oldc
theorem Tm.setMoved (h : Tm w base p blk num val ents next many moved) (m : Nat) : Tm (w.setCell ⟨p, 5, none⟩ (.int .i64 m)) base p blk num val ents next many m :=
  h.setP next many m 5 _ (by omega) (by rw [World.cell?_setCell_other _ _ _ _ (by simp)]; exact h.nextc) (by rw [World.cell?_setCell_other _ _ _ _ (by simp)]; exact h.manyc) (World.cell?_setCell_same _ _ _ h.movedc)
theorem Tm.setMany (h : Tm w base p blk num val ents next many moved) (m : Nat) : Tm (w.setCell ⟨p, 4, none⟩ (.int .i64 m)) base p blk num val ents next m moved :=
  h.setP next m moved 4 _ (by omega) (by rw [World.cell?_setCell_other _ _ _ _ (by simp)]; exact h.nextc) (World.cell?_setCell_same _ _ _ h.manyc) (by rw [World.cell?_setCell_other _ _ _ _ (by simp)]; exact h.movedc)
theorem Tm.setNext (h : Tm w base p blk num val ents next many moved) (m : Nat) : Tm (w.setCell ⟨p, 3, none⟩ (.int .i64 m)) base p blk num val ents m many moved :=
  h.setP m many moved 3 _ (by omega) (World.cell?_setCell_same _ _ _ h.nextc) (by rw [World.cell?_setCell_other _ _ _ _ (by simp)]; exact h.manyc) (by rw [World.cell?_setCell_other _ _ _ _ (by simp)]; exact h.movedc)
end
theorem below_drewR {B : Nat} {w w' : World} (h : Below B w w') (n : Nat) : Below B w (w'.drewN n) := ⟨h.os, h.tape, h.output, h.size, h.block⟩
theorem TAt.drop {w : World} {g off : Nat} {T : List NU} (h : TAt w (some ⟨g, off, none⟩) T) (j : Nat) : TAt w (some ⟨g, off + j * 3, none⟩) (T.drop j) := by
  rcases h with rfl | ⟨b, off', e, hb, hc⟩
  · exact .inl (by simp)
  · cases e
    refine .inr ⟨g, off + j * 3, rfl, hb, fun i hi => ?_⟩
    have hi2 : j + i < T.length := by simp at hi; omega
    have := hc (j + i) hi2
    rw [show off + (j + i) * 3 = off + j * 3 + i * 3 by omega] at this
    simpa using this
theorem OwnR.row {w : World} {base : Nat} {v : Value} {T : List NU} (h : OwnR w base v T) : (v = .slice none 0 0 ∧ T = []) ∨ ∃ g cap, v = .slice (some ⟨g, 0, none⟩) T.length cap ∧ T.length ≤ cap ∧ cap ≤ maxLen ∧ TAt w (some ⟨g, 0, none⟩) T := by
  obtain ⟨ao, cap', e', h1, h2, h3⟩ := h.at
  rcases h.2 with ⟨e, hn⟩ | ⟨g, cap, cur, e, _⟩
  · exact .inl ⟨e, List.eq_nil_of_length_eq_zero hn⟩
  · rw [e] at e'
    cases e'
    exact .inr ⟨g, _, e, h1, h2, h3⟩
set_option maxHeartbeats 2000000 in
theorem empty_any (w : World) (base p : Nat) (blk num : Bool → Nat) (val : Bool → Nat → Value) (ents : Bool → Nat → List NU) (next many moved : Nat) (h : Tm w base p blk num val ents next many moved) (hn : ∀ b, num b ≤ 1000000) (hnx : next < num true) (hmv : moved ≤ 4) (hok : ∀ x ∈ ents true next, x.1.ok) (hfl : (flat num ents).length ≤ 400000) :
    Calls Try.prog 46 #[.pointer (some ⟨p, 0, none⟩)] w fun e w' => e = .returned (.tuple #[]) ∧
      ∃ val' left, left = (ents true next).length - (4 - moved) ∧ Tm w' base p blk num val' (up2 (standAll (num false) ents ((ents true next).drop left)) true next ((ents true next).take left)) next many (moved + ((ents true next).length - left)) ∧ Kept (Ft p blk num val) w w' ∧ ∀ k, Ft p blk num val' k → Ft p blk num val k ∨ w.heap.size ≤ k := by
  have hrl := row_le num ents true hnx
  obtain ⟨T, hT⟩ : ∃ T, T = ents true next := ⟨_, rfl⟩
  rw [← hT] at hok hrl ⊢
  have hO := h.own true next hnx
  rw [← hT] at hO
  obtain ⟨left, hleft⟩ : ∃ left, left = T.length - (4 - moved) := ⟨_, rfl⟩
  have hll : left ≤ T.length := by omega
  have HH := Hid.mk2 h
  have HT := Hid.mk2 hT
  have HOK := Hid.mk2 hok
  have HFL := Hid.mk2 hfl
  have HNN := Hid.mk2 hn
  have HLF := Hid.mk2 hleft
  have nx2 : (next : Int) < (num true : Int) := by omega
  obtain ⟨V, hV⟩ : ∃ V, V = val true next := ⟨_, rfl⟩
  rw [← hV] at hO
  have c1 := h.oldc
  unfold osl at c1
  rw [if_neg (by omega)] at c1
  have c2 := h.nextc
  have c3 := h.cell true next hnx
  rw [← hV] at c3
  have c4 := h.movedc
  have HO := Hid.mk2 hO
  have HV := Hid.mk2 hV
  have hpl := h.plt.2
  clear h hT hok hfl hn hV hO
  obtain ⟨ao, cap, hVe, hc1, hc2, -⟩ := HO.out.at
  subst hVe
  unfold maxLen at hc2
  go_enter Try.func46, Try.ntmps46
  go_upto_region 0 with (fail)
  go_cut [2] from 6 (fun s2 wx => s2 = .slice ao T.length cap ∧ Hid (Below w.heap.size w wx))
  case first =>
    go_quiet (fail)
    go_wp2
    go_meet
    case rel => exact ⟨rfl, below_drewR (Below.refl _ _) _⟩
  case rest =>
  obtain ⟨rfl, HB1⟩ := hcut
  obtain ⟨w1, hw1⟩ : ∃ x, x = wc := ⟨_, rfl⟩
  rw [← hw1] at HB1 ⊢
  have d4 := (bcl HB1.out _ _ hpl).trans c4
  clear hw1 c1 c2 c3 c4
  go_upto_region 1 with (fail)
  go_cut [3] from 6 (fun s3 wx => s3 = .int .i64 left ∧ wx = w1)
  case first =>
    by_cases hc : 4 - moved < T.length
    · have g1 : (0 : Int) < (T.length : Int) - (4 - (moved : Int)) := by omega
      go_wp2
      go_meet
      case rel => exact ⟨by first | rfl | (congr 1; omega) | (simp; omega), rfl⟩
    · have g1 : ¬ (0 : Int) < (T.length : Int) - (4 - (moved : Int)) := by omega
      go_wp2
      go_meet
      case rel => exact ⟨by first | rfl | (congr 1; omega) | (simp; omega), rfl⟩
  case rest =>
  obtain ⟨rfl, hwc⟩ := hcut
  obtain ⟨D, hD⟩ : ∃ D, D = T.drop left := ⟨_, rfl⟩
  have hDl : D.length = T.length - left := by rw [hD]; simp
  have HD := Hid.mk2 hD
  have HDL := Hid.mk2 hDl
  have hDT : D.length ≤ T.length := by omega
  clear hD d4 hDl
  subst hwc
  clear hleft
  obtain ⟨w1, hw1⟩ : ∃ x, x = wc := ⟨_, rfl⟩
  rw [← hw1] at HB1 ⊢
  clear hw1
  go_upto_region 2 with (fail)
  go_cut [27, 28, 29] from 6 (fun s27 s28 s29 wx => ∃ A c, s27 = .slice A D.length c ∧ s28 = .int .i64 D.length ∧ s29 = .int .i64 0 ∧ wx = w1 ∧ D.length ≤ c ∧ Hid (∀ W, OwnR W base (.slice ao T.length cap) T → TAt W A D))
  case first =>
    rcases HO.out.row with ⟨e1, e2⟩ | ⟨g, cap', e1, -, -, -⟩
    · obtain ⟨rfl, e3, rfl⟩ := Value.slice.inj e1
      subst e2
      obtain rfl : left = 0 := by simpa using hll
      have hd0 : D.length = 0 := by have := HDL.out; simpa using this
      have hdn : D = [] := List.eq_nil_of_length_eq_zero hd0
      subst hdn
      go_wp2
      go_meet
      case rel => exact ⟨none, 0, rfl, rfl, rfl, rfl, Nat.le_refl _, fun W _ => .inl rfl⟩
    · obtain ⟨rfl, -, rfl⟩ := Value.slice.inj e1
      by_cases hcl : cap = left
      · have hd0 : D.length = 0 := by have := HDL.out; omega
        have hdn : D = [] := List.eq_nil_of_length_eq_zero hd0
        have hTl : T.length = left := by omega
        go_wp2
        go_meet
        case rel =>
          refine ⟨some ⟨g, 0, none⟩, cap - left, ?_, ?_, rfl, rfl, (by have := HDL.out; omega), fun W _ => .inl hdn⟩
          · first | rfl | (rw [hd0, show cap - left = 0 by omega]; done) | (rw [hd0, show cap - left = 0 by omega]; rfl)
          · first | rfl | (rw [hd0]; done) | (rw [hd0]; rfl) | (rw [hd0]; simp; omega)
      · have hcl2 : ¬ left = cap := fun e => hcl e.symm
        go_wp2
        go_meet
        case rel =>
          refine ⟨some ⟨g, left * 3, none⟩, cap - left, ?_, ?_, rfl, rfl, (by have := HDL.out; omega), fun W hO => ?_⟩
          · first | rfl | (rw [HDL.out]; done) | (rw [HDL.out]; rfl)
          · first | rfl | (rw [HDL.out]; done) | (rw [HDL.out]; rfl) | (rw [HDL.out]; simp; done) | (rw [HDL.out]; congr 1; omega)
          · obtain ⟨ao', cap', e, _, _, h3⟩ := hO.at
            cases e
            have h4 := h3.drop left
            rw [Nat.zero_add, ← HD.out] at h4
            exact h4
  case rest =>
  obtain ⟨A, c, rfl, rfl, rfl, hwc2, hcD, HAT⟩ := hcut
  subst hwc2
  have hTn : T.length ≤ 400000 := Nat.le_trans hrl HFL.out
  go_wp2
  go_loopw [29] (fun s29 wr => ∃ (i : Nat) (val' : Bool → Nat → Value), i ≤ D.length ∧ s29 = .int .i64 i ∧ Hid (Tm wr base p blk num val' (standAll (num false) ents (D.take i)) next many moved) ∧ Hid (val' true = val true) ∧ Hid (Kept (Ft p blk num val) w wr) ∧ Hid (∀ k, Ft p blk num val' k → Ft p blk num val k ∨ w.heap.size ≤ k)) (fun s29 _ => D.length - (intOf s29).toNat)
  case atStart => exact ⟨0, val, Nat.zero_le _, rfl, HH.out.below HB1.out, rfl, Kept.below HB1.out, fun k hk => .inl hk⟩
  case round =>
    obtain ⟨i, val', hi, rfl, HTm, HVT, HK, HF⟩ := hrel
    have HOw : Hid (OwnR wr base (.slice ao T.length cap) T) := by
      have h1 := HTm.out.own true next hnx
      rw [HVT.out, standAll_old, ← HV.out, ← HT.out] at h1
      exact h1
    by_cases hlt : i < D.length
    · have hlt2 : (i : Int) < (D.length : Int) := by omega
      rcases HAT.out wr HOw.out with h0 | ⟨b, off, rfl, hbb, hcs⟩
      · rw [h0] at hlt; simp at hlt
      obtain ⟨c0, c1, c2⟩ := hcs i hlt
      obtain ⟨z, hz⟩ : ∃ z, z = D[i] := ⟨_, rfl⟩
      rw [← hz] at c0 c1 c2
      have HZ := Hid.mk2 hz
      clear hz hcs
      go_upto_region 5 with (fail)
      obtain ⟨w5, hw5⟩ : ∃ x, x = wr.alloc (Obj.cells #[.int .i64 z.1.tenant, .string z.1.key, .int .i64 z.2] 64) := ⟨_, rfl⟩
      obtain ⟨X, hX⟩ : ∃ x, x = wr.heap.size := ⟨_, rfl⟩
      rw [← hw5, ← hX]
      have a0 : w5.cell? ⟨X, 0, none⟩ = some (.int .i64 z.1.tenant) := by rw [hw5, hX]; simp
      have a1 : w5.cell? ⟨X, 1, none⟩ = some (.string z.1.key) := by rw [hw5, hX]; simp
      have a2 : w5.cell? ⟨X, 2, none⟩ = some (.int .i64 z.2) := by rw [hw5, hX]; simp
      have HB5 : Hid (Below wr.heap.size wr w5) := by rw [hw5]; exact (Below.refl _ _).alloc (Nat.le_refl _) _
      clear hw5 hX c0 c1 c2
      have HLB : Hid ((standAll (num false) ents (D.take i) false (rix z.1 (num false))).length + 1 ≤ 1000000) := by
        have h1 := row_le num (standAll (num false) ents (D.take i)) false (rix_lt z.1 HH.out.pos)
        have h2 := (standAll_flat num HH.out.pos (D.take i) ents).length_eq
        rw [List.length_append] at h2
        have h3 := HFL.out
        have h4 : (D.take i).length ≤ D.length := by simp; omega
        show _ ≤ _
        omega
      have HZK : Hid (z.1.ok) := HOK.out z (List.mem_of_mem_drop (i := left) (by rw [← HD.out, HZ.out]; exact List.getElem_mem hlt))
      have HST := Hid.mk2 (stand_any w5 base p blk num val' _ next many moved (HTm.out.below HB5.out) (HNN.out false) z HZK.out HLB.out)
      go_wp2_with (go_at_call 24; refine HST.out.mono ?_; rintro e w6 ⟨rfl, v, hT6, hK6, hF6⟩)
      go_roundw
      case rel =>
        refine ⟨i + 1, up2 val' false (rix z.1 (num false)) v, by omega, by go_num, ?_, ?_, ?_, ?_⟩
        · show Tm _ _ _ _ _ _ _ _ _ _
          rw [List.take_succ_eq_append_getElem hlt, ← HZ.out, standAll_snoc]
          exact hT6
        · show _ = _
          rw [← HVT.out]
          funext j
          simp [up2]
        · exact (HK.out.trans (Kept.below (F := Ft p blk num val) HB5.out) (fun k hk => .inl hk)).trans hK6 HF.out
        · intro k hk
          rcases hF6 k hk with g | g
          · exact HF.out k g
          · exact .inr (Nat.le_trans HK.out.size (Nat.le_trans HB5.out.size g))
      case measure => simp [intOf]; omega
    · have hlt2 : ¬ (i : Int) < (D.length : Int) := by omega
      have hkt : D.take i = D := List.take_of_length_le (by omega)
      rw [hkt] at HTm
      have c4 := HTm.out.movedc
      have f4 := HTm.out.pfree 5
      have hpr := HTm.out.plt.2
      clear hkt
      go_upto_region 8 with (fail)
      have em : ((moved : Int) + ((T.length : Int) - (left : Int))) = ((moved + (T.length - left) : Nat) : Int) := by omega
      rw [em]
      obtain ⟨w8, hw8⟩ : ∃ x, x = wr.setCell ⟨p, 5, none⟩ (.int .i64 ((moved + (T.length - left) : Nat) : Int)) := ⟨_, rfl⟩
      rw [← hw8]
      have HT8 : Hid (Tm w8 base p blk num val' (standAll (num false) ents D) next many (moved + (T.length - left))) := by rw [hw8]; exact HTm.out.setMoved _
      have HK8 : Hid (Kept (Ft p blk num val) w w8) := by rw [hw8]; exact HK.out.trans (Kept.set (F := Ft p blk num val) wr (.inl rfl) 5 _) (fun k hk => .inl hk)
      clear hw8 em c4 f4 hpr HTm HK HOw HAT
      obtain ⟨MV, hMV⟩ : ∃ MV, MV = moved + (T.length - left) := ⟨_, rfl⟩
      rw [← hMV] at HT8
      have HMV := Hid.mk2 hMV
      clear hMV
      have HO8 : Hid (∀ W, Below w8.heap.size w8 W → OwnR W base (.slice ao T.length cap) T) := by
        intro W hb
        have h1 := (HT8.out.below hb).own true next hnx
        rw [HVT.out, standAll_old, ← HV.out, ← HT.out] at h1
        exact h1
      have HC8 : Hid (∀ W, Below w8.heap.size w8 W → W.cell? ⟨p, 2, none⟩ = some (.slice (some ⟨blk true, 0, none⟩) (num true) (num true)) ∧ W.cell? ⟨p, 3, none⟩ = some (.int .i64 next)) := by
        intro W hb
        have h1 := (HT8.out.below hb).oldc
        unfold osl at h1
        rw [if_neg (by omega)] at h1
        exact ⟨h1, (HT8.out.below hb).nextc⟩
      have HDE := Hid.mk2 (fun W (hb : Below w8.heap.size w8 W) => delete_any W base _ T (HO8.out W hb) left T.length hll (Nat.le_refl _))
      rw [List.drop_length, List.append_nil] at HDE
      obtain ⟨q2, q3⟩ := HC8.out _ (Below.refl _ _)
      have HVX : Hid (val' true next = .slice ao T.length cap) := by show _ = _; rw [HVT.out, ← HV.out]
      go_region_with (go_at_call 29; refine (HDE.out _ (by first | exact Below.refl _ _ | exact (Below.refl _ _).drew)).mono ?_; rintro e w9 ⟨ro, rcp, rfl, hO9, hg9, hb9⟩; have HG9 : Hid (w8.grownBy w9 (val' true next).ownBlock) := (by rw [HVX.out]; first | exact hg9 | exact (show w8.grownBy w9 _ from ⟨hg9.os, hg9.tape, hg9.output, hg9.size, hg9.block⟩)); have ep : w9.heap[p]? = w8.heap[p]? := HG9.out.block p HT8.out.plt.2 (fun e => (HT8.out.far true next p hnx e.symm).1 rfl); have ebk : w9.heap[blk true]? = w8.heap[blk true]? := HG9.out.block _ (HT8.out.pblk true (by omega)).2.2 (fun e => (HT8.out.far true next _ hnx e.symm).2 true (by omega) rfl); clear q2 q3; obtain ⟨r2, r3⟩ := HC8.out _ (Below.refl _ _); have q2 := (World.cell?_of_block (a := ⟨p, 2, none⟩) ep).trans r2; have q3 := (World.cell?_of_block (a := ⟨p, 3, none⟩) ep).trans r3; have qc := (World.cell?_of_block (a := ⟨blk true, next, none⟩) ebk).trans (HT8.out.cell true next hnx); have qf := (World.frozen?_of_block (a := ⟨blk true, next, none⟩) ebk).trans (HT8.out.free true (by omega) next); clear r2 r3)
      all_goals
        go_end0
        have hlv : ∀ g, (Value.slice ro (T.take left).length rcp).ownBlock = some g → (val' true next).ownBlock = some g ∨ w8.heap.size ≤ g := fun g hg => .inl (by rw [HVX.out, ← hb9]; exact hg)
        have htl : (T.take left).length = left := by simp; omega
        refine ⟨rfl, up2 val' true next (Value.slice ro (T.take left).length rcp), left, HLF.out, ?_, ?_, ?_⟩
        · have := HT8.out.slotSet hnx HG9.out _ _ hO9 hlv
          rw [← HMV.out, ← HD.out]
          first
            | exact this
            | exact this.below ((Below.refl _ _).drew)
            | (rw [htl] at this ⊢; exact this)
        · have hk1 : Kept (Ft p blk num val) w w9 := HK8.out.trans (Kept.grown (F := Ft p blk num val') HG9.out (fun j hj => .inl (.inr (.inr ⟨true, next, hnx, hj⟩)))) HF.out
          have := hk1.trans (Kept.set (F := Ft p blk num val) w9 (g := blk true) (.inr (.inl ⟨true, by omega, rfl⟩)) next (Value.slice ro (T.take left).length rcp)) (fun k hk => .inl hk)
          first | exact this | (rw [htl] at this; exact this) | (rw [htl] at this ⊢; exact this)
        · intro k hk
          rcases Ft.slot (w := w8) hnx hlv k hk with g | g
          · exact HF.out k g
          · exact .inr (Nat.le_trans HK8.out.size g)
end Go.Proofs.Ytlomciinkpecpaa
