/-
  The table's All once more: the cells of what it answers may be written to.
-/
import Derived.Test.YtlomciinkpecpaaTdAll
namespace Go.Proofs.Ytlomciinkpecpaa
open Go.RowKit Go.Shelf Go.Lib Go.Sort
set_option linter.unusedSimpArgs false
set_option linter.unusedVariables false
set_option maxRecDepth 100000

/-- the cells of names that are answered may be written to -/
def NsF (w : World) (ao : Option Addr) (n : Nat) : Prop := n = 0 ∨ ∃ b, ao = some ⟨b, 0, none⟩ ∧ ∀ i, i < n → w.frozen? ⟨b, i * 2, none⟩ = false ∧ w.frozen? ⟨b, i * 2 + 1, none⟩ = false
theorem sort_any2 (w : World) (base : Nat) (v : Value) (D : List Nm) (hT : OwnN w base v D) (hlen : D.length ≤ 100000000) :
    Calls Try.prog 27 #[v, .func (.func 28) #[] #[]] w fun e w' => e = .returned (.tuple #[]) ∧ w.grownBy w' v.ownBlock ∧ ∃ ao cap, v = .slice ao (sortN D).length cap ∧ (sortN D).length ≤ cap ∧ cap ≤ maxLen ∧ NsAt w' ao (sortN D) ∧ NsF w' ao (sortN D).length := by
  have hSl : (sortN D).length = D.length := (sortN_perm D).length_eq
  rcases h2 : hT.2 with ⟨e1, hn⟩ | ⟨g, cap, cur, e1, hb, hg, hnc, hcm, hcs, htake⟩
  · have hD : D = [] := List.eq_nil_of_length_eq_zero hn
    subst hD e1
    refine (AnyF.slices_SortFunc_none Try.sortN none 0 (.func (.func 28) #[] #[]) w).mono ?_
    rintro e w' ⟨rfl, rfl⟩
    exact ⟨rfl, World.grownBy.refl _ _, none, 0, by rw [hSl]; rfl, by simp [sortN], by simp [maxLen], .inl (by simp [sortN]), .inl (by simp [sortN])⟩
  · subst e1
    have hgl : g < w.heap.size := (Array.getElem?_eq_some_iff.1 hg).1
    have hH : HoldsK ncells 2 w g 0 D.toArray := by
      intro j hj
      have hj2 : j < D.length * 2 := by simpa using hj
      have hi : j / 2 < D.length := by omega
      refine ⟨?_, by simp [World.frozen?, hg]⟩
      have h1 := flatN_get D (j / 2) (j % 2) hi (by omega)
      rw [show j / 2 * 2 + j % 2 = j by omega] at h1
      have h3 := World.ownsRow.cells hT (g := g) rfl j _ h1
      rw [addr_add] at h3
      rw [h3, get_flatK _ _ _ _ (by simpa using hj2)]
      congr 1
      have e2 : D.toArray[j / 2]! = D[j / 2] := by simp [hi]
      rw [e2]
      show _ = id _
      have : j % 2 = 0 ∨ j % 2 = 1 := by omega
      rcases this with h | h <;> simp [h, ncells]
    have eg : ∀ args w, (callFunc 28 args).run Try.prog w = .ok (.enter 28 args) w := enters_of Try.func28 (by kernel_rfl) rfl
    have hcon := AnyQ.slices_SortFunc_total Try.sortN 2 Try.isAgg28 Try.sizeOf28 ncells (fun _ => rfl) (fun y u hu => ncells_one [y] u (by simpa using hu)) cmpN cmpN_swo 28 #[] g 0 cap D.toArray w eg (fun _ _ _ _ x y => rising_any x y _) hH hgl (by simp; omega) cmpN_total
    have hl : D.toArray.size = D.length := by simp
    rw [hl] at hcon
    refine hcon.mono ?_
    rintro e w' ⟨rfl, n, os, rfl⟩
    refine ⟨rfl, grownBy_sortN _, some ⟨g, 0, none⟩, cap, by rw [hSl], by omega, hcm, .inr ⟨g, rfl, ?_, fun i hi => ?_⟩, .inr ⟨g, rfl, fun i hi => ?_⟩⟩
    · exact Nat.lt_of_lt_of_le hgl (grownBy_sortN (w := w) (g := g) (n := n) (os := os) _).size
    · have hK := holdsK_sortWorldK_c ncells 2 w g 0 D.toArray (sortN D).toArray n os hH hgl (by simp [hSl])
      have e2 : (sortN D).toArray[i]! = (sortN D)[i] := by simp [hi]
      have a0 := (hK.cell (i := i) (c := 0) (by simpa using hi) (by omega)).1
      have a1 := (hK.cell (i := i) (c := 1) (by simpa using hi) (by omega)).1
      rw [e2] at a0 a1
      simp only [Nat.zero_add] at a0 a1
      exact ⟨a0, a1⟩
    · have hK := holdsK_sortWorldK_c ncells 2 w g 0 D.toArray (sortN D).toArray n os hH hgl (by simp [hSl])
      have a0 := (hK.cell (i := i) (c := 0) (by simpa using hi) (by omega)).2
      have a1 := (hK.cell (i := i) (c := 1) (by simpa using hi) (by omega)).2
      simp only [Nat.zero_add] at a0 a1
      exact ⟨a0, a1⟩
set_option maxHeartbeats 2000000 in
theorem all_ok2 (w : World) (base p : Nat) (T : List NU) (moved C : Nat) (F : Nat → Prop) (h : TB w base p T moved C F) (hC : T.length ≤ C) (hC2 : C ≤ 200000) :
    Calls Try.prog 11 #[.pointer (some ⟨p, 0, none⟩)] w fun e w' => ∃ ao cap S, e = .returned (.tuple #[.slice ao T.length cap, .int .i64 0]) ∧ Alls w w' T ao cap S ∧ NsF w' ao T.length := by
  obtain ⟨blk, num, val, ents, next, hm, hI, hP, hN, rfl⟩ := h
  have hmade := isMade_any w p hm.self
  have c4 := hm.manyc
  have hf0 := hm.pblk false hm.pos
  have HR1 : Hid (RwAt w base (some ⟨blk false, 0, none⟩) (num false) (val false) (ents false)) := .inr ⟨_, rfl, hf0.2.2, fun i hi => ⟨hm.cell false i hi, hm.own false i hi⟩⟩
  obtain ⟨oo, ho1, ho2⟩ : ∃ oo, osl blk num = .slice oo (num true) (num true) ∧ RwAt w base oo (num true) (val true) (ents true) := by
    unfold osl
    by_cases h0 : num true = 0
    · exact ⟨none, by rw [if_pos h0, h0], .inl h0⟩
    · exact ⟨some ⟨blk true, 0, none⟩, by rw [if_neg h0], .inr ⟨_, rfl, (hm.pblk true (by omega)).2.2, fun i hi => ⟨hm.cell true i hi, hm.own true i hi⟩⟩⟩
  have c2 := hm.oldc
  rw [ho1] at c2
  have c1 := hm.rowsc
  have hp := hm.plt.2
  have hn0 := hN false
  have hn1 := hN true
  have hcnt := hI.cnt
  have hfl : (flat num ents).length = (rowsOf (num true) (ents true)).length + (rowsOf (num false) (ents false)).length := by unfold flat; simp
  have HAD1 := Hid.mk2 (fun w1 v (hO : OwnN w1 w.heap.size v []) hb => addNames_any w w1 base v [] oo (num true) (val true) (ents true) hO hb ho2 (by omega) (by simp; omega))
  have HAD2 := Hid.mk2 (fun w1 v (hO : OwnN w1 w.heap.size v ([] ++ (rowsOf (num true) (ents true)).map Prod.fst)) hb => addNames_any w w1 base v _ (some ⟨blk false, 0, none⟩) (num false) (val false) (ents false) hO hb HR1.out (by omega) (by simp; omega))
  have HFE : Hid ([] ++ (rowsOf (num true) (ents true)).map Prod.fst ++ (rowsOf (num false) (ents false)).map Prod.fst = (flat num ents).map Prod.fst) := by unfold Hid flat; simp
  rw [HFE.out] at HAD2
  have HD : Hid ((sortN ((flat num ents).map Prod.fst)).Perm (T.map Prod.fst)) := (sortN_perm _).trans (hP.map _)
  have HDR : Hid ((sortN ((flat num ents).map Prod.fst)).Pairwise nlt) := sortN_rise (List.pairwise_map.2 hI.apart)
  have HSO := Hid.mk2 (fun w1 v (hO : OwnN w1 w.heap.size v ((flat num ents).map Prod.fst)) => sort_any2 w1 w.heap.size v _ hO (by simp; omega))
  obtain ⟨S, hS⟩ : ∃ S, S = sortN ((flat num ents).map Prod.fst) := ⟨_, rfl⟩
  rw [← hS] at HD HDR HSO
  have hSl : S.length = T.length := by have := HD.out.length_eq; simpa using this
  have HSL := Hid.mk2 hSl
  rw [hSl] at HSO
  have hT2 : T.length ≤ 200000 := by omega
  clear hm hI hP hN HR1 ho1 ho2 hf0 hn0 hn1 hcnt hfl hS hSl HFE
  obtain ⟨i0, hi, hz0, hz1, hz2⟩ := info_parts Try.infoName
  go_enter Try.func11, Try.ntmps11
  go_upto_region 3 with (go_at_call 25; refine hmade.mono ?_; rintro e w0 ⟨rfl, hw0⟩; obtain rfl : w = w0 := hw0.symm)
  go_upto_region 4 with (at_make; refine wpList_make_own _ rfl (.const (.int .i64 0)) (.tmp 11) 30 rfl w.heap.size 28 i0 _ 2 Try.underlying30 hi hz0 hz1 .i64 .i64 _ T.length rfl rfl (by first | rfl | go_num) (by rw [hz2]; omega) (by unfold maxLen; omega) (Nat.le_refl _) ?_; intro w1 hrow1 hg1)
  have hb1 : Below w.heap.size w w1 := ⟨hg1.os, hg1.tape, hg1.output, hg1.size, fun k hk => hg1.block k hk (by simp)⟩
  have HO1 : Hid (OwnN w1 w.heap.size (.slice (some ⟨w.heap.size, 0, none⟩) 0 T.length) []) := hrow1
  have d2 := (bcl hb1 _ 2 hp).trans c2
  have d1 := (bcl hb1 _ 1 hp).trans c1
  have HB1 := Hid.mk2 hb1
  clear hrow1 hg1 hb1 hi hz0 hz1 hz2 c2
  go_upto_region 5 with (go_at_call 26; refine (HAD1.out _ _ HO1.out HB1.out).mono ?_; rintro e w2 ⟨v2, rfl, hO2, hb2⟩; have HO2 := Hid.mk2 hO2; have HB2 := Hid.mk2 hb2; clear hO2 hb2)
  have e1 := (bcl HB2.out _ 1 hp).trans c1
  clear d2 d1
  go_upto_region 6 with (go_at_call 26; refine (HAD2.out _ _ HO2.out HB2.out).mono ?_; rintro e w3 ⟨v3, rfl, hO3, hb3⟩; have HO3 := Hid.mk2 hO3; have HB3 := Hid.mk2 hb3; clear hO3 hb3)
  clear e1 c1 c4
  go_wp2_with (go_at_call 27; refine (HSO.out _ _ HO3.out).mono ?_; rintro e w4 ⟨rfl, hg4, ao, cap, rfl, hlc, hcm, hNA, hNF⟩)
  try simp only [Exit.inBlock, Exit.then]
  refine bodyPost_ret (v := .tuple #[.slice ao T.length cap, .int .i64 0]) (by simp [results, Try.results11, go_sem]) rfl ⟨ao, cap, S, rfl, ⟨HD.out, HDR.out, HSL.out, by rw [HSL.out]; exact hlc, hcm, hNA, ?_, ?_⟩, hNF⟩
  · rintro b rfl
    exact (HO3.out.lt b.block rfl).1
  · exact HB3.out.grown hg4 HB3.out.size (fun k hk => (HO3.out.lt k hk).1)
end Go.Proofs.Ytlomciinkpecpaa
