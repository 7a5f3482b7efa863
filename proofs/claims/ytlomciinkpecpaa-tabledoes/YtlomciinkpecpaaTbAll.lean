/-
  All: its gathering, and its contract.
-/
import Derived.Test.YtlomciinkpecpaaTbSorts
namespace Go.Proofs.Ytlomciinkpecpaa
open Go.RowKit
set_option linter.unusedSimpArgs false
set_option linter.unusedVariables false
set_option maxRecDepth 100000

theorem ncells_one1 (q : Nm) : ∀ u ∈ ncells q, u.oneCell' = true := fun u hu => ncells_one [q] u (by simpa using hu)
theorem app_n1 {w w0 : World} {ops : Array Oper} {rest : List Oper} {o : Oper} {a : Act} {Q : Exit → Act → World → Prop} (hgd : o.guard = none) (s x : Operand) (ho : o.op = .call { callee := .builtin .append, args := #[s, x], argTypes := #[30, 30] })
    (base : Nat) (v : Value) (T : List Nm) (hown : OwnN w0 base v T) (hs : a.eval s = v) (q : Nm) (hw : w = w0.alloc (.cells (ncells q).toArray 28)) (H : Nat) (hx : a.eval x = .slice (some ⟨H, 0, none⟩) 1 1) (hH : H = w0.heap.size)
    (hlen : T.length + 1 ≤ 100000000) (hbase : base ≤ w0.heap.size)
    (h : ∀ v' w', OwnN w' base v' (T ++ [q]) → Grew w0 w' v v' → wpList Try.prog ops Q rest (a.put o.dst v') w') : wpList Try.prog ops Q (o :: rest) a w := by
  subst hH hw
  obtain ⟨i0, hi, hz0, hz1, hz2⟩ := info_parts Try.infoName
  have hm : maxLen = 9223372036854775807 := rfl
  refine wpList_append_own_at _ hgd s x 30 ho base 28 i0 _ 2 24 Try.underlying30 hi hz0 hz1 hz2 rfl (by decide) v T.length (T.flatMap ncells) hs (World.ownsRow.alloc hown _) ⟨w0.heap.size, 0, none⟩ 1 1 (ncells q) hx (by rw [ncells_len]) ?_ (ncells_one1 q) (by omega) (by omega) (by simp; omega) ?_
  · intro j u hu
    rw [addr_add]
    simp only [Nat.zero_add]
    have hj := (List.getElem?_eq_some_iff.1 hu).1
    have : u = (ncells q)[j] := by simpa [hj] using hu.symm
    subst this
    simp [hj]
  · intro v' w' h1 h2 h3 h4
    refine h v' w' ?_ ⟨(World.grownBy_alloc w0 _ _).trans h2, fun k hk => ?_⟩
    · have e : (T ++ [q]).length = T.length + 1 := by simp
      unfold OwnN
      rw [e, List.flatMap_append, List.flatMap_singleton]
      exact h1
    · rcases h4 with h4 | h4
      · exact .inl (h4 ▸ hk)
      · rw [h4] at hk
        cases hk
        exact .inr (by simp)


theorem OwnN.alloc {w : World} {base : Nat} {v : Value} {T : List Nm} (h : OwnN w base v T) (o : Obj) : OwnN (w.alloc o) base v T := World.ownsRow.alloc h o
theorem rowsOf_succ (k : Nat) (f : Nat → List NU) : rowsOf (k + 1) f = rowsOf k f ++ f k := by
  unfold rowsOf
  rw [List.range_succ, List.flatMap_append]
  simp
theorem rowsOf_le {k n : Nat} (h : k ≤ n) (f : Nat → List NU) : (rowsOf k f).length ≤ (rowsOf n f).length := by
  induction h with
  | refl => exact Nat.le_refl _
  | step _ ih => rw [rowsOf_succ, List.length_append]; omega
/-- rows of entries that are read -/
def RwAt (W : World) (base : Nat) (ao : Option Addr) (n : Nat) (val : Nat → Value) (ents : Nat → List NU) : Prop :=
  n = 0 ∨ ∃ blk, ao = some ⟨blk, 0, none⟩ ∧ blk < W.heap.size ∧ ∀ i, i < n → W.cell? ⟨blk, i, none⟩ = some (val i) ∧ OwnR W base (val i) (ents i)
set_option maxHeartbeats 2000000 in
theorem addNames_any (W w : World) (base : Nat) (v : Value) (ns : List Nm) (ao : Option Addr) (n : Nat) (val : Nat → Value) (ents : Nat → List NU)
    (hO : OwnN w W.heap.size v ns) (hb : Below W.heap.size W w) (hR : RwAt W base ao n val ents) (hn : n ≤ 1000000) (hl : ns.length + (rowsOf n ents).length ≤ 1000000) :
    Calls Try.prog 26 #[v, .slice ao n n] w fun e w' => ∃ v', e = .returned v' ∧ OwnN w' W.heap.size v' (ns ++ (rowsOf n ents).map Prod.fst) ∧ Below W.heap.size W w' := by
  have HO0 := Hid.mk2 hO
  have HB0 := Hid.mk2 hb
  have HR := Hid.mk2 hR
  have HLE : Hid (∀ k, k < n → ns.length + (rowsOf k ents).length + (ents k).length ≤ 1000000) := fun k hk => by
    have := rowsOf_le (show k + 1 ≤ n from hk) ents
    rw [rowsOf_succ, List.length_append] at this
    omega
  clear hO hb hR hl
  go_enter Try.func26, Try.ntmps26
  go_wp2
  go_loopw [0, 11] (fun s0 s11 wr => ∃ k : Nat, k ≤ n ∧ s11 = .int .i64 k ∧ Hid (OwnN wr W.heap.size s0 (ns ++ (rowsOf k ents).map Prod.fst)) ∧ Hid (Below W.heap.size W wr)) (fun _ s11 _ => n - (intOf s11).toNat)
  case atStart => exact ⟨0, Nat.zero_le _, rfl, Hid.mk2 (by simpa [rowsOf] using HO0.out), HB0⟩
  case round =>
    obtain ⟨k, hk, rfl, HO, HB⟩ := hrel
    by_cases hlt : k < n
    · have hlt2 : (k : Int) < (n : Int) := by omega
      rcases HR.out with h0 | ⟨blk, rfl, hblk, hrow⟩
      · omega
      obtain ⟨hc, hown⟩ := hrow k hlt
      obtain ⟨ro, rc, hv, hrl, hrc, hT⟩ := hown.at
      rw [hv] at hc
      have ck := (HB.out.cell (p := ⟨blk, k, none⟩) hblk).trans hc
      have hle := HLE.out k hlt
      have HRS := Hid.mk2 (rowsOf_succ k ents)
      have HML : Hid ((ns ++ (rowsOf k ents).map Prod.fst).length = ns.length + (rowsOf k ents).length) := by simp [Hid]
      obtain ⟨M, hM⟩ : ∃ M, M = ns ++ (rowsOf k ents).map Prod.fst := ⟨_, rfl⟩
      obtain ⟨E, hE⟩ : ∃ E, E = ents k := ⟨_, rfl⟩
      rw [← hM] at HO HML
      rw [← hE] at ck hrl hT hle HRS
      have HM := Hid.mk2 hM
      have HTA := Hid.mk2 hT
      unfold maxLen at hrc
      have hEl : E.length ≤ 1000000 := by omega
      have hMl : M.length + E.length ≤ 1000000 := by have := HML.out; omega
      clear hM hE hT hc hown hv hrow hle HML HO0 HB0
      go_wp2
      go_loopw [0, 17] (fun s0 s17 wz => ∃ j : Nat, j ≤ E.length ∧ s17 = .int .i64 j ∧ Hid (OwnN wz W.heap.size s0 (M ++ (E.take j).map Prod.fst)) ∧ Hid (Below W.heap.size W wz)) (fun _ s17 _ => E.length - (intOf s17).toNat)
      case atStart => exact ⟨0, Nat.zero_le _, rfl, Hid.mk2 (by simpa using HO.out), HB⟩
      case round =>
        obtain ⟨j, hj, rfl, HOz, HBz⟩ := hrel
        by_cases hjl : j < E.length
        · have hjl2 : (j : Int) < (E.length : Int) := by omega
          rcases HTA.out with h0 | ⟨b, off, rfl, hbb, hcs⟩
          · rw [h0] at hjl; simp at hjl
          obtain ⟨q0, q1, q2⟩ := hcs j hjl
          have HTK : Hid (M ++ (E.take (j + 1)).map Prod.fst = M ++ (E.take j).map Prod.fst ++ [E[j].1]) := by
            unfold Hid
            rw [List.take_succ_eq_append_getElem hjl, List.map_append]
            simp
          obtain ⟨z, hz⟩ : ∃ z, z = E[j] := ⟨_, rfl⟩
          rw [← hz] at q0 q1 q2 HTK
          have d0 := (HBz.out.cell (p := ⟨b, off + j * 3, none⟩) hbb).trans q0
          have d1 := (HBz.out.cell (p := ⟨b, off + j * 3 + 1, none⟩) hbb).trans q1
          have d2 := (HBz.out.cell (p := ⟨b, off + j * 3 + 2, none⟩) hbb).trans q2
          have hLn : (M ++ (E.take j).map Prod.fst).length ≤ 1000000 := by simp; omega
          have hown := HOz.out.alloc (Obj.cells #[.int .i64 z.1.tenant, .string z.1.key, .int .i64 z.2] 64)
          have hbx := HBz.out.size
          clear hz hcs q0 q1 q2
          go_wp2_with (at_builtin; refine app_n1 rfl (.tmp 21) (.tmp 24) rfl W.heap.size _ _ hown rfl z.1 rfl _ rfl (by simp) (by omega) (by simp; omega) ?_; intro v4 w4 ho4 hg4)
          go_roundw
          case rel =>
            refine ⟨j + 1, by omega, by go_num, by rw [HTK.out]; exact ho4, ?_⟩
            exact (HBz.out.alloc hbx _).grown hg4.grown (by simp; omega) (fun k hk => (HOz.out.lt k hk).1)
          case measure => simp [intOf]; omega
        · have hjl2 : decide ((j : Int) < (E.length : Int)) = false := by simp; omega
          have hkt : E.take j = E := List.take_of_length_le (by omega)
          rw [hkt] at HOz
          clear hkt
          go_wp2
          go_roundw
          case rel =>
            refine ⟨k + 1, by omega, by go_num, ?_, HBz⟩
            rw [HRS.out, List.map_append, ← List.append_assoc, ← HM.out]
            exact HOz.out
          case measure => simp [intOf]; omega
    · have hlt2 : decide ((k : Int) < (n : Int)) = false := by simp; omega
      obtain rfl : k = n := by omega
      go_wp2
      try simp only [Exit.inBlock, Exit.then]
      refine bodyPost_ret (by simp [results, Try.results26, go_sem] <;> rfl) rfl ⟨_, rfl, HO.out, HB.out⟩
/-- what All leaves -/
structure Alls (w w' : World) (T : List NU) (ao : Option Addr) (cap : Nat) (S : List Nm) : Prop where
  perm : S.Perm (T.map Prod.fst)
  rise : S.Pairwise nlt
  len : S.length = T.length
  le : S.length ≤ cap
  cap : cap ≤ maxLen
  at_ : NsAt w' ao S
  new : ∀ b, ao = some b → w.heap.size ≤ b.block
  bel : Below w.heap.size w w'
set_option maxHeartbeats 2000000 in
theorem all_ok (w : World) (base p : Nat) (T : List NU) (moved C : Nat) (F : Nat → Prop) (h : TB w base p T moved C F) (hC : T.length ≤ C) (hC2 : C ≤ 200000) :
    Calls Try.prog 11 #[.pointer (some ⟨p, 0, none⟩)] w fun e w' => ∃ ao cap S, e = .returned (.tuple #[.slice ao T.length cap, .int .i64 0]) ∧ Alls w w' T ao cap S := by
  obtain ⟨blk, num, val, ents, next, hm, hI, hP, hN, rfl⟩ := h
  have hmade := isMade_any w p hm.self
  have c4 := hm.manyc
  have hf0 := hm.pblk false hm.pos
  have HR1 : Hid (RwAt w base (some ⟨blk false, 0, none⟩) (num false) (val false) (ents false)) := .inr ⟨_, rfl, hf0.2.2, fun i hi => ⟨hm.cell false i hi, hm.own false i hi⟩⟩
  obtain ⟨oo, ho1, ho2⟩ : ∃ oo, osl blk num = .slice oo (num true) (num true) ∧ RwAt w base oo (num true) (val true) (ents true) := by
    unfold osl
    by_cases h0 : num true = 0
    · exact ⟨none, by rw [if_pos h0, h0], .inl h0⟩
    · exact ⟨some ⟨blk true, 0, none⟩, by rw [if_neg h0], .inr ⟨_, rfl, (hm.pblk true (by omega)).2.2, fun i hi => ⟨hm.cell true i hi, hm.own true i hi⟩⟩⟩
  have c2 := hm.oldc
  rw [ho1] at c2
  have c1 := hm.rowsc
  have hp := hm.plt.2
  have hn0 := hN false
  have hn1 := hN true
  have hcnt := hI.cnt
  have hfl : (flat num ents).length = (rowsOf (num true) (ents true)).length + (rowsOf (num false) (ents false)).length := by unfold flat; simp
  have HAD1 := Hid.mk2 (fun w1 v (hO : OwnN w1 w.heap.size v []) hb => addNames_any w w1 base v [] oo (num true) (val true) (ents true) hO hb ho2 (by omega) (by simp; omega))
  have HAD2 := Hid.mk2 (fun w1 v (hO : OwnN w1 w.heap.size v ([] ++ (rowsOf (num true) (ents true)).map Prod.fst)) hb => addNames_any w w1 base v _ (some ⟨blk false, 0, none⟩) (num false) (val false) (ents false) hO hb HR1.out (by omega) (by simp; omega))
  have HFE : Hid ([] ++ (rowsOf (num true) (ents true)).map Prod.fst ++ (rowsOf (num false) (ents false)).map Prod.fst = (flat num ents).map Prod.fst) := by unfold Hid flat; simp
  rw [HFE.out] at HAD2
  have HD : Hid ((sortN ((flat num ents).map Prod.fst)).Perm (T.map Prod.fst)) := (sortN_perm _).trans (hP.map _)
  have HDR : Hid ((sortN ((flat num ents).map Prod.fst)).Pairwise nlt) := sortN_rise (List.pairwise_map.2 hI.apart)
  have HSO := Hid.mk2 (fun w1 v (hO : OwnN w1 w.heap.size v ((flat num ents).map Prod.fst)) => sort_any w1 w.heap.size v _ hO (by simp; omega))
  obtain ⟨S, hS⟩ : ∃ S, S = sortN ((flat num ents).map Prod.fst) := ⟨_, rfl⟩
  rw [← hS] at HD HDR HSO
  have hSl : S.length = T.length := by have := HD.out.length_eq; simpa using this
  have HSL := Hid.mk2 hSl
  rw [hSl] at HSO
  have hT2 : T.length ≤ 200000 := by omega
  clear hm hI hP hN HR1 ho1 ho2 hf0 hn0 hn1 hcnt hfl hS hSl HFE
  obtain ⟨i0, hi, hz0, hz1, hz2⟩ := info_parts Try.infoName
  go_enter Try.func11, Try.ntmps11
  go_upto_region 3 with (go_at_call 25; refine hmade.mono ?_; rintro e w0 ⟨rfl, hw0⟩; obtain rfl : w = w0 := hw0.symm)
  go_upto_region 4 with (at_make; refine wpList_make_own _ rfl (.const (.int .i64 0)) (.tmp 11) 30 rfl w.heap.size 28 i0 _ 2 Try.underlying30 hi hz0 hz1 .i64 .i64 _ T.length rfl rfl (by first | rfl | go_num) (by rw [hz2]; omega) (by unfold maxLen; omega) (Nat.le_refl _) ?_; intro w1 hrow1 hg1)
  have hb1 : Below w.heap.size w w1 := ⟨hg1.os, hg1.tape, hg1.output, hg1.size, fun k hk => hg1.block k hk (by simp)⟩
  have HO1 : Hid (OwnN w1 w.heap.size (.slice (some ⟨w.heap.size, 0, none⟩) 0 T.length) []) := hrow1
  have d2 := (bcl hb1 _ 2 hp).trans c2
  have d1 := (bcl hb1 _ 1 hp).trans c1
  have HB1 := Hid.mk2 hb1
  clear hrow1 hg1 hb1 hi hz0 hz1 hz2 c2
  go_upto_region 5 with (go_at_call 26; refine (HAD1.out _ _ HO1.out HB1.out).mono ?_; rintro e w2 ⟨v2, rfl, hO2, hb2⟩; have HO2 := Hid.mk2 hO2; have HB2 := Hid.mk2 hb2; clear hO2 hb2)
  have e1 := (bcl HB2.out _ 1 hp).trans c1
  clear d2 d1
  go_upto_region 6 with (go_at_call 26; refine (HAD2.out _ _ HO2.out HB2.out).mono ?_; rintro e w3 ⟨v3, rfl, hO3, hb3⟩; have HO3 := Hid.mk2 hO3; have HB3 := Hid.mk2 hb3; clear hO3 hb3)
  clear e1 c1 c4
  go_wp2_with (go_at_call 27; refine (HSO.out _ _ HO3.out).mono ?_; rintro e w4 ⟨rfl, hg4, ao, cap, rfl, hlc, hcm, hNA⟩)
  try simp only [Exit.inBlock, Exit.then]
  refine bodyPost_ret (v := .tuple #[.slice ao T.length cap, .int .i64 0]) (by simp [results, Try.results11, go_sem]) rfl ⟨ao, cap, S, rfl, HD.out, HDR.out, HSL.out, by rw [HSL.out]; exact hlc, hcm, hNA, ?_, ?_⟩
  · rintro b rfl
    exact (HO3.out.lt b.block rfl).1
  · exact HB3.out.grown hg4 HB3.out.size (fun k hk => (HO3.out.lt k hk).1)
end Go.Proofs.Ytlomciinkpecpaa
